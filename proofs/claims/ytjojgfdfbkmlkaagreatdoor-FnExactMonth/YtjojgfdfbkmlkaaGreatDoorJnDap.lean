/- Contracts of both WhenOk: the same plain function. The model's WhenOk. What a saying is; contracts of both SayingOk: the same plain function. Contracts of the model's functions of Easter: each answers its plain function. -/
import Derived.Test.YtjojgfdfbkmlkaaGreatDoorWhnKndD
import Derived.Deep.DeepCutAuto
import Derived.Deep.CutBlock
import Derived.Test.YtjojgfdfbkmlkaaGreatDoorJnDaa
import Derived.Test.YtjojgfdfbkmlkaaGreatDoorJnDak
namespace Go.Proofs.YtjojgfdfbkmlkaaGreatDoor.ctr
open Go.RowKit
theorem toList_nil {f : ByteArray} (h : f.toList = []) : f = ⟨#[]⟩ := by
  rw [ByteArray.toList_eq] at h
  cases f with | mk d => cases d with | mk l => simp at h; rw [h]
def whnB (s : Whn) : Bool :=
  if s.kind = 0 then decide (s.rom.count = 0 ∧ s.rom.mark = 0 ∧ s.rom.month = 0 ∧ s.rom.twice = false ∧ s.feast.toList = [] ∧ s.plus = 0) && decide (1 ≤ s.mon ∧ s.mon ≤ 12 ∧ 1 ≤ s.day ∧ s.day ≤ 31)
  else if s.kind = 1 then decide (s.mon = 0 ∧ s.day = 0 ∧ s.feast.toList = [] ∧ s.plus = 0) && romB s.rom
  else if s.kind = 2 then decide (s.mon = 0 ∧ s.day = 0 ∧ s.rom.count = 0 ∧ s.rom.mark = 0 ∧ s.rom.month = 0 ∧ s.rom.twice = false) && (decide (0 ≤ findFeast s.feast) && (decide (0 ≤ s.plus) && decide (s.plus ≤ 99)))
  else false
set_option maxHeartbeats 2000000 in
theorem okDay (m d : Int) (w : World)  : Calls Tryz.prog 142 #[.agg #[.int .i64 0, .int .i64 m, .int .i64 d, .int .i64 0, .int .i64 0, .int .i64 0, .bool false, .string ⟨#[]⟩, .int .i64 0]] w fun e w' => e = .returned (.bool (decide (1 ≤ m ∧ m ≤ 12 ∧ 1 ≤ d ∧ d ≤ 31))) ∧ Below w.heap.size w w' := by
  have KK : ∀ W, Calls Tryz.prog 145 #[.agg #[.int .i64 0, .int .i64 m, .int .i64 d, .int .i64 0, .int .i64 0, .int .i64 0, .bool false, .string ⟨#[]⟩, .int .i64 0]] W fun e w' => e = .returned (.iface 227 (.agg #[.int .i64 m, .int .i64 d])) ∧ Below W.heap.size W w' := fun W => kindDay m d W
  have KR : ∀ W, Below w.heap.size w W → Calls Tryz.prog 399 #[.agg #[.int .i64 m, .int .i64 d]] W fun e w' => e = .returned (.bool (decide (1 ≤ m ∧ m ≤ 12 ∧ 1 ≤ d ∧ d ≤ 31))) ∧ Below W.heap.size W w' := fun W _ => implDayRight m d W
  generalize decide (1 ≤ m ∧ m ≤ 12 ∧ 1 ≤ d ∧ d ≤ 31) = B at *
  go_enter Tryz.func142, Tryz.ntmps142
  go_wp2_with fail
  refine (KK _).mono ?_
  rintro e w1 ⟨rfl, hb⟩
  have B0 : Below w.heap.size w (w.alloc (.cells #[.int .i64 0, .int .i64 m, .int .i64 d, .int .i64 0, .int .i64 0, .int .i64 0, .bool false, .string ⟨#[]⟩, .int .i64 0] 57)) := (Below.refl _ _).alloc (Nat.le_refl _) _
  have B1 : Below w.heap.size w w1 := B0.trans (hb.mono B0.size)
  clear hb B0
  go_wp2_with fail
  refine (KR _ B1).mono ?_
  rintro e w2 ⟨rfl, hb⟩
  have B2 : Below w.heap.size w w2 := B1.trans (hb.mono B1.size)
  clear hb
  go_wp2
  go_ret
  exact ⟨rfl, B2⟩
set_option maxHeartbeats 2000000 in
theorem okRom (a b c : Int) (t : Bool) (w : World) (hT : Tab w) : Calls Tryz.prog 142 #[.agg #[.int .i64 1, .int .i64 0, .int .i64 0, .int .i64 a, .int .i64 b, .int .i64 c, .bool t, .string ⟨#[]⟩, .int .i64 0]] w fun e w' => e = .returned (.bool (romB ⟨a, b, c, t⟩)) ∧ Below w.heap.size w w' := by
  have KK : ∀ W, Calls Tryz.prog 145 #[.agg #[.int .i64 1, .int .i64 0, .int .i64 0, .int .i64 a, .int .i64 b, .int .i64 c, .bool t, .string ⟨#[]⟩, .int .i64 0]] W fun e w' => e = .returned (.iface 229 (.agg #[.int .i64 a, .int .i64 b, .int .i64 c, .bool t])) ∧ Below W.heap.size W w' := fun W => kindRom a b c t W
  have KR : ∀ W, Below w.heap.size w W → Calls Tryz.prog 402 #[.agg #[.int .i64 a, .int .i64 b, .int .i64 c, .bool t]] W fun e w' => e = .returned (.bool (romB ⟨a, b, c, t⟩)) ∧ Below W.heap.size W w' := fun W hb => implRomRight a b c t W (hT.later hb)
  generalize romB ⟨a, b, c, t⟩ = B at *
  clear hT
  go_enter Tryz.func142, Tryz.ntmps142
  go_wp2_with fail
  refine (KK _).mono ?_
  rintro e w1 ⟨rfl, hb⟩
  have B0 : Below w.heap.size w (w.alloc (.cells #[.int .i64 1, .int .i64 0, .int .i64 0, .int .i64 a, .int .i64 b, .int .i64 c, .bool t, .string ⟨#[]⟩, .int .i64 0] 57)) := (Below.refl _ _).alloc (Nat.le_refl _) _
  have B1 : Below w.heap.size w w1 := B0.trans (hb.mono B0.size)
  clear hb B0
  go_wp2_with fail
  refine (KR _ B1).mono ?_
  rintro e w2 ⟨rfl, hb⟩
  have B2 : Below w.heap.size w w2 := B1.trans (hb.mono B1.size)
  clear hb
  go_wp2
  go_ret
  exact ⟨rfl, B2⟩
set_option maxHeartbeats 2000000 in
theorem okFea (f : ByteArray) (p : Int) (w : World) (hT : Tab w) : Calls Tryz.prog 142 #[.agg #[.int .i64 2, .int .i64 0, .int .i64 0, .int .i64 0, .int .i64 0, .int .i64 0, .bool false, .string f, .int .i64 p]] w fun e w' => e = .returned (.bool (decide (0 ≤ findFeast f) && (decide (0 ≤ p) && decide (p ≤ 99)))) ∧ Below w.heap.size w w' := by
  have KK : ∀ W, Calls Tryz.prog 145 #[.agg #[.int .i64 2, .int .i64 0, .int .i64 0, .int .i64 0, .int .i64 0, .int .i64 0, .bool false, .string f, .int .i64 p]] W fun e w' => e = .returned (.iface 232 (.agg #[.string (feaOf f).name, .bool (feaOf f).mv, .int .i64 (feaOf f).off, .int .i64 (feaOf f).m, .int .i64 (feaOf f).d, .int .i64 p])) ∧ Below W.heap.size W w' := fun W => kindFea f p W
  have KR : ∀ W, Below w.heap.size w W → Calls Tryz.prog 405 #[.agg #[.string (feaOf f).name, .bool (feaOf f).mv, .int .i64 (feaOf f).off, .int .i64 (feaOf f).m, .int .i64 (feaOf f).d, .int .i64 p]] W fun e w' => e = .returned (.bool (decide (0 ≤ findFeast f) && (decide (0 ≤ p) && decide (p ≤ 99)))) ∧ Below W.heap.size W w' := fun W hb => by rw [← feaOf_ok]; exact implFeaRight _ _ _ _ _ p W (Nat.le_trans (feaOf_len f) (by decide)) (hT.later hb)
  generalize (decide (0 ≤ findFeast f) && (decide (0 ≤ p) && decide (p ≤ 99))) = B at *
  generalize feaOf f = g at *
  clear hT
  go_enter Tryz.func142, Tryz.ntmps142
  go_wp2_with fail
  refine (KK _).mono ?_
  rintro e w1 ⟨rfl, hb⟩
  have B0 : Below w.heap.size w (w.alloc (.cells #[.int .i64 2, .int .i64 0, .int .i64 0, .int .i64 0, .int .i64 0, .int .i64 0, .bool false, .string f, .int .i64 p] 57)) := (Below.refl _ _).alloc (Nat.le_refl _) _
  have B1 : Below w.heap.size w w1 := B0.trans (hb.mono B0.size)
  clear hb B0
  go_wp2_with fail
  refine (KR _ B1).mono ?_
  rintro e w2 ⟨rfl, hb⟩
  have B2 : Below w.heap.size w w2 := B1.trans (hb.mono B1.size)
  clear hb
  go_wp2
  go_ret
  exact ⟨rfl, B2⟩
set_option maxHeartbeats 2000000 in
theorem okNo (k m d a b c : Int) (t : Bool) (f : ByteArray) (p : Int) (w : World) (h0 : k ≠ 0) (h1 : k ≠ 1) (h2 : k ≠ 2) : Calls Tryz.prog 142 #[.agg #[.int .i64 k, .int .i64 m, .int .i64 d, .int .i64 a, .int .i64 b, .int .i64 c, .bool t, .string f, .int .i64 p]] w fun e w' => e = .returned (.bool (false)) ∧ Below w.heap.size w w' := by
  have KK : ∀ W, Calls Tryz.prog 145 #[.agg #[.int .i64 k, .int .i64 m, .int .i64 d, .int .i64 a, .int .i64 b, .int .i64 c, .bool t, .string f, .int .i64 p]] W fun e w' => e = .returned (.nilIface) ∧ Below W.heap.size W w' := fun W => kindNo k m d a b c t f p W h0 h1 h2
  go_enter Tryz.func142, Tryz.ntmps142
  go_wp2_with fail
  refine (KK _).mono ?_
  rintro e w1 ⟨rfl, hb⟩
  have B0 : Below w.heap.size w (w.alloc (.cells #[.int .i64 k, .int .i64 m, .int .i64 d, .int .i64 a, .int .i64 b, .int .i64 c, .bool t, .string f, .int .i64 p] 57)) := (Below.refl _ _).alloc (Nat.le_refl _) _
  have B1 : Below w.heap.size w w1 := B0.trans (hb.mono B0.size)
  clear hb B0
  go_wp2
  go_ret
  exact ⟨rfl, B1⟩
set_option maxHeartbeats 2000000 in
theorem okNo0 (m d a b c : Int) (t : Bool) (f : ByteArray) (p : Int) (w : World) (h : ¬ (a = 0 ∧ b = 0 ∧ c = 0 ∧ t = false ∧ f.toList = [] ∧ p = 0)) : Calls Tryz.prog 142 #[.agg #[.int .i64 0, .int .i64 m, .int .i64 d, .int .i64 a, .int .i64 b, .int .i64 c, .bool t, .string f, .int .i64 p]] w fun e w' => e = .returned (.bool (false)) ∧ Below w.heap.size w w' := by
  have KK : ∀ W, Calls Tryz.prog 145 #[.agg #[.int .i64 0, .int .i64 m, .int .i64 d, .int .i64 a, .int .i64 b, .int .i64 c, .bool t, .string f, .int .i64 p]] W fun e w' => e = .returned (.nilIface) ∧ Below W.heap.size W w' := fun W => kindNo0 m d a b c t f p W h
  go_enter Tryz.func142, Tryz.ntmps142
  go_wp2_with fail
  refine (KK _).mono ?_
  rintro e w1 ⟨rfl, hb⟩
  have B0 : Below w.heap.size w (w.alloc (.cells #[.int .i64 0, .int .i64 m, .int .i64 d, .int .i64 a, .int .i64 b, .int .i64 c, .bool t, .string f, .int .i64 p] 57)) := (Below.refl _ _).alloc (Nat.le_refl _) _
  have B1 : Below w.heap.size w w1 := B0.trans (hb.mono B0.size)
  clear hb B0
  go_wp2
  go_ret
  exact ⟨rfl, B1⟩
set_option maxHeartbeats 2000000 in
theorem okNo1 (m d a b c : Int) (t : Bool) (f : ByteArray) (p : Int) (w : World) (h : ¬ (m = 0 ∧ d = 0 ∧ f.toList = [] ∧ p = 0)) : Calls Tryz.prog 142 #[.agg #[.int .i64 1, .int .i64 m, .int .i64 d, .int .i64 a, .int .i64 b, .int .i64 c, .bool t, .string f, .int .i64 p]] w fun e w' => e = .returned (.bool (false)) ∧ Below w.heap.size w w' := by
  have KK : ∀ W, Calls Tryz.prog 145 #[.agg #[.int .i64 1, .int .i64 m, .int .i64 d, .int .i64 a, .int .i64 b, .int .i64 c, .bool t, .string f, .int .i64 p]] W fun e w' => e = .returned (.nilIface) ∧ Below W.heap.size W w' := fun W => kindNo1 m d a b c t f p W h
  go_enter Tryz.func142, Tryz.ntmps142
  go_wp2_with fail
  refine (KK _).mono ?_
  rintro e w1 ⟨rfl, hb⟩
  have B0 : Below w.heap.size w (w.alloc (.cells #[.int .i64 1, .int .i64 m, .int .i64 d, .int .i64 a, .int .i64 b, .int .i64 c, .bool t, .string f, .int .i64 p] 57)) := (Below.refl _ _).alloc (Nat.le_refl _) _
  have B1 : Below w.heap.size w w1 := B0.trans (hb.mono B0.size)
  clear hb B0
  go_wp2
  go_ret
  exact ⟨rfl, B1⟩
set_option maxHeartbeats 2000000 in
theorem okNo2 (m d a b c : Int) (t : Bool) (f : ByteArray) (p : Int) (w : World) (h : ¬ (m = 0 ∧ d = 0 ∧ a = 0 ∧ b = 0 ∧ c = 0 ∧ t = false)) : Calls Tryz.prog 142 #[.agg #[.int .i64 2, .int .i64 m, .int .i64 d, .int .i64 a, .int .i64 b, .int .i64 c, .bool t, .string f, .int .i64 p]] w fun e w' => e = .returned (.bool (false)) ∧ Below w.heap.size w w' := by
  have KK : ∀ W, Calls Tryz.prog 145 #[.agg #[.int .i64 2, .int .i64 m, .int .i64 d, .int .i64 a, .int .i64 b, .int .i64 c, .bool t, .string f, .int .i64 p]] W fun e w' => e = .returned (.nilIface) ∧ Below W.heap.size W w' := fun W => kindNo2 m d a b c t f p W h
  go_enter Tryz.func142, Tryz.ntmps142
  go_wp2_with fail
  refine (KK _).mono ?_
  rintro e w1 ⟨rfl, hb⟩
  have B0 : Below w.heap.size w (w.alloc (.cells #[.int .i64 2, .int .i64 m, .int .i64 d, .int .i64 a, .int .i64 b, .int .i64 c, .bool t, .string f, .int .i64 p] 57)) := (Below.refl _ _).alloc (Nat.le_refl _) _
  have B1 : Below w.heap.size w w1 := B0.trans (hb.mono B0.size)
  clear hb B0
  go_wp2
  go_ret
  exact ⟨rfl, B1⟩
theorem implWhenOk (s : Whn) (w : World) (hT : Tab w) : Calls Tryz.prog 142 #[whnV s] w fun e w' => e = .returned (.bool (whnB s)) ∧ Below w.heap.size w w' := by
  obtain ⟨k, m, d, ⟨a, b, c, t⟩, f, p⟩ := s
  by_cases h0 : k = 0
  · subst h0
    by_cases h : a = 0 ∧ b = 0 ∧ c = 0 ∧ t = false ∧ f.toList = [] ∧ p = 0
    · obtain ⟨rfl, rfl, rfl, rfl, h5, rfl⟩ := h
      obtain rfl := toList_nil h5
      have K := okDay m d w
      rw [show whnB ⟨0, m, d, ⟨0, 0, 0, false⟩, ⟨#[]⟩, 0⟩ = decide (1 ≤ m ∧ m ≤ 12 ∧ 1 ≤ d ∧ d ≤ 31) by unfold whnB; rw [if_pos rfl, decide_eq_true ⟨rfl, rfl, rfl, rfl, h5, rfl⟩, Bool.true_and]]
      exact K
    · rw [show whnB ⟨0, m, d, ⟨a, b, c, t⟩, f, p⟩ = false by unfold whnB; rw [if_pos rfl, decide_eq_false h, Bool.false_and]]
      exact okNo0 m d a b c t f p w h
  by_cases h1 : k = 1
  · subst h1
    by_cases h : m = 0 ∧ d = 0 ∧ f.toList = [] ∧ p = 0
    · obtain ⟨rfl, rfl, h5, rfl⟩ := h
      obtain rfl := toList_nil h5
      rw [show whnB ⟨1, 0, 0, ⟨a, b, c, t⟩, ⟨#[]⟩, 0⟩ = romB ⟨a, b, c, t⟩ by unfold whnB; rw [if_neg (show ¬ (1 : Int) = 0 by omega), if_pos rfl, decide_eq_true ⟨rfl, rfl, h5, rfl⟩, Bool.true_and]]
      exact okRom a b c t w hT
    · rw [show whnB ⟨1, m, d, ⟨a, b, c, t⟩, f, p⟩ = false by unfold whnB; rw [if_neg (show ¬ (1 : Int) = 0 by omega), if_pos rfl, decide_eq_false h, Bool.false_and]]
      exact okNo1 m d a b c t f p w h
  by_cases h2 : k = 2
  · subst h2
    by_cases h : m = 0 ∧ d = 0 ∧ a = 0 ∧ b = 0 ∧ c = 0 ∧ t = false
    · rw [show whnB ⟨2, m, d, ⟨a, b, c, t⟩, f, p⟩ = (decide (0 ≤ findFeast f) && (decide (0 ≤ p) && decide (p ≤ 99))) by unfold whnB; rw [if_neg (show ¬ (2 : Int) = 0 by omega), if_neg (show ¬ (2 : Int) = 1 by omega), if_pos rfl, decide_eq_true h, Bool.true_and]]
      obtain ⟨rfl, rfl, rfl, rfl, rfl, rfl⟩ := h
      exact okFea f p w hT
    · rw [show whnB ⟨2, m, d, ⟨a, b, c, t⟩, f, p⟩ = false by unfold whnB; rw [if_neg (show ¬ (2 : Int) = 0 by omega), if_neg (show ¬ (2 : Int) = 1 by omega), if_pos rfl, decide_eq_false h, Bool.false_and]]
      exact okNo2 m d a b c t f p w h
  rw [show whnB ⟨k, m, d, ⟨a, b, c, t⟩, f, p⟩ = false by unfold whnB; rw [if_neg h0, if_neg h1, if_neg h2]]
  exact okNo k m d a b c t f p w h0 h1 h2
end Go.Proofs.YtjojgfdfbkmlkaaGreatDoor.ctr
namespace Go.Proofs.YtjojgfdfbkmlkaaGreatDoor.ctr
open Go.RowKit
theorem whnB_0 (m d a b c : Int) (t : Bool) (f : ByteArray) (p : Int) : whnB ⟨0, m, d, ⟨a, b, c, t⟩, f, p⟩ = ((decide (a = 0 ∧ b = 0 ∧ c = 0 ∧ t = false) && decide (f.toList = [] ∧ p = 0)) && (inB m 1 12 && inB d 1 31)) := by
  unfold whnB
  rw [if_pos rfl]
  simp [inB, Bool.decide_and, Bool.and_assoc]
theorem whnB_1 (m d a b c : Int) (t : Bool) (f : ByteArray) (p : Int) : whnB ⟨1, m, d, ⟨a, b, c, t⟩, f, p⟩ = ((decide (m = 0 ∧ d = 0) && decide (f.toList = [] ∧ p = 0)) && romB ⟨a, b, c, t⟩) := by
  unfold whnB
  rw [if_neg (show ¬ (1 : Int) = 0 by omega), if_pos rfl]
  simp [Bool.decide_and, Bool.and_assoc]
theorem whnB_2 (m d a b c : Int) (t : Bool) (f : ByteArray) (p : Int) : whnB ⟨2, m, d, ⟨a, b, c, t⟩, f, p⟩ = ((decide (m = 0 ∧ d = 0) && decide (a = 0 ∧ b = 0 ∧ c = 0 ∧ t = false)) && (decide (0 ≤ findFeast f) && inB p 0 99)) := by
  unfold whnB
  rw [if_neg (show ¬ (2 : Int) = 0 by omega), if_neg (show ¬ (2 : Int) = 1 by omega), if_pos rfl]
  simp [inB, Bool.decide_and, Bool.and_assoc]
theorem whnB_no {k m d a b c : Int} {t : Bool} {f : ByteArray} {p : Int} (h0 : k ≠ 0) (h1 : k ≠ 1) (h2 : k ≠ 2) : whnB ⟨k, m, d, ⟨a, b, c, t⟩, f, p⟩ = false := by
  unfold whnB
  rw [if_neg h0, if_neg h1, if_neg h2]
set_option maxRecDepth 100000 in
set_option maxHeartbeats 4000000 in
theorem specWhenOk (s : Whn) (w : World) : Calls Tryz.prog 139 #[whnV s] w fun e w' => e = .returned (.bool (whnB s)) ∧ Below w.heap.size w w' := by
  obtain ⟨k, m, d, ⟨a, b, c, t⟩, f, p⟩ := s
  obtain ⟨W0, hW0, hC, hBl⟩ := box_any w #[.int .i64 k, .int .i64 m, .int .i64 d, .int .i64 a, .int .i64 b, .int .i64 c, .bool t, .string f, .int .i64 p] 57
  have c0 : ∀ x : Later W0, x.w.cell? ⟨w.heap.size, 0, none⟩ = some (.int .i64 k) := fun x => (hC x).cell 0 rfl
  have c1 : ∀ x : Later W0, x.w.cell? ⟨w.heap.size, 1, none⟩ = some (.int .i64 m) := fun x => (hC x).cell 1 rfl
  have c2 : ∀ x : Later W0, x.w.cell? ⟨w.heap.size, 2, none⟩ = some (.int .i64 d) := fun x => (hC x).cell 2 rfl
  have c3 : ∀ x : Later W0, x.w.cell? ⟨w.heap.size, 3, none⟩ = some (.int .i64 a) := fun x => (hC x).cell 3 rfl
  have c4 : ∀ x : Later W0, x.w.cell? ⟨w.heap.size, 4, none⟩ = some (.int .i64 b) := fun x => (hC x).cell 4 rfl
  have c5 : ∀ x : Later W0, x.w.cell? ⟨w.heap.size, 5, none⟩ = some (.int .i64 c) := fun x => (hC x).cell 5 rfl
  have c6 : ∀ x : Later W0, x.w.cell? ⟨w.heap.size, 6, none⟩ = some (.bool t) := fun x => (hC x).cell 6 rfl
  have c7 : ∀ x : Later W0, x.w.cell? ⟨w.heap.size, 7, none⟩ = some (.string f) := fun x => (hC x).cell 7 rfl
  have c8 : ∀ x : Later W0, x.w.cell? ⟨w.heap.size, 8, none⟩ = some (.int .i64 p) := fun x => (hC x).cell 8 rfl
  obtain ⟨x0, hx0⟩ : ∃ x0 : Later W0, W0 = x0.w := ⟨⟨W0, Below.refl _ _⟩, rfl⟩
  have HW0 := hideP (hW0.symm.trans hx0)
  have HBl := hideP hBl
  obtain ⟨ans, hans⟩ : ∃ ans, ans = whnB ⟨k, m, d, ⟨a, b, c, t⟩, f, p⟩ := ⟨_, rfl⟩
  rw [← hans]
  have HA := hideP hans
  obtain ⟨D, hD⟩ : ∃ D, D = decide (m = 0 ∧ d = 0) := ⟨_, rfl⟩
  have HD := hideP hD
  obtain ⟨R, hR⟩ : ∃ R, R = decide (a = 0 ∧ b = 0 ∧ c = 0 ∧ t = false) := ⟨_, rfl⟩
  have HR := hideP hR
  obtain ⟨Fe, hFe⟩ : ∃ Fe, Fe = decide (f.toList = [] ∧ p = 0) := ⟨_, rfl⟩
  have HFe := hideP hFe
  clear hD hR hFe
  clear hW0 hC hBl hx0 hans
  go_enter Tryz.func139, Tryz.ntmps139
  go_upto_region 1 with fail
  rw [HW0.out]
  generalize whnV ⟨k, m, d, ⟨a, b, c, t⟩, f, p⟩ = V
  go_cut [3] (fun s wx => s = .bool D ∧ wx = x0.w)
  case first =>
    go_wp2_with fail
    all_goals (go_meet; exact ⟨by rw [HD.out]; simp_all <;> (rw [Bool.eq_iff_iff]; simp), rfl⟩)
  case rest =>
  obtain ⟨rfl, rfl⟩ := hcut
  go_upto_region 2 with fail
  go_cut [4] (fun s wx => s = .bool R ∧ wx = x0.w)
  case first =>
    go_wp2_with fail
    all_goals (go_meet; exact ⟨by rw [HR.out]; simp_all <;> (rw [Bool.eq_iff_iff]; simp), rfl⟩)
  case rest =>
  obtain ⟨rfl, rfl⟩ := hcut
  go_upto_region 3 with fail
  go_cut [5] (fun s wx => s = .bool Fe ∧ wx = x0.w)
  case first =>
    go_wp2_with fail
    all_goals (go_meet; exact ⟨by rw [HFe.out]; simp_all <;> (rw [Bool.eq_iff_iff]; simp), rfl⟩)
  case rest =>
  obtain ⟨rfl, rfl⟩ := hcut
  have K12 : ∀ W, Calls Tryz.prog 96 #[.int .i64 m, .int .i64 1, .int .i64 12] W fun e w' => e = .returned (.bool (inB m 1 12)) ∧ w' = W := fun W => l01In _ _ _ W
  have K31 : ∀ W, Calls Tryz.prog 96 #[.int .i64 d, .int .i64 1, .int .i64 31] W fun e w' => e = .returned (.bool (inB d 1 31)) ∧ w' = W := fun W => l01In _ _ _ W
  have K99 : ∀ W, Calls Tryz.prog 96 #[.int .i64 p, .int .i64 0, .int .i64 99] W fun e w' => e = .returned (.bool (inB p 0 99)) ∧ w' = W := fun W => l01In _ _ _ W
  have KI : ∀ W, Calls Tryz.prog 208 #[.agg #[.int .i64 a, .int .i64 b, .int .i64 c, .bool t]] W fun e w' => e = .returned (.bool (romB ⟨a, b, c, t⟩)) ∧ Below W.heap.size W w' := fun W => specIs ⟨a, b, c, t⟩ W
  have KF : ∀ W, Calls Tryz.prog 209 #[.string f] W fun e w' => e = .returned (.int .i64 (findFeast f)) ∧ Below W.heap.size W w' := fun W => specFind f W
  by_cases h0 : k = 0
  · subst h0
    have HA0 : Hid (ans = ((R && Fe) && (inB m 1 12 && inB d 1 31))) := by unfold Hid; rw [HA.out, whnB_0, ← HR.out, ← HFe.out]
    clear HD HR HFe
    generalize inB m 1 12 = B1 at *
    generalize inB d 1 31 = B2 at *
    clear HA K99 KI KF
    cases R
    · obtain rfl : ans = false := by rw [HA0.out]; rfl
      go_wp2
      go_ret
      exact ⟨rfl, HBl.out x0⟩
    cases Fe
    · obtain rfl : ans = false := by rw [HA0.out]; rfl
      go_wp2
      go_ret
      exact ⟨rfl, HBl.out x0⟩
    cases B1
    · obtain rfl : ans = false := by rw [HA0.out]; rfl
      go_wp2_with fail
      refine (K12 _).mono ?_
      rintro e w1 ⟨rfl, rfl⟩
      go_wp2
      go_ret
      exact ⟨rfl, HBl.out x0⟩
    obtain rfl : ans = B2 := by rw [HA0.out]; rfl
    go_wp2_with fail
    refine (K12 _).mono ?_
    rintro e w1 ⟨rfl, rfl⟩
    go_wp2_with fail
    refine (K31 _).mono ?_
    rintro e w1 ⟨rfl, rfl⟩
    go_wp2
    go_ret
    exact ⟨rfl, HBl.out x0⟩
  have e0 : (k == 0) = false := by simpa using h0
  by_cases h1 : k = 1
  · subst h1
    have HA0 : Hid (ans = ((D && Fe) && romB ⟨a, b, c, t⟩)) := by unfold Hid; rw [HA.out, whnB_1, ← HD.out, ← HFe.out]
    clear HD HR HFe
    generalize romB ⟨a, b, c, t⟩ = B1 at *
    clear HA K99 K12 K31 KF
    cases D
    · obtain rfl : ans = false := by rw [HA0.out]; rfl
      go_wp2
      go_ret
      exact ⟨rfl, HBl.out x0⟩
    cases Fe
    · obtain rfl : ans = false := by rw [HA0.out]; rfl
      go_wp2
      go_ret
      exact ⟨rfl, HBl.out x0⟩
    obtain rfl : ans = B1 := by rw [HA0.out]; rfl
    go_wp2_with fail
    refine (KI _).mono ?_
    rintro e w1 ⟨rfl, hb⟩
    obtain ⟨x1, rfl⟩ := x0.next hb
    clear hb
    go_wp2
    go_ret
    exact ⟨rfl, HBl.out x1⟩
  have e1 : (k == 1) = false := by simpa using h1
  by_cases h2 : k = 2
  · subst h2
    have HA0 : Hid (ans = ((D && R) && (decide (0 ≤ findFeast f) && inB p 0 99))) := by unfold Hid; rw [HA.out, whnB_2, ← HD.out, ← HR.out]
    clear HD HR HFe
    generalize findFeast f = z at *
    generalize inB p 0 99 = B1 at *
    clear HA KI K12 K31
    cases D
    · obtain rfl : ans = false := by rw [HA0.out]; rfl
      go_wp2
      go_ret
      exact ⟨rfl, HBl.out x0⟩
    cases R
    · obtain rfl : ans = false := by rw [HA0.out]; rfl
      go_wp2
      go_ret
      exact ⟨rfl, HBl.out x0⟩
    by_cases hz : 0 ≤ z
    case neg =>
      obtain rfl : ans = false := by rw [HA0.out, decide_eq_false hz]; rfl
      go_wp2_with fail
      refine (KF _).mono ?_
      rintro e w1 ⟨rfl, hb⟩
      obtain ⟨x1, rfl⟩ := x0.next hb
      clear hb
      go_wp2
      go_ret
      exact ⟨rfl, HBl.out x1⟩
    obtain rfl : ans = B1 := by rw [HA0.out, decide_eq_true hz]; rfl
    go_wp2_with fail
    refine (KF _).mono ?_
    rintro e w1 ⟨rfl, hb⟩
    obtain ⟨x1, rfl⟩ := x0.next hb
    clear hb
    go_wp2_with fail
    refine (K99 _).mono ?_
    rintro e w2 ⟨rfl, rfl⟩
    go_wp2
    go_ret
    exact ⟨rfl, HBl.out x1⟩
  have e2 : (k == 2) = false := by simpa using h2
  obtain rfl : ans = false := HA.out.trans (whnB_no h0 h1 h2)
  go_wp2
  go_ret
  exact ⟨rfl, HBl.out x0⟩
end Go.Proofs.YtjojgfdfbkmlkaaGreatDoor.ctr
namespace Go.Proofs.YtjojgfdfbkmlkaaGreatDoor.ctr
open Go.RowKit
structure Say where
  whn : Whn
  year : Int
  sol : Int
  cal : Int
abbrev sayC (s : Say) : Array Value := #[.int .i64 s.whn.kind, .int .i64 s.whn.mon, .int .i64 s.whn.day, .int .i64 s.whn.rom.count, .int .i64 s.whn.rom.mark, .int .i64 s.whn.rom.month, .bool s.whn.rom.twice, .string s.whn.feast, .int .i64 s.whn.plus, .int .i64 s.year, .int .i64 s.sol, .int .i64 s.cal]
abbrev sayV (s : Say) : Value := .agg (sayC s)
def sayB (s : Say) : Bool := whnB s.whn && (inB s.year 1 3000 && ((s.sol == -1 || inB s.sol 1 3000) && (s.cal == -1 || calB s.cal)))
theorem implIsYear (y : Int) (w : World) : Calls Tryz.prog 143 #[.int .i64 y] w fun e w' => e = .returned (.bool (inB y 1 3000)) ∧ w' = w := by
  by_cases h1 : 1 ≤ y
  · by_cases h2 : y ≤ 3000
    · rw [inB_true h1 h2]
      go_enter Tryz.func143, Tryz.ntmps143
      go_wp2
      go_ret
      exact ⟨rfl, rfl⟩
    · rw [inB_false (.inr (by omega))]
      go_enter Tryz.func143, Tryz.ntmps143
      go_wp2
      go_ret
      exact ⟨rfl, rfl⟩
  · rw [inB_false (.inl (by omega))]
    go_enter Tryz.func143, Tryz.ntmps143
    go_wp2
    go_ret
    exact ⟨rfl, rfl⟩
set_option maxRecDepth 100000 in
set_option maxHeartbeats 4000000 in
theorem implSayingOk (s : Say) (w : World) (hT : Tab w) : Calls Tryz.prog 87 #[sayV s] w fun e w' => e = .returned (.bool (sayB s)) ∧ Below w.heap.size w w' := by
  obtain ⟨⟨k, m, d, ⟨a, b, c, t⟩, f, p⟩, y, so, ca⟩ := s
  obtain ⟨W0, hW0, hC, hBl⟩ := box_any w #[.int .i64 k, .int .i64 m, .int .i64 d, .int .i64 a, .int .i64 b, .int .i64 c, .bool t, .string f, .int .i64 p, .int .i64 y, .int .i64 so, .int .i64 ca] 59
  have c0 : ∀ x : Later W0, x.w.cell? ⟨w.heap.size, 0, none⟩ = some (.int .i64 k) := fun x => (hC x).cell 0 rfl
  have c1 : ∀ x : Later W0, x.w.cell? ⟨w.heap.size, 1, none⟩ = some (.int .i64 m) := fun x => (hC x).cell 1 rfl
  have c2 : ∀ x : Later W0, x.w.cell? ⟨w.heap.size, 2, none⟩ = some (.int .i64 d) := fun x => (hC x).cell 2 rfl
  have c3 : ∀ x : Later W0, x.w.cell? ⟨w.heap.size, 3, none⟩ = some (.int .i64 a) := fun x => (hC x).cell 3 rfl
  have c4 : ∀ x : Later W0, x.w.cell? ⟨w.heap.size, 4, none⟩ = some (.int .i64 b) := fun x => (hC x).cell 4 rfl
  have c5 : ∀ x : Later W0, x.w.cell? ⟨w.heap.size, 5, none⟩ = some (.int .i64 c) := fun x => (hC x).cell 5 rfl
  have c6 : ∀ x : Later W0, x.w.cell? ⟨w.heap.size, 6, none⟩ = some (.bool t) := fun x => (hC x).cell 6 rfl
  have c7 : ∀ x : Later W0, x.w.cell? ⟨w.heap.size, 7, none⟩ = some (.string f) := fun x => (hC x).cell 7 rfl
  have c8 : ∀ x : Later W0, x.w.cell? ⟨w.heap.size, 8, none⟩ = some (.int .i64 p) := fun x => (hC x).cell 8 rfl
  have c9 : ∀ x : Later W0, x.w.cell? ⟨w.heap.size, 9, none⟩ = some (.int .i64 y) := fun x => (hC x).cell 9 rfl
  have c10 : ∀ x : Later W0, x.w.cell? ⟨w.heap.size, 10, none⟩ = some (.int .i64 so) := fun x => (hC x).cell 10 rfl
  have c11 : ∀ x : Later W0, x.w.cell? ⟨w.heap.size, 11, none⟩ = some (.int .i64 ca) := fun x => (hC x).cell 11 rfl
  have HW0 := hideP hW0
  have HBl := hideP hBl
  have KO : ∀ x : Later W0, Calls Tryz.prog 142 #[.agg #[.int .i64 k, .int .i64 m, .int .i64 d, .int .i64 a, .int .i64 b, .int .i64 c, .bool t, .string f, .int .i64 p]] x.w fun e w' => e = .returned (.bool (whnB ⟨k, m, d, ⟨a, b, c, t⟩, f, p⟩)) ∧ Below x.w.heap.size x.w w' := fun x => implWhenOk ⟨k, m, d, ⟨a, b, c, t⟩, f, p⟩ x.w (hT.later (hBl x))
  have KY : ∀ W, Calls Tryz.prog 143 #[.int .i64 y] W fun e w' => e = .returned (.bool (inB y 1 3000)) ∧ w' = W := fun W => implIsYear y W
  have KS : ∀ W, Calls Tryz.prog 143 #[.int .i64 so] W fun e w' => e = .returned (.bool (inB so 1 3000)) ∧ w' = W := fun W => implIsYear so W
  obtain ⟨ans, hans⟩ : ∃ ans, ans = sayB ⟨⟨k, m, d, ⟨a, b, c, t⟩, f, p⟩, y, so, ca⟩ := ⟨_, rfl⟩
  rw [← hans]
  have HA : Hid (ans = (whnB ⟨k, m, d, ⟨a, b, c, t⟩, f, p⟩ && (inB y 1 3000 && ((so == -1 || inB so 1 3000) && (ca == -1 || calB ca))))) := hans
  generalize whnB ⟨k, m, d, ⟨a, b, c, t⟩, f, p⟩ = B at *
  generalize inB y 1 3000 = Y at *
  generalize inB so 1 3000 = Q at *
  clear hW0 hC hBl hans hT
  cases B
  · obtain rfl : ans = false := HA.out.trans rfl
    go_enter Tryz.func87, Tryz.ntmps87
    go_wp2_with fail
    rw [← HW0.out]
    refine (KO ⟨W0, Below.refl _ _⟩).mono ?_
    rintro e w1 ⟨rfl, hb⟩
    obtain ⟨x1, rfl⟩ := Later.of hb
    clear hb
    go_wp2
    go_ret
    exact ⟨rfl, HBl.out x1⟩
  cases Y
  · obtain rfl : ans = false := HA.out.trans rfl
    go_enter Tryz.func87, Tryz.ntmps87
    go_wp2_with fail
    rw [← HW0.out]
    refine (KO ⟨W0, Below.refl _ _⟩).mono ?_
    rintro e w1 ⟨rfl, hb⟩
    obtain ⟨x1, rfl⟩ := Later.of hb
    clear hb
    go_wp2_with fail
    refine (KY _).mono ?_
    rintro e wz ⟨rfl, rfl⟩
    go_wp2
    go_ret
    exact ⟨rfl, HBl.out x1⟩
  by_cases s1 : so = -1
  · subst s1
    by_cases z1 : ca = -1
    · subst z1
      obtain rfl : ans = true := HA.out.trans (by first | rfl | simp)
      go_enter Tryz.func87, Tryz.ntmps87
      go_wp2_with fail
      rw [← HW0.out]
      refine (KO ⟨W0, Below.refl _ _⟩).mono ?_
      rintro e w1 ⟨rfl, hb⟩
      obtain ⟨x1, rfl⟩ := Later.of hb
      clear hb
      go_wp2_with fail
      refine (KY _).mono ?_
      rintro e wz ⟨rfl, rfl⟩
      go_wp2
      go_ret
      exact ⟨rfl, HBl.out x1⟩
    have e2 : (ca == -1) = false := by simpa using z1
    by_cases z2 : ca = 0 ∨ ca = 1
    · have KC : ∀ W, Calls Tryz.prog 144 #[.int .i64 ca] W fun e w' => e = .returned (.iface (calT ca) (.agg #[])) ∧ w' = W := fun W => implCal ca z2 W
      obtain rfl : ans = true := HA.out.trans (by rw [e2, (show calB ca = true by unfold calB; rcases z2 with h | h <;> simp [h])]; first | rfl | simp)
      generalize calT ca = ct at *
      clear HA z2
      go_enter Tryz.func87, Tryz.ntmps87
      go_wp2_with fail
      rw [← HW0.out]
      refine (KO ⟨W0, Below.refl _ _⟩).mono ?_
      rintro e w1 ⟨rfl, hb⟩
      obtain ⟨x1, rfl⟩ := Later.of hb
      clear hb
      go_wp2_with fail
      refine (KY _).mono ?_
      rintro e wz ⟨rfl, rfl⟩
      go_wp2_with fail
      refine (KC _).mono ?_
      rintro e wz ⟨rfl, rfl⟩
      go_wp2
      go_ret
      exact ⟨rfl, HBl.out x1⟩
    have KC : ∀ W, Calls Tryz.prog 144 #[.int .i64 ca] W fun e w' => e = .returned .nilIface ∧ w' = W := fun W => implCalNo ca (fun h => z2 (.inl h)) (fun h => z2 (.inr h)) W
    obtain rfl : ans = false := HA.out.trans (by rw [e2, calB_no (by omega)]; first | rfl | simp)
    clear HA z2
    go_enter Tryz.func87, Tryz.ntmps87
    go_wp2_with fail
    rw [← HW0.out]
    refine (KO ⟨W0, Below.refl _ _⟩).mono ?_
    rintro e w1 ⟨rfl, hb⟩
    obtain ⟨x1, rfl⟩ := Later.of hb
    clear hb
    go_wp2_with fail
    refine (KY _).mono ?_
    rintro e wz ⟨rfl, rfl⟩
    go_wp2_with fail
    refine (KC _).mono ?_
    rintro e wz ⟨rfl, rfl⟩
    go_wp2
    go_ret
    exact ⟨rfl, HBl.out x1⟩
  have e1 : (so == -1) = false := by simpa using s1
  cases Q
  · obtain rfl : ans = false := HA.out.trans (by rw [e1]; rfl)
    go_enter Tryz.func87, Tryz.ntmps87
    go_wp2_with fail
    rw [← HW0.out]
    refine (KO ⟨W0, Below.refl _ _⟩).mono ?_
    rintro e w1 ⟨rfl, hb⟩
    obtain ⟨x1, rfl⟩ := Later.of hb
    clear hb
    go_wp2_with fail
    refine (KY _).mono ?_
    rintro e wz ⟨rfl, rfl⟩
    go_wp2_with fail
    refine (KS _).mono ?_
    rintro e wz ⟨rfl, rfl⟩
    go_wp2
    go_ret
    exact ⟨rfl, HBl.out x1⟩
  rw [e1] at HA
  by_cases z1 : ca = -1
  · subst z1
    obtain rfl : ans = true := HA.out.trans (by first | rfl | simp)
    go_enter Tryz.func87, Tryz.ntmps87
    go_wp2_with fail
    rw [← HW0.out]
    refine (KO ⟨W0, Below.refl _ _⟩).mono ?_
    rintro e w1 ⟨rfl, hb⟩
    obtain ⟨x1, rfl⟩ := Later.of hb
    clear hb
    go_wp2_with fail
    refine (KY _).mono ?_
    rintro e wz ⟨rfl, rfl⟩
    go_wp2_with fail
    refine (KS _).mono ?_
    rintro e wz ⟨rfl, rfl⟩
    go_wp2
    go_ret
    exact ⟨rfl, HBl.out x1⟩
  have e2 : (ca == -1) = false := by simpa using z1
  by_cases z2 : ca = 0 ∨ ca = 1
  · have KC : ∀ W, Calls Tryz.prog 144 #[.int .i64 ca] W fun e w' => e = .returned (.iface (calT ca) (.agg #[])) ∧ w' = W := fun W => implCal ca z2 W
    obtain rfl : ans = true := HA.out.trans (by rw [e2, (show calB ca = true by unfold calB; rcases z2 with h | h <;> simp [h])]; first | rfl | simp)
    generalize calT ca = ct at *
    clear HA z2
    go_enter Tryz.func87, Tryz.ntmps87
    go_wp2_with fail
    rw [← HW0.out]
    refine (KO ⟨W0, Below.refl _ _⟩).mono ?_
    rintro e w1 ⟨rfl, hb⟩
    obtain ⟨x1, rfl⟩ := Later.of hb
    clear hb
    go_wp2_with fail
    refine (KY _).mono ?_
    rintro e wz ⟨rfl, rfl⟩
    go_wp2_with fail
    refine (KS _).mono ?_
    rintro e wz ⟨rfl, rfl⟩
    go_wp2_with fail
    refine (KC _).mono ?_
    rintro e wz ⟨rfl, rfl⟩
    go_wp2
    go_ret
    exact ⟨rfl, HBl.out x1⟩
  have KC : ∀ W, Calls Tryz.prog 144 #[.int .i64 ca] W fun e w' => e = .returned .nilIface ∧ w' = W := fun W => implCalNo ca (fun h => z2 (.inl h)) (fun h => z2 (.inr h)) W
  obtain rfl : ans = false := HA.out.trans (by rw [e2, calB_no (by omega)]; first | rfl | simp)
  clear HA z2
  go_enter Tryz.func87, Tryz.ntmps87
  go_wp2_with fail
  rw [← HW0.out]
  refine (KO ⟨W0, Below.refl _ _⟩).mono ?_
  rintro e w1 ⟨rfl, hb⟩
  obtain ⟨x1, rfl⟩ := Later.of hb
  clear hb
  go_wp2_with fail
  refine (KY _).mono ?_
  rintro e wz ⟨rfl, rfl⟩
  go_wp2_with fail
  refine (KS _).mono ?_
  rintro e wz ⟨rfl, rfl⟩
  go_wp2_with fail
  refine (KC _).mono ?_
  rintro e wz ⟨rfl, rfl⟩
  go_wp2
  go_ret
  exact ⟨rfl, HBl.out x1⟩
set_option maxRecDepth 100000 in
set_option maxHeartbeats 4000000 in
theorem specSayingOk (s : Say) (w : World) : Calls Tryz.prog 83 #[sayV s] w fun e w' => e = .returned (.bool (sayB s)) ∧ Below w.heap.size w w' := by
  obtain ⟨⟨k, m, d, ⟨a, b, c, t⟩, f, p⟩, y, so, ca⟩ := s
  obtain ⟨W0, hW0, hC, hBl⟩ := box_any w #[.int .i64 k, .int .i64 m, .int .i64 d, .int .i64 a, .int .i64 b, .int .i64 c, .bool t, .string f, .int .i64 p, .int .i64 y, .int .i64 so, .int .i64 ca] 59
  have c0 : ∀ x : Later W0, x.w.cell? ⟨w.heap.size, 0, none⟩ = some (.int .i64 k) := fun x => (hC x).cell 0 rfl
  have c1 : ∀ x : Later W0, x.w.cell? ⟨w.heap.size, 1, none⟩ = some (.int .i64 m) := fun x => (hC x).cell 1 rfl
  have c2 : ∀ x : Later W0, x.w.cell? ⟨w.heap.size, 2, none⟩ = some (.int .i64 d) := fun x => (hC x).cell 2 rfl
  have c3 : ∀ x : Later W0, x.w.cell? ⟨w.heap.size, 3, none⟩ = some (.int .i64 a) := fun x => (hC x).cell 3 rfl
  have c4 : ∀ x : Later W0, x.w.cell? ⟨w.heap.size, 4, none⟩ = some (.int .i64 b) := fun x => (hC x).cell 4 rfl
  have c5 : ∀ x : Later W0, x.w.cell? ⟨w.heap.size, 5, none⟩ = some (.int .i64 c) := fun x => (hC x).cell 5 rfl
  have c6 : ∀ x : Later W0, x.w.cell? ⟨w.heap.size, 6, none⟩ = some (.bool t) := fun x => (hC x).cell 6 rfl
  have c7 : ∀ x : Later W0, x.w.cell? ⟨w.heap.size, 7, none⟩ = some (.string f) := fun x => (hC x).cell 7 rfl
  have c8 : ∀ x : Later W0, x.w.cell? ⟨w.heap.size, 8, none⟩ = some (.int .i64 p) := fun x => (hC x).cell 8 rfl
  have c9 : ∀ x : Later W0, x.w.cell? ⟨w.heap.size, 9, none⟩ = some (.int .i64 y) := fun x => (hC x).cell 9 rfl
  have c10 : ∀ x : Later W0, x.w.cell? ⟨w.heap.size, 10, none⟩ = some (.int .i64 so) := fun x => (hC x).cell 10 rfl
  have c11 : ∀ x : Later W0, x.w.cell? ⟨w.heap.size, 11, none⟩ = some (.int .i64 ca) := fun x => (hC x).cell 11 rfl
  have HW0 := hideP hW0
  have HBl := hideP hBl
  have KO : ∀ x : Later W0, Calls Tryz.prog 139 #[.agg #[.int .i64 k, .int .i64 m, .int .i64 d, .int .i64 a, .int .i64 b, .int .i64 c, .bool t, .string f, .int .i64 p]] x.w fun e w' => e = .returned (.bool (whnB ⟨k, m, d, ⟨a, b, c, t⟩, f, p⟩)) ∧ Below x.w.heap.size x.w w' := fun x => specWhenOk ⟨k, m, d, ⟨a, b, c, t⟩, f, p⟩ x.w
  have KY : ∀ W, Calls Tryz.prog 96 #[.int .i64 y, .int .i64 1, .int .i64 3000] W fun e w' => e = .returned (.bool (inB y 1 3000)) ∧ w' = W := fun W => l01In y 1 3000 W
  have KS : ∀ W, Calls Tryz.prog 96 #[.int .i64 so, .int .i64 1, .int .i64 3000] W fun e w' => e = .returned (.bool (inB so 1 3000)) ∧ w' = W := fun W => l01In so 1 3000 W
  have KC : ∀ W, Calls Tryz.prog 114 #[.int .i64 ca] W fun e w' => e = .returned (.bool (calB ca)) ∧ w' = W := fun W => specCal ca W
  obtain ⟨ans, hans⟩ : ∃ ans, ans = sayB ⟨⟨k, m, d, ⟨a, b, c, t⟩, f, p⟩, y, so, ca⟩ := ⟨_, rfl⟩
  rw [← hans]
  have HA : Hid (ans = (whnB ⟨k, m, d, ⟨a, b, c, t⟩, f, p⟩ && (inB y 1 3000 && ((so == -1 || inB so 1 3000) && (ca == -1 || calB ca))))) := hans
  generalize whnB ⟨k, m, d, ⟨a, b, c, t⟩, f, p⟩ = B at *
  generalize inB y 1 3000 = Y at *
  generalize inB so 1 3000 = Q at *
  generalize calB ca = C at *
  clear hW0 hC hBl hans
  cases B
  · obtain rfl : ans = false := HA.out.trans rfl
    go_enter Tryz.func83, Tryz.ntmps83
    go_wp2_with fail
    rw [← HW0.out]
    refine (KO ⟨W0, Below.refl _ _⟩).mono ?_
    rintro e w1 ⟨rfl, hb⟩
    obtain ⟨x1, rfl⟩ := Later.of hb
    clear hb
    go_wp2
    go_ret
    exact ⟨rfl, HBl.out x1⟩
  cases Y
  · obtain rfl : ans = false := HA.out.trans rfl
    go_enter Tryz.func83, Tryz.ntmps83
    go_wp2_with fail
    rw [← HW0.out]
    refine (KO ⟨W0, Below.refl _ _⟩).mono ?_
    rintro e w1 ⟨rfl, hb⟩
    obtain ⟨x1, rfl⟩ := Later.of hb
    clear hb
    go_wp2_with fail
    refine (KY _).mono ?_
    rintro e wz ⟨rfl, rfl⟩
    go_wp2
    go_ret
    exact ⟨rfl, HBl.out x1⟩
  by_cases s1 : so = -1
  · subst s1
    by_cases z1 : ca = -1
    · subst z1
      obtain rfl : ans = true := HA.out.trans (by first | rfl | simp)
      go_enter Tryz.func83, Tryz.ntmps83
      go_wp2_with fail
      rw [← HW0.out]
      refine (KO ⟨W0, Below.refl _ _⟩).mono ?_
      rintro e w1 ⟨rfl, hb⟩
      obtain ⟨x1, rfl⟩ := Later.of hb
      clear hb
      go_wp2_with fail
      refine (KY _).mono ?_
      rintro e wz ⟨rfl, rfl⟩
      go_wp2
      go_ret
      exact ⟨rfl, HBl.out x1⟩
    have e2 : (ca == -1) = false := by simpa using z1
    obtain rfl : ans = C := HA.out.trans (by rw [e2]; first | rfl | simp)
    go_enter Tryz.func83, Tryz.ntmps83
    go_wp2_with fail
    rw [← HW0.out]
    refine (KO ⟨W0, Below.refl _ _⟩).mono ?_
    rintro e w1 ⟨rfl, hb⟩
    obtain ⟨x1, rfl⟩ := Later.of hb
    clear hb
    go_wp2_with fail
    refine (KY _).mono ?_
    rintro e wz ⟨rfl, rfl⟩
    go_wp2_with fail
    refine (KC _).mono ?_
    rintro e wz ⟨rfl, rfl⟩
    go_wp2
    go_ret
    exact ⟨rfl, HBl.out x1⟩
  have e1 : (so == -1) = false := by simpa using s1
  cases Q
  · obtain rfl : ans = false := HA.out.trans (by rw [e1]; rfl)
    go_enter Tryz.func83, Tryz.ntmps83
    go_wp2_with fail
    rw [← HW0.out]
    refine (KO ⟨W0, Below.refl _ _⟩).mono ?_
    rintro e w1 ⟨rfl, hb⟩
    obtain ⟨x1, rfl⟩ := Later.of hb
    clear hb
    go_wp2_with fail
    refine (KY _).mono ?_
    rintro e wz ⟨rfl, rfl⟩
    go_wp2_with fail
    refine (KS _).mono ?_
    rintro e wz ⟨rfl, rfl⟩
    go_wp2
    go_ret
    exact ⟨rfl, HBl.out x1⟩
  rw [e1] at HA
  by_cases z1 : ca = -1
  · subst z1
    obtain rfl : ans = true := HA.out.trans (by first | rfl | simp)
    go_enter Tryz.func83, Tryz.ntmps83
    go_wp2_with fail
    rw [← HW0.out]
    refine (KO ⟨W0, Below.refl _ _⟩).mono ?_
    rintro e w1 ⟨rfl, hb⟩
    obtain ⟨x1, rfl⟩ := Later.of hb
    clear hb
    go_wp2_with fail
    refine (KY _).mono ?_
    rintro e wz ⟨rfl, rfl⟩
    go_wp2_with fail
    refine (KS _).mono ?_
    rintro e wz ⟨rfl, rfl⟩
    go_wp2
    go_ret
    exact ⟨rfl, HBl.out x1⟩
  have e2 : (ca == -1) = false := by simpa using z1
  obtain rfl : ans = C := HA.out.trans (by rw [e2]; first | rfl | simp)
  go_enter Tryz.func83, Tryz.ntmps83
  go_wp2_with fail
  rw [← HW0.out]
  refine (KO ⟨W0, Below.refl _ _⟩).mono ?_
  rintro e w1 ⟨rfl, hb⟩
  obtain ⟨x1, rfl⟩ := Later.of hb
  clear hb
  go_wp2_with fail
  refine (KY _).mono ?_
  rintro e wz ⟨rfl, rfl⟩
  go_wp2_with fail
  refine (KS _).mono ?_
  rintro e wz ⟨rfl, rfl⟩
  go_wp2_with fail
  refine (KC _).mono ?_
  rintro e wz ⟨rfl, rfl⟩
  go_wp2
  go_ret
  exact ⟨rfl, HBl.out x1⟩
end Go.Proofs.YtjojgfdfbkmlkaaGreatDoor.ctr
namespace Go.Proofs.YtjojgfdfbkmlkaaGreatDoor.ctr
open Go.RowKit
theorem specYearOk (c y : Int) (w : World) : Calls Tryz.prog 136 #[.int .i64 c, .int .i64 y] w fun e w' => e = .returned (.bool (yearB c y)) ∧ w' = w := by
  by_cases hc : c = 0 ∨ c = 1
  · have hC : calB c = true := calB_iff.2 hc
    rw [yearB_cal hc]
    clear hc
    cases hI : inB y 1 3000
    all_goals
      go_enter Tryz.func136, Tryz.ntmps136
      go_wp2_with fail
      refine (specCal _ _).mono ?_
      rintro e w1 ⟨rfl, rfl⟩
      rw [hC]
      go_wp2_with fail
      refine (l01In _ _ _ _).mono ?_
      rintro e w1 ⟨rfl, rfl⟩
      rw [hI]
      go_wp2
      go_ret
      exact ⟨rfl, rfl⟩
  · have hC : calB c = false := calB_no hc
    rw [yearB_no hc]
    clear hc
    go_enter Tryz.func136, Tryz.ntmps136
    go_wp2_with fail
    refine (specCal _ _).mono ?_
    rintro e w1 ⟨rfl, rfl⟩
    rw [hC]
    go_wp2
    go_ret
    exact ⟨rfl, rfl⟩
theorem specJulian (y : Int) (w : World) (h1 : 1 ≤ y) (h2 : y ≤ 4000) : Calls Tryz.prog 259 #[.int .i64 y] w fun e w' => e = .returned (.int .i64 (sumJ y)) ∧ w' = w := by
  obtain ⟨R, hR⟩ : ∃ R, R = sumJ y := ⟨_, rfl⟩
  rw [← hR]
  have HR := hideP hR
  clear hR
  have hd := dJ_b y
  unfold sumJ at HR
  go_enter Tryz.func259, Tryz.ntmps259
  go_wp2
  go_ret
  exact ⟨ret_int (by rw [HR.out]; unfold dJ; omega), rfl⟩
theorem specGregorian (y : Int) (w : World) (h1 : 1 ≤ y) (h2 : y ≤ 4000) : Calls Tryz.prog 258 #[.int .i64 y] w fun e w' => e = .returned (.int .i64 (sumG y)) ∧ w' = w := by
  obtain ⟨R, hR⟩ : ∃ R, R = sumG y := ⟨_, rfl⟩
  rw [← hR]
  have HR := hideP hR
  clear hR
  go_enter Tryz.func258, Tryz.ntmps258
  go_wp2
  go_ret
  exact ⟨ret_int (by rw [HR.out]; unfold sumG mG lG hG gG; rw [show y % 100 % 4 = y % 4 by omega]), rfl⟩
theorem easter_day {c y : Int} (h : yearP c y) : easter c y = first c y + before c y (sumE c y / 31 - 1).toNat + (sumE c y % 31 + 1) - 1 := by
  unfold easter dayOf
  rw [if_pos h, if_pos (sum_month h)]
set_option maxHeartbeats 1000000 in
theorem specL03 (c y : Int) (w : World) (hc : c = 0 ∨ c = 1) (hy1 : 1 ≤ y) (hy2 : y ≤ 4000) : Calls Tryz.prog 207 #[.int .i64 c, .int .i64 y] w fun e w' => e = .returned (.int .i64 (easL c y)) ∧ Below w.heap.size w w' := by
  have k := easter_fact_at hc hy1 hy2
  have KJ : ∀ W, Calls Tryz.prog 259 #[.int .i64 y] W fun e w' => e = .returned (.int .i64 (sumJ y)) ∧ w' = W := fun W => specJulian y W hy1 hy2
  have KG : ∀ W, Calls Tryz.prog 258 #[.int .i64 y] W fun e w' => e = .returned (.int .i64 (sumG y)) ∧ w' = W := fun W => specGregorian y W hy1 hy2
  have KD : ∀ W, Calls Tryz.prog 109 #[.int .i64 c, .int .i64 y, .int .i64 (sumE c y / 31), .int .i64 (sumE c y % 31 + 1)] W fun e w' => e = .returned (.int .i64 (easL c y)) ∧ Below W.heap.size W w' := fun W => by
    exact specDay c y _ _ W hc (by omega) (by omega) (by omega) (by omega) (by omega)
  have k1 := k.1
  have k2 := k.2.1
  clear k
  generalize easL c y = R at *
  rcases hc with rfl | rfl
  · rw [show sumE 0 y = sumJ y from by unfold sumE; rw [if_pos rfl]] at *
    generalize sumJ y = s at *
    generalize sumG y = s' at *
    go_enter Tryz.func207, Tryz.ntmps207
    go_wp2_with fail
    refine (KG _).mono ?_
    rintro e w1 ⟨rfl, rfl⟩
    go_wp2_with fail
    refine (KJ _).mono ?_
    rintro e w1 ⟨rfl, rfl⟩
    go_wp2_with fail
    refine (KD _).mono ?_
    rintro e w1 ⟨rfl, hb⟩
    go_wp2
    go_ret
    exact ⟨rfl, hb⟩
  · rw [show sumE 1 y = sumG y from by unfold sumE; rw [if_neg (by omega)]] at *
    generalize sumG y = s at *
    go_enter Tryz.func207, Tryz.ntmps207
    go_wp2_with fail
    refine (KG _).mono ?_
    rintro e w1 ⟨rfl, rfl⟩
    go_wp2_with fail
    refine (KD _).mono ?_
    rintro e w1 ⟨rfl, hb⟩
    go_wp2
    go_ret
    exact ⟨rfl, hb⟩
theorem specL03Easter (c y : Int) (w : World) (h : yearP c y) : Calls Tryz.prog 207 #[.int .i64 c, .int .i64 y] w fun e w' => e = .returned (.int .i64 (easter c y)) ∧ Below w.heap.size w w' := by
  rw [show easter c y = easL c y from easter_day h]
  exact specL03 c y w h.1 h.2.1 (by have := h.2.2; omega)
theorem specEaster (c y : Int) (w : World) : Calls Tryz.prog 262 #[.int .i64 c, .int .i64 y] w fun e w' => e = .returned (.int .i64 (easter c y)) ∧ Below w.heap.size w w' := by
  have KY : ∀ W, Calls Tryz.prog 136 #[.int .i64 c, .int .i64 y] W fun e w' => e = .returned (.bool (yearB c y)) ∧ w' = W := specYearOk c y
  by_cases h : yearP c y
  · rw [yearB_true h] at KY
    have KE : ∀ W, Calls Tryz.prog 207 #[.int .i64 c, .int .i64 y] W fun e w' => e = .returned (.int .i64 (easter c y)) ∧ Below W.heap.size W w' := fun W => specL03Easter c y W h
    clear h
    generalize easter c y = R at *
    go_enter Tryz.func262, Tryz.ntmps262
    go_wp2_with fail
    refine (KY _).mono ?_
    rintro e w1 ⟨rfl, rfl⟩
    go_wp2_with fail
    refine (KE _).mono ?_
    rintro e w1 ⟨rfl, hb⟩
    go_wp2
    go_ret
    exact ⟨rfl, hb⟩
  · rw [yearB_false h] at KY
    have HR : Hid (easter c y = 0) := by unfold Hid easter; rw [if_neg h]
    clear h
    go_enter Tryz.func262, Tryz.ntmps262
    go_wp2_with fail
    refine (KY _).mono ?_
    rintro e w1 ⟨rfl, rfl⟩
    go_wp2
    go_ret
    exact ⟨ret_int HR.out.symm, Below.refl _ _⟩
end Go.Proofs.YtjojgfdfbkmlkaaGreatDoor.ctr
