/- Contracts of both WhenOk: the same plain function; and what else the law reaches. -/
import Derived.Test.YtpclaceefapppaaGreatDoorWhnKndZ
import Derived.Test.YtpclaceefapppaaGreatDoorJnZad
import Derived.Deep.DeepCutAuto
import Derived.Deep.CutBlock
import Derived.Test.YtpclaceefapppaaGreatDoorJnZag
set_option maxRecDepth 100000
set_option maxHeartbeats 4000000
namespace Go.Proofs.YtpclaceefapppaaGreatDoor.ctr
open Go.RowKit
theorem toList_nil {f : ByteArray} (h : f.toList = []) : f = ⟨#[]⟩ := by
 rw [ByteArray.toList_eq] at h
 cases f with | mk d => cases d with | mk l => simp at h; rw [h]
def whnB (s : Whn) : Bool :=
 if s.kind = 0 then decide (s.rom.count = 0 ∧ s.rom.mark = 0 ∧ s.rom.month = 0 ∧ s.rom.twice = false ∧ s.feast.toList = [] ∧ s.plus = 0) && decide (1 ≤ s.mon ∧ s.mon ≤ 12 ∧ 1 ≤ s.day ∧ s.day ≤ 31)
 else if s.kind = 1 then decide (s.mon = 0 ∧ s.day = 0 ∧ s.feast.toList = [] ∧ s.plus = 0) && romB s.rom
 else if s.kind = 2 then decide (s.mon = 0 ∧ s.day = 0 ∧ s.rom.count = 0 ∧ s.rom.mark = 0 ∧ s.rom.month = 0 ∧ s.rom.twice = false) && (decide (0 ≤ findFeast s.feast) && (decide (0 ≤ s.plus) && decide (s.plus ≤ 99)))
 else false
theorem okDay (m d : Int) (w : World)  : CR 130 #[.agg #[.int .i64 0, .int .i64 m, .int .i64 d, .int .i64 0, .int .i64 0, .int .i64 0, .bool false, .string ⟨#[]⟩, .int .i64 0]] w (.bool (decide (1 ≤ m ∧ m ≤ 12 ∧ 1 ≤ d ∧ d ≤ 31))) := by
 have KK : ∀ W, CR 133 #[.agg #[.int .i64 0, .int .i64 m, .int .i64 d, .int .i64 0, .int .i64 0, .int .i64 0, .bool false, .string ⟨#[]⟩, .int .i64 0]] W (.iface 218 (.agg #[.int .i64 m, .int .i64 d])) := fun W => kindDay m d W
 have KR : ∀ W, Below w.heap.size w W → CR 377 #[.agg #[.int .i64 m, .int .i64 d]] W (.bool (decide (1 ≤ m ∧ m ≤ 12 ∧ 1 ≤ d ∧ d ≤ 31))) := fun W _ => implDayRight m d W
 generalize decide (1 ≤ m ∧ m ≤ 12 ∧ 1 ≤ d ∧ d ≤ 31) = B at *
 go_enter Tryz.func130, Tryz.ntmps130
 go_wp2_with fail
 refine (KK _).mono ?_
 rintro e w1 ⟨rfl, hb⟩
 have B0 : Below w.heap.size w (w.alloc (.cells #[.int .i64 0, .int .i64 m, .int .i64 d, .int .i64 0, .int .i64 0, .int .i64 0, .bool false, .string ⟨#[]⟩, .int .i64 0] 56)) := (Below.refl _ _).alloc (Nat.le_refl _) _
 have B1 : Below w.heap.size w w1 := B0.trans (hb.mono B0.size)
 clear hb B0
 go_wp2_with fail
 refine (KR _ B1).mono ?_
 rintro e w2 ⟨rfl, hb⟩
 have B2 : Below w.heap.size w w2 := B1.trans (hb.mono B1.size)
 clear hb
 go_wp2
 go_ret
 exact ⟨rfl, B2⟩
theorem okRom (a b c : Int) (t : Bool) (w : World) (hT : Tab w) : CR 130 #[.agg #[.int .i64 1, .int .i64 0, .int .i64 0, .int .i64 a, .int .i64 b, .int .i64 c, .bool t, .string ⟨#[]⟩, .int .i64 0]] w (.bool (romB ⟨a, b, c, t⟩)) := by
 have KK : ∀ W, CR 133 #[.agg #[.int .i64 1, .int .i64 0, .int .i64 0, .int .i64 a, .int .i64 b, .int .i64 c, .bool t, .string ⟨#[]⟩, .int .i64 0]] W (.iface 220 (.agg #[.int .i64 a, .int .i64 b, .int .i64 c, .bool t])) := fun W => kindRom a b c t W
 have KR : ∀ W, Below w.heap.size w W → CR 380 #[.agg #[.int .i64 a, .int .i64 b, .int .i64 c, .bool t]] W (.bool (romB ⟨a, b, c, t⟩)) := fun W hb => implRomRight a b c t W (hT.later hb)
 generalize romB ⟨a, b, c, t⟩ = B at *
 clear hT
 go_enter Tryz.func130, Tryz.ntmps130
 go_wp2_with fail
 refine (KK _).mono ?_
 rintro e w1 ⟨rfl, hb⟩
 have B0 : Below w.heap.size w (w.alloc (.cells #[.int .i64 1, .int .i64 0, .int .i64 0, .int .i64 a, .int .i64 b, .int .i64 c, .bool t, .string ⟨#[]⟩, .int .i64 0] 56)) := (Below.refl _ _).alloc (Nat.le_refl _) _
 have B1 : Below w.heap.size w w1 := B0.trans (hb.mono B0.size)
 clear hb B0
 go_wp2_with fail
 refine (KR _ B1).mono ?_
 rintro e w2 ⟨rfl, hb⟩
 have B2 : Below w.heap.size w w2 := B1.trans (hb.mono B1.size)
 clear hb
 go_wp2
 go_ret
 exact ⟨rfl, B2⟩
theorem okFea (f : ByteArray) (p : Int) (w : World) (hT : Tab w) : CR 130 #[.agg #[.int .i64 2, .int .i64 0, .int .i64 0, .int .i64 0, .int .i64 0, .int .i64 0, .bool false, .string f, .int .i64 p]] w (.bool (decide (0 ≤ findFeast f) && (decide (0 ≤ p) && decide (p ≤ 99)))) := by
 have KK : ∀ W, CR 133 #[.agg #[.int .i64 2, .int .i64 0, .int .i64 0, .int .i64 0, .int .i64 0, .int .i64 0, .bool false, .string f, .int .i64 p]] W (.iface 223 (.agg #[.string (feaOf f).name, .bool (feaOf f).mv, .int .i64 (feaOf f).off, .int .i64 (feaOf f).m, .int .i64 (feaOf f).d, .int .i64 p])) := fun W => kindFea f p W
 have KR : ∀ W, Below w.heap.size w W → CR 383 #[.agg #[.string (feaOf f).name, .bool (feaOf f).mv, .int .i64 (feaOf f).off, .int .i64 (feaOf f).m, .int .i64 (feaOf f).d, .int .i64 p]] W (.bool (decide (0 ≤ findFeast f) && (decide (0 ≤ p) && decide (p ≤ 99)))) := fun W hb => by rw [← feaOf_ok]; exact implFeaRight _ _ _ _ _ p W (Nat.le_trans (feaOf_len f) (by decide)) (hT.later hb)
 generalize (decide (0 ≤ findFeast f) && (decide (0 ≤ p) && decide (p ≤ 99))) = B at *
 generalize feaOf f = g at *
 clear hT
 go_enter Tryz.func130, Tryz.ntmps130
 go_wp2_with fail
 refine (KK _).mono ?_
 rintro e w1 ⟨rfl, hb⟩
 have B0 : Below w.heap.size w (w.alloc (.cells #[.int .i64 2, .int .i64 0, .int .i64 0, .int .i64 0, .int .i64 0, .int .i64 0, .bool false, .string f, .int .i64 p] 56)) := (Below.refl _ _).alloc (Nat.le_refl _) _
 have B1 : Below w.heap.size w w1 := B0.trans (hb.mono B0.size)
 clear hb B0
 go_wp2_with fail
 refine (KR _ B1).mono ?_
 rintro e w2 ⟨rfl, hb⟩
 have B2 : Below w.heap.size w w2 := B1.trans (hb.mono B1.size)
 clear hb
 go_wp2
 go_ret
 exact ⟨rfl, B2⟩
theorem okNo (k m d a b c : Int) (t : Bool) (f : ByteArray) (p : Int) (w : World) (h0 : k ≠ 0) (h1 : k ≠ 1) (h2 : k ≠ 2) : CR 130 #[.agg #[.int .i64 k, .int .i64 m, .int .i64 d, .int .i64 a, .int .i64 b, .int .i64 c, .bool t, .string f, .int .i64 p]] w (.bool (false)) := by
 have KK : ∀ W, CR 133 #[.agg #[.int .i64 k, .int .i64 m, .int .i64 d, .int .i64 a, .int .i64 b, .int .i64 c, .bool t, .string f, .int .i64 p]] W (.nilIface) := fun W => kindNo k m d a b c t f p W h0 h1 h2
 go_enter Tryz.func130, Tryz.ntmps130
 go_wp2_with fail
 refine (KK _).mono ?_
 rintro e w1 ⟨rfl, hb⟩
 have B0 : Below w.heap.size w (w.alloc (.cells #[.int .i64 k, .int .i64 m, .int .i64 d, .int .i64 a, .int .i64 b, .int .i64 c, .bool t, .string f, .int .i64 p] 56)) := (Below.refl _ _).alloc (Nat.le_refl _) _
 have B1 : Below w.heap.size w w1 := B0.trans (hb.mono B0.size)
 clear hb B0
 go_wp2
 go_ret
 exact ⟨rfl, B1⟩
theorem okNo0 (m d a b c : Int) (t : Bool) (f : ByteArray) (p : Int) (w : World) (h : ¬ (a = 0 ∧ b = 0 ∧ c = 0 ∧ t = false ∧ f.toList = [] ∧ p = 0)) : CR 130 #[.agg #[.int .i64 0, .int .i64 m, .int .i64 d, .int .i64 a, .int .i64 b, .int .i64 c, .bool t, .string f, .int .i64 p]] w (.bool (false)) := by
 have KK : ∀ W, CR 133 #[.agg #[.int .i64 0, .int .i64 m, .int .i64 d, .int .i64 a, .int .i64 b, .int .i64 c, .bool t, .string f, .int .i64 p]] W (.nilIface) := fun W => kindNo0 m d a b c t f p W h
 go_enter Tryz.func130, Tryz.ntmps130
 go_wp2_with fail
 refine (KK _).mono ?_
 rintro e w1 ⟨rfl, hb⟩
 have B0 : Below w.heap.size w (w.alloc (.cells #[.int .i64 0, .int .i64 m, .int .i64 d, .int .i64 a, .int .i64 b, .int .i64 c, .bool t, .string f, .int .i64 p] 56)) := (Below.refl _ _).alloc (Nat.le_refl _) _
 have B1 : Below w.heap.size w w1 := B0.trans (hb.mono B0.size)
 clear hb B0
 go_wp2
 go_ret
 exact ⟨rfl, B1⟩
theorem okNo1 (m d a b c : Int) (t : Bool) (f : ByteArray) (p : Int) (w : World) (h : ¬ (m = 0 ∧ d = 0 ∧ f.toList = [] ∧ p = 0)) : CR 130 #[.agg #[.int .i64 1, .int .i64 m, .int .i64 d, .int .i64 a, .int .i64 b, .int .i64 c, .bool t, .string f, .int .i64 p]] w (.bool (false)) := by
 have KK : ∀ W, CR 133 #[.agg #[.int .i64 1, .int .i64 m, .int .i64 d, .int .i64 a, .int .i64 b, .int .i64 c, .bool t, .string f, .int .i64 p]] W (.nilIface) := fun W => kindNo1 m d a b c t f p W h
 go_enter Tryz.func130, Tryz.ntmps130
 go_wp2_with fail
 refine (KK _).mono ?_
 rintro e w1 ⟨rfl, hb⟩
 have B0 : Below w.heap.size w (w.alloc (.cells #[.int .i64 1, .int .i64 m, .int .i64 d, .int .i64 a, .int .i64 b, .int .i64 c, .bool t, .string f, .int .i64 p] 56)) := (Below.refl _ _).alloc (Nat.le_refl _) _
 have B1 : Below w.heap.size w w1 := B0.trans (hb.mono B0.size)
 clear hb B0
 go_wp2
 go_ret
 exact ⟨rfl, B1⟩
theorem okNo2 (m d a b c : Int) (t : Bool) (f : ByteArray) (p : Int) (w : World) (h : ¬ (m = 0 ∧ d = 0 ∧ a = 0 ∧ b = 0 ∧ c = 0 ∧ t = false)) : CR 130 #[.agg #[.int .i64 2, .int .i64 m, .int .i64 d, .int .i64 a, .int .i64 b, .int .i64 c, .bool t, .string f, .int .i64 p]] w (.bool (false)) := by
 have KK : ∀ W, CR 133 #[.agg #[.int .i64 2, .int .i64 m, .int .i64 d, .int .i64 a, .int .i64 b, .int .i64 c, .bool t, .string f, .int .i64 p]] W (.nilIface) := fun W => kindNo2 m d a b c t f p W h
 go_enter Tryz.func130, Tryz.ntmps130
 go_wp2_with fail
 refine (KK _).mono ?_
 rintro e w1 ⟨rfl, hb⟩
 have B0 : Below w.heap.size w (w.alloc (.cells #[.int .i64 2, .int .i64 m, .int .i64 d, .int .i64 a, .int .i64 b, .int .i64 c, .bool t, .string f, .int .i64 p] 56)) := (Below.refl _ _).alloc (Nat.le_refl _) _
 have B1 : Below w.heap.size w w1 := B0.trans (hb.mono B0.size)
 clear hb B0
 go_wp2
 go_ret
 exact ⟨rfl, B1⟩
theorem implWhenOk (s : Whn) (w : World) (hT : Tab w) : CR 130 #[whnV s] w (.bool (whnB s)) := by
 obtain ⟨k, m, d, ⟨a, b, c, t⟩, f, p⟩ := s
 by_cases h0 : k = 0
 · subst h0
   by_cases h : a = 0 ∧ b = 0 ∧ c = 0 ∧ t = false ∧ f.toList = [] ∧ p = 0
   · obtain ⟨rfl, rfl, rfl, rfl, h5, rfl⟩ := h
     obtain rfl := toList_nil h5
     have K := okDay m d w
     rw [show whnB ⟨0, m, d, ⟨0, 0, 0, false⟩, ⟨#[]⟩, 0⟩ = decide (1 ≤ m ∧ m ≤ 12 ∧ 1 ≤ d ∧ d ≤ 31) by unfold whnB; rw [if_pos rfl, decide_eq_true ⟨rfl, rfl, rfl, rfl, h5, rfl⟩, Bool.true_and]]
     exact K
   · rw [show whnB ⟨0, m, d, ⟨a, b, c, t⟩, f, p⟩ = false by unfold whnB; rw [if_pos rfl, decide_eq_false h, Bool.false_and]]
     exact okNo0 m d a b c t f p w h
 by_cases h1 : k = 1
 · subst h1
   by_cases h : m = 0 ∧ d = 0 ∧ f.toList = [] ∧ p = 0
   · obtain ⟨rfl, rfl, h5, rfl⟩ := h
     obtain rfl := toList_nil h5
     rw [show whnB ⟨1, 0, 0, ⟨a, b, c, t⟩, ⟨#[]⟩, 0⟩ = romB ⟨a, b, c, t⟩ by unfold whnB; rw [if_neg (show ¬ (1 : Int) = 0 by omega), if_pos rfl, decide_eq_true ⟨rfl, rfl, h5, rfl⟩, Bool.true_and]]
     exact okRom a b c t w hT
   · rw [show whnB ⟨1, m, d, ⟨a, b, c, t⟩, f, p⟩ = false by unfold whnB; rw [if_neg (show ¬ (1 : Int) = 0 by omega), if_pos rfl, decide_eq_false h, Bool.false_and]]
     exact okNo1 m d a b c t f p w h
 by_cases h2 : k = 2
 · subst h2
   by_cases h : m = 0 ∧ d = 0 ∧ a = 0 ∧ b = 0 ∧ c = 0 ∧ t = false
   · rw [show whnB ⟨2, m, d, ⟨a, b, c, t⟩, f, p⟩ = (decide (0 ≤ findFeast f) && (decide (0 ≤ p) && decide (p ≤ 99))) by unfold whnB; rw [if_neg (show ¬ (2 : Int) = 0 by omega), if_neg (show ¬ (2 : Int) = 1 by omega), if_pos rfl, decide_eq_true h, Bool.true_and]]
     obtain ⟨rfl, rfl, rfl, rfl, rfl, rfl⟩ := h
     exact okFea f p w hT
   · rw [show whnB ⟨2, m, d, ⟨a, b, c, t⟩, f, p⟩ = false by unfold whnB; rw [if_neg (show ¬ (2 : Int) = 0 by omega), if_neg (show ¬ (2 : Int) = 1 by omega), if_pos rfl, decide_eq_false h, Bool.false_and]]
     exact okNo2 m d a b c t f p w h
 rw [show whnB ⟨k, m, d, ⟨a, b, c, t⟩, f, p⟩ = false by unfold whnB; rw [if_neg h0, if_neg h1, if_neg h2]]
 exact okNo k m d a b c t f p w h0 h1 h2
theorem whnB_0 (m d a b c : Int) (t : Bool) (f : ByteArray) (p : Int) : whnB ⟨0, m, d, ⟨a, b, c, t⟩, f, p⟩ = ((decide (a = 0 ∧ b = 0 ∧ c = 0 ∧ t = false) && decide (f.toList = [] ∧ p = 0)) && (inB m 1 12 && inB d 1 31)) := by
 unfold whnB
 rw [if_pos rfl]
 simp [inB, Bool.decide_and, Bool.and_assoc]
theorem whnB_1 (m d a b c : Int) (t : Bool) (f : ByteArray) (p : Int) : whnB ⟨1, m, d, ⟨a, b, c, t⟩, f, p⟩ = ((decide (m = 0 ∧ d = 0) && decide (f.toList = [] ∧ p = 0)) && romB ⟨a, b, c, t⟩) := by
 unfold whnB
 rw [if_neg (show ¬ (1 : Int) = 0 by omega), if_pos rfl]
 simp [Bool.decide_and, Bool.and_assoc]
theorem whnB_2 (m d a b c : Int) (t : Bool) (f : ByteArray) (p : Int) : whnB ⟨2, m, d, ⟨a, b, c, t⟩, f, p⟩ = ((decide (m = 0 ∧ d = 0) && decide (a = 0 ∧ b = 0 ∧ c = 0 ∧ t = false)) && (decide (0 ≤ findFeast f) && inB p 0 99)) := by
 unfold whnB
 rw [if_neg (show ¬ (2 : Int) = 0 by omega), if_neg (show ¬ (2 : Int) = 1 by omega), if_pos rfl]
 simp [inB, Bool.decide_and, Bool.and_assoc]
theorem whnB_no {k m d a b c : Int} {t : Bool} {f : ByteArray} {p : Int} (h0 : k ≠ 0) (h1 : k ≠ 1) (h2 : k ≠ 2) : whnB ⟨k, m, d, ⟨a, b, c, t⟩, f, p⟩ = false := by
 unfold whnB
 rw [if_neg h0, if_neg h1, if_neg h2]
theorem specWhenOk (s : Whn) (w : World) : CR 108 #[whnV s] w (.bool (whnB s)) := by
 obtain ⟨k, m, d, ⟨a, b, c, t⟩, f, p⟩ := s
 obtain ⟨W0, hW0, hC, hBl⟩ := box_any w #[.int .i64 k, .int .i64 m, .int .i64 d, .int .i64 a, .int .i64 b, .int .i64 c, .bool t, .string f, .int .i64 p] 56
 obtain ⟨c0, c1, c2, c3, c4, c5, c6, c7, c8⟩ := cells9 hC
 obtain ⟨x0, hx0⟩ : ∃ x0 : Later W0, W0 = x0.w := ⟨⟨W0, Below.refl _ _⟩, rfl⟩
 have HW0 := hideP (hW0.symm.trans hx0)
 have HBl := hideP hBl
 obtain ⟨ans, hans⟩ : ∃ ans, ans = whnB ⟨k, m, d, ⟨a, b, c, t⟩, f, p⟩ := ⟨_, rfl⟩
 rw [← hans]
 have HA := hideP hans
 obtain ⟨D, hD⟩ : ∃ D, D = decide (m = 0 ∧ d = 0) := ⟨_, rfl⟩
 have HD := hideP hD
 obtain ⟨R, hR⟩ : ∃ R, R = decide (a = 0 ∧ b = 0 ∧ c = 0 ∧ t = false) := ⟨_, rfl⟩
 have HR := hideP hR
 obtain ⟨Fe, hFe⟩ : ∃ Fe, Fe = decide (f.toList = [] ∧ p = 0) := ⟨_, rfl⟩
 have HFe := hideP hFe
 clear hD hR hFe
 clear hW0 hC hBl hx0 hans
 go_enter Tryz.func108, Tryz.ntmps108
 go_upto_region 1 with fail
 rw [HW0.out]
 generalize whnV ⟨k, m, d, ⟨a, b, c, t⟩, f, p⟩ = V
 go_cut [3] (fun s wx => s = .bool D ∧ wx = x0.w)
 case first =>
  go_wp2_with fail
  all_goals (go_meet; exact ⟨by rw [HD.out]; simp_all <;> (rw [Bool.eq_iff_iff]; simp), rfl⟩)
 case rest =>
 obtain ⟨rfl, rfl⟩ := hcut
 go_upto_region 2 with fail
 go_cut [4] (fun s wx => s = .bool R ∧ wx = x0.w)
 case first =>
  go_wp2_with fail
  all_goals (go_meet; exact ⟨by rw [HR.out]; simp_all <;> (rw [Bool.eq_iff_iff]; simp), rfl⟩)
 case rest =>
 obtain ⟨rfl, rfl⟩ := hcut
 go_upto_region 3 with fail
 go_cut [5] (fun s wx => s = .bool Fe ∧ wx = x0.w)
 case first =>
  go_wp2_with fail
  all_goals (go_meet; exact ⟨by rw [HFe.out]; simp_all <;> (rw [Bool.eq_iff_iff]; simp), rfl⟩)
 case rest =>
 obtain ⟨rfl, rfl⟩ := hcut
 have K12 : ∀ W, CS 98 #[.int .i64 m, .int .i64 1, .int .i64 12] W (.bool (inB m 1 12)) := fun W => l01In _ _ _ W
 have K31 : ∀ W, CS 98 #[.int .i64 d, .int .i64 1, .int .i64 31] W (.bool (inB d 1 31)) := fun W => l01In _ _ _ W
 have K99 : ∀ W, CS 98 #[.int .i64 p, .int .i64 0, .int .i64 99] W (.bool (inB p 0 99)) := fun W => l01In _ _ _ W
 have KI : ∀ W, CR 155 #[.agg #[.int .i64 a, .int .i64 b, .int .i64 c, .bool t]] W (.bool (romB ⟨a, b, c, t⟩)) := fun W => specIs ⟨a, b, c, t⟩ W
 have KF : ∀ W, CR 148 #[.string f] W (.int .i64 (findFeast f)) := fun W => specFind f W
 by_cases h0 : k = 0
 · subst h0
   have HA0 : Hid (ans = ((R && Fe) && (inB m 1 12 && inB d 1 31))) := by unfold Hid; rw [HA.out, whnB_0, ← HR.out, ← HFe.out]
   clear HD HR HFe
   generalize inB m 1 12 = B1 at *
   generalize inB d 1 31 = B2 at *
   clear HA K99 KI KF
   cases R
   · obtain rfl : ans = false := by rw [HA0.out]; rfl
     go_wp2
     go_ret
     exact ⟨rfl, HBl.out x0⟩
   cases Fe
   · obtain rfl : ans = false := by rw [HA0.out]; rfl
     go_wp2
     go_ret
     exact ⟨rfl, HBl.out x0⟩
   cases B1
   · obtain rfl : ans = false := by rw [HA0.out]; rfl
     go_wp2_with fail
     refine sameC (K12 _) ?_
     go_wp2
     go_ret
     exact ⟨rfl, HBl.out x0⟩
   obtain rfl : ans = B2 := by rw [HA0.out]; rfl
   go_wp2_with fail
   refine sameC (K12 _) ?_
   go_wp2_with fail
   refine sameC (K31 _) ?_
   go_wp2
   go_ret
   exact ⟨rfl, HBl.out x0⟩
 have e0 : (k == 0) = false := by simpa using h0
 by_cases h1 : k = 1
 · subst h1
   have HA0 : Hid (ans = ((D && Fe) && romB ⟨a, b, c, t⟩)) := by unfold Hid; rw [HA.out, whnB_1, ← HD.out, ← HFe.out]
   clear HD HR HFe
   generalize romB ⟨a, b, c, t⟩ = B1 at *
   clear HA K99 K12 K31 KF
   cases D
   · obtain rfl : ans = false := by rw [HA0.out]; rfl
     go_wp2
     go_ret
     exact ⟨rfl, HBl.out x0⟩
   cases Fe
   · obtain rfl : ans = false := by rw [HA0.out]; rfl
     go_wp2
     go_ret
     exact ⟨rfl, HBl.out x0⟩
   obtain rfl : ans = B1 := by rw [HA0.out]; rfl
   go_wp2_with fail
   refine lat (KI _) fun x1 => ?_
   go_wp2
   go_ret
   exact ⟨rfl, HBl.out x1⟩
 have e1 : (k == 1) = false := by simpa using h1
 by_cases h2 : k = 2
 · subst h2
   have HA0 : Hid (ans = ((D && R) && (decide (0 ≤ findFeast f) && inB p 0 99))) := by unfold Hid; rw [HA.out, whnB_2, ← HD.out, ← HR.out]
   clear HD HR HFe
   generalize findFeast f = z at *
   generalize inB p 0 99 = B1 at *
   clear HA KI K12 K31
   cases D
   · obtain rfl : ans = false := by rw [HA0.out]; rfl
     go_wp2
     go_ret
     exact ⟨rfl, HBl.out x0⟩
   cases R
   · obtain rfl : ans = false := by rw [HA0.out]; rfl
     go_wp2
     go_ret
     exact ⟨rfl, HBl.out x0⟩
   by_cases hz : 0 ≤ z
   case neg =>
    obtain rfl : ans = false := by rw [HA0.out, decide_eq_false hz]; rfl
    go_wp2_with fail
    refine lat (KF _) fun x1 => ?_
    go_wp2
    go_ret
    exact ⟨rfl, HBl.out x1⟩
   obtain rfl : ans = B1 := by rw [HA0.out, decide_eq_true hz]; rfl
   go_wp2_with fail
   refine lat (KF _) fun x1 => ?_
   go_wp2_with fail
   refine sameC (K99 _) ?_
   go_wp2
   go_ret
   exact ⟨rfl, HBl.out x1⟩
 have e2 : (k == 2) = false := by simpa using h2
 obtain rfl : ans = false := HA.out.trans (whnB_no h0 h1 h2)
 go_wp2
 go_ret
 exact ⟨rfl, HBl.out x0⟩
structure Say where
 whn : Whn
 year : Int
 sol : Int
 cal : Int
abbrev sayC (s : Say) : Array Value := #[.int .i64 s.whn.kind, .int .i64 s.whn.mon, .int .i64 s.whn.day, .int .i64 s.whn.rom.count, .int .i64 s.whn.rom.mark, .int .i64 s.whn.rom.month, .bool s.whn.rom.twice, .string s.whn.feast, .int .i64 s.whn.plus, .int .i64 s.year, .int .i64 s.sol, .int .i64 s.cal]
abbrev sayV (s : Say) : Value := .agg (sayC s)
def sayB (s : Say) : Bool := whnB s.whn && (inB s.year 1 3000 && ((s.sol == -1 || inB s.sol 1 3000) && (s.cal == -1 || calB s.cal)))
theorem implIsYear (y : Int) (w : World) : CS 131 #[.int .i64 y] w (.bool (inB y 1 3000)) := by
 by_cases h1 : 1 ≤ y
 · by_cases h2 : y ≤ 3000
   · rw [inB_true h1 h2]
     go_enter Tryz.func131, Tryz.ntmps131
     go_wp2
     go_ret
     exact ⟨rfl, rfl⟩
   · rw [inB_false (.inr (by omega))]
     go_enter Tryz.func131, Tryz.ntmps131
     go_wp2
     go_ret
     exact ⟨rfl, rfl⟩
 · rw [inB_false (.inl (by omega))]
   go_enter Tryz.func131, Tryz.ntmps131
   go_wp2
   go_ret
   exact ⟨rfl, rfl⟩
theorem implSayingOk (s : Say) (w : World) (hT : Tab w) : CR 79 #[sayV s] w (.bool (sayB s)) := by
 obtain ⟨⟨k, m, d, ⟨a, b, c, t⟩, f, p⟩, y, so, ca⟩ := s
 obtain ⟨W0, hW0, hC, hBl⟩ := box_any w #[.int .i64 k, .int .i64 m, .int .i64 d, .int .i64 a, .int .i64 b, .int .i64 c, .bool t, .string f, .int .i64 p, .int .i64 y, .int .i64 so, .int .i64 ca] 58
 obtain ⟨c0, c1, c2, c3, c4, c5, c6, c7, c8, c9, c10, c11⟩ := cells12 hC
 have HW0 := hideP hW0
 have HBl := hideP hBl
 have KO : ∀ x : Later W0, CR 130 #[.agg #[.int .i64 k, .int .i64 m, .int .i64 d, .int .i64 a, .int .i64 b, .int .i64 c, .bool t, .string f, .int .i64 p]] x.w (.bool (whnB ⟨k, m, d, ⟨a, b, c, t⟩, f, p⟩)) := fun x => implWhenOk ⟨k, m, d, ⟨a, b, c, t⟩, f, p⟩ x.w (hT.later (hBl x))
 have KY : ∀ W, CS 131 #[.int .i64 y] W (.bool (inB y 1 3000)) := fun W => implIsYear y W
 have KS : ∀ W, CS 131 #[.int .i64 so] W (.bool (inB so 1 3000)) := fun W => implIsYear so W
 obtain ⟨ans, hans⟩ : ∃ ans, ans = sayB ⟨⟨k, m, d, ⟨a, b, c, t⟩, f, p⟩, y, so, ca⟩ := ⟨_, rfl⟩
 rw [← hans]
 have HA : Hid (ans = (whnB ⟨k, m, d, ⟨a, b, c, t⟩, f, p⟩ && (inB y 1 3000 && ((so == -1 || inB so 1 3000) && (ca == -1 || calB ca))))) := hans
 generalize whnB ⟨k, m, d, ⟨a, b, c, t⟩, f, p⟩ = B at *
 generalize inB y 1 3000 = Y at *
 generalize inB so 1 3000 = Q at *
 clear hW0 hC hBl hans hT
 cases B
 · obtain rfl : ans = false := HA.out.trans rfl
   go_enter Tryz.func79, Tryz.ntmps79
   go_wp2_with fail
   rw [← HW0.out]
   refine latO (KO ⟨W0, Below.refl _ _⟩) fun x1 => ?_
   go_wp2
   go_ret
   exact ⟨rfl, HBl.out x1⟩
 cases Y
 · obtain rfl : ans = false := HA.out.trans rfl
   go_enter Tryz.func79, Tryz.ntmps79
   go_wp2_with fail
   rw [← HW0.out]
   refine latO (KO ⟨W0, Below.refl _ _⟩) fun x1 => ?_
   go_wp2_with fail
   refine sameC (KY _) ?_
   go_wp2
   go_ret
   exact ⟨rfl, HBl.out x1⟩
 by_cases s1 : so = -1
 focus
   subst s1
   by_cases z1 : ca = -1
   · subst z1
     obtain rfl : ans = true := HA.out.trans (by first | rfl | simp)
     go_enter Tryz.func79, Tryz.ntmps79
     go_wp2_with fail
     rw [← HW0.out]
     refine latO (KO ⟨W0, Below.refl _ _⟩) fun x1 => ?_
     go_wp2_with fail
     refine sameC (KY _) ?_
     go_wp2
     go_ret
     exact ⟨rfl, HBl.out x1⟩
   have e2 : (ca == -1) = false := by simpa using z1
   by_cases z2 : ca = 0 ∨ ca = 1
   · have KC : ∀ W, CS 132 #[.int .i64 ca] W (.iface (calT ca) (.agg #[])) := fun W => implCal ca z2 W
     obtain rfl : ans = true := HA.out.trans (by rw [e2, (show calB ca = true by unfold calB; rcases z2 with h | h <;> simp [h])]; first | rfl | simp)
     generalize calT ca = ct at *
     clear HA z2
     go_enter Tryz.func79, Tryz.ntmps79
     go_wp2_with fail
     rw [← HW0.out]
     refine latO (KO ⟨W0, Below.refl _ _⟩) fun x1 => ?_
     go_wp2_with fail
     refine sameC (KY _) ?_
     go_wp2_with fail
     refine sameC (KC _) ?_
     go_wp2
     go_ret
     exact ⟨rfl, HBl.out x1⟩
 rotate_left
 focus
   have e1 : (so == -1) = false := by simpa using s1
   cases Q
   · obtain rfl : ans = false := HA.out.trans (by rw [e1]; rfl)
     go_enter Tryz.func79, Tryz.ntmps79
     go_wp2_with fail
     rw [← HW0.out]
     refine latO (KO ⟨W0, Below.refl _ _⟩) fun x1 => ?_
     go_wp2_with fail
     refine sameC (KY _) ?_
     go_wp2_with fail
     refine sameC (KS _) ?_
     go_wp2
     go_ret
     exact ⟨rfl, HBl.out x1⟩
   rw [e1] at HA
   by_cases z1 : ca = -1
   · subst z1
     obtain rfl : ans = true := HA.out.trans (by first | rfl | simp)
     go_enter Tryz.func79, Tryz.ntmps79
     go_wp2_with fail
     rw [← HW0.out]
     refine latO (KO ⟨W0, Below.refl _ _⟩) fun x1 => ?_
     go_wp2_with fail
     refine sameC (KY _) ?_
     go_wp2_with fail
     refine sameC (KS _) ?_
     go_wp2
     go_ret
     exact ⟨rfl, HBl.out x1⟩
   have e2 : (ca == -1) = false := by simpa using z1
   by_cases z2 : ca = 0 ∨ ca = 1
   · have KC : ∀ W, CS 132 #[.int .i64 ca] W (.iface (calT ca) (.agg #[])) := fun W => implCal ca z2 W
     obtain rfl : ans = true := HA.out.trans (by rw [e2, (show calB ca = true by unfold calB; rcases z2 with h | h <;> simp [h])]; first | rfl | simp)
     generalize calT ca = ct at *
     clear HA z2
     go_enter Tryz.func79, Tryz.ntmps79
     go_wp2_with fail
     rw [← HW0.out]
     refine latO (KO ⟨W0, Below.refl _ _⟩) fun x1 => ?_
     go_wp2_with fail
     refine sameC (KY _) ?_
     go_wp2_with fail
     refine sameC (KS _) ?_
     go_wp2_with fail
     refine sameC (KC _) ?_
     go_wp2
     go_ret
     exact ⟨rfl, HBl.out x1⟩
 rotate_left
 all_goals
  have KC : ∀ W, CS 132 #[.int .i64 ca] W .nilIface := fun W => implCalNo ca (fun h => z2 (.inl h)) (fun h => z2 (.inr h)) W
  obtain rfl : ans = false := HA.out.trans (by rw [e2, calB_no (by omega)]; first | rfl | simp)
  clear HA z2
  go_enter Tryz.func79, Tryz.ntmps79
  go_wp2_with fail
  rw [← HW0.out]
  refine latO (KO ⟨W0, Below.refl _ _⟩) fun x1 => ?_
  go_wp2_with fail
  refine sameC (KY _) ?_
  go_wp2_with fail
 · refine sameC (KC _) ?_
   go_wp2
   go_ret
   exact ⟨rfl, HBl.out x1⟩
 refine sameC (KS _) ?_
 go_wp2_with fail
 refine sameC (KC _) ?_
 go_wp2
 go_ret
 exact ⟨rfl, HBl.out x1⟩
theorem specSayingOk (s : Say) (w : World) : CR 62 #[sayV s] w (.bool (sayB s)) := by
 obtain ⟨⟨k, m, d, ⟨a, b, c, t⟩, f, p⟩, y, so, ca⟩ := s
 obtain ⟨W0, hW0, hC, hBl⟩ := box_any w #[.int .i64 k, .int .i64 m, .int .i64 d, .int .i64 a, .int .i64 b, .int .i64 c, .bool t, .string f, .int .i64 p, .int .i64 y, .int .i64 so, .int .i64 ca] 58
 obtain ⟨c0, c1, c2, c3, c4, c5, c6, c7, c8, c9, c10, c11⟩ := cells12 hC
 have HW0 := hideP hW0
 have HBl := hideP hBl
 have KO : ∀ x : Later W0, CR 108 #[.agg #[.int .i64 k, .int .i64 m, .int .i64 d, .int .i64 a, .int .i64 b, .int .i64 c, .bool t, .string f, .int .i64 p]] x.w (.bool (whnB ⟨k, m, d, ⟨a, b, c, t⟩, f, p⟩)) := fun x => specWhenOk ⟨k, m, d, ⟨a, b, c, t⟩, f, p⟩ x.w
 have KY : ∀ W, CS 98 #[.int .i64 y, .int .i64 1, .int .i64 3000] W (.bool (inB y 1 3000)) := fun W => l01In y 1 3000 W
 have KS : ∀ W, CS 98 #[.int .i64 so, .int .i64 1, .int .i64 3000] W (.bool (inB so 1 3000)) := fun W => l01In so 1 3000 W
 have KC : ∀ W, CS 109 #[.int .i64 ca] W (.bool (calB ca)) := fun W => specCal ca W
 obtain ⟨ans, hans⟩ : ∃ ans, ans = sayB ⟨⟨k, m, d, ⟨a, b, c, t⟩, f, p⟩, y, so, ca⟩ := ⟨_, rfl⟩
 rw [← hans]
 have HA : Hid (ans = (whnB ⟨k, m, d, ⟨a, b, c, t⟩, f, p⟩ && (inB y 1 3000 && ((so == -1 || inB so 1 3000) && (ca == -1 || calB ca))))) := hans
 generalize whnB ⟨k, m, d, ⟨a, b, c, t⟩, f, p⟩ = B at *
 generalize inB y 1 3000 = Y at *
 generalize inB so 1 3000 = Q at *
 generalize calB ca = C at *
 clear hW0 hC hBl hans
 cases B
 · obtain rfl : ans = false := HA.out.trans rfl
   go_enter Tryz.func62, Tryz.ntmps62
   go_wp2_with fail
   rw [← HW0.out]
   refine latO (KO ⟨W0, Below.refl _ _⟩) fun x1 => ?_
   go_wp2
   go_ret
   exact ⟨rfl, HBl.out x1⟩
 cases Y
 · obtain rfl : ans = false := HA.out.trans rfl
   go_enter Tryz.func62, Tryz.ntmps62
   go_wp2_with fail
   rw [← HW0.out]
   refine latO (KO ⟨W0, Below.refl _ _⟩) fun x1 => ?_
   go_wp2_with fail
   refine sameC (KY _) ?_
   go_wp2
   go_ret
   exact ⟨rfl, HBl.out x1⟩
 by_cases s1 : so = -1
 focus
   subst s1
   by_cases z1 : ca = -1
   · subst z1
     obtain rfl : ans = true := HA.out.trans (by first | rfl | simp)
     go_enter Tryz.func62, Tryz.ntmps62
     go_wp2_with fail
     rw [← HW0.out]
     refine latO (KO ⟨W0, Below.refl _ _⟩) fun x1 => ?_
     go_wp2_with fail
     refine sameC (KY _) ?_
     go_wp2
     go_ret
     exact ⟨rfl, HBl.out x1⟩
 rotate_left
 focus
   have e1 : (so == -1) = false := by simpa using s1
   cases Q
   · obtain rfl : ans = false := HA.out.trans (by rw [e1]; rfl)
     go_enter Tryz.func62, Tryz.ntmps62
     go_wp2_with fail
     rw [← HW0.out]
     refine latO (KO ⟨W0, Below.refl _ _⟩) fun x1 => ?_
     go_wp2_with fail
     refine sameC (KY _) ?_
     go_wp2_with fail
     refine sameC (KS _) ?_
     go_wp2
     go_ret
     exact ⟨rfl, HBl.out x1⟩
   rw [e1] at HA
   by_cases z1 : ca = -1
   · subst z1
     obtain rfl : ans = true := HA.out.trans (by first | rfl | simp)
     go_enter Tryz.func62, Tryz.ntmps62
     go_wp2_with fail
     rw [← HW0.out]
     refine latO (KO ⟨W0, Below.refl _ _⟩) fun x1 => ?_
     go_wp2_with fail
     refine sameC (KY _) ?_
     go_wp2_with fail
     refine sameC (KS _) ?_
     go_wp2
     go_ret
     exact ⟨rfl, HBl.out x1⟩
 rotate_left
 all_goals
  have e2 : (ca == -1) = false := by simpa using z1
  obtain rfl : ans = C := HA.out.trans (by rw [e2]; first | rfl | simp)
  go_enter Tryz.func62, Tryz.ntmps62
  go_wp2_with fail
  rw [← HW0.out]
  refine latO (KO ⟨W0, Below.refl _ _⟩) fun x1 => ?_
  go_wp2_with fail
  refine sameC (KY _) ?_
  go_wp2_with fail
 · refine sameC (KC _) ?_
   go_wp2
   go_ret
   exact ⟨rfl, HBl.out x1⟩
 refine sameC (KS _) ?_
 go_wp2_with fail
 refine sameC (KC _) ?_
 go_wp2
 go_ret
 exact ⟨rfl, HBl.out x1⟩
theorem findFrom_name (s : ByteArray) : ∀ (l : List Fea) (k : Nat), 0 ≤ findFrom s l k → ∃ j, findFrom s l k = ((k + j : Nat) : Int) ∧ (l.getD j fea0).name = s
  | [], k, h => by unfold findFrom at h; omega
  | f :: l, k, h => by
   unfold findFrom at h ⊢
   by_cases e : f.name = s
   · rw [if_pos e]
     exact ⟨0, rfl, e⟩
   · rw [if_neg e] at h ⊢
     obtain ⟨j, h1, h2⟩ := findFrom_name s l (k + 1) h
     exact ⟨j + 1, by rw [h1]; omega, h2⟩
theorem find_name {s : ByteArray} (h : 0 ≤ findFeast s) : (feaAt (findFeast s).toNat).name = s := by
 obtain ⟨j, h1, h2⟩ := findFrom_name s feasts 0 h
 have e : findFeast s = ((0 + j : Nat) : Int) := h1
 rw [e, Int.toNat_natCast, Nat.zero_add]
 exact h2
theorem feaOf_name {f : ByteArray} (h : 0 ≤ findFeast f) : (feaOf f).name = f := by
 unfold feaOf
 rw [if_neg (by omega)]
 exact find_name h
theorem whn_cases {k m d a b c : Int} {t : Bool} {f : ByteArray} {p : Int} (h : whnB ⟨k, m, d, ⟨a, b, c, t⟩, f, p⟩ = true) :
    (k = 0 ∧ a = 0 ∧ b = 0 ∧ c = 0 ∧ t = false ∧ f = ⟨#[]⟩ ∧ p = 0 ∧ 1 ≤ m ∧ m ≤ 12 ∧ 1 ≤ d ∧ d ≤ 31) ∨ (k = 1 ∧ m = 0 ∧ d = 0 ∧ f = ⟨#[]⟩ ∧ p = 0 ∧ romB ⟨a, b, c, t⟩ = true) ∨ (k = 2 ∧ m = 0 ∧ d = 0 ∧ a = 0 ∧ b = 0 ∧ c = 0 ∧ t = false ∧ 0 ≤ findFeast f ∧ 0 ≤ p ∧ p ≤ 99) := by
  by_cases h0 : k = 0
  · subst h0
    rw [whnB_0] at h
    simp [inB] at h
    refine .inl ⟨rfl, ?_⟩
    obtain ⟨⟨⟨ha, hb, hc, ht⟩, hf, hp⟩, ⟨m1, m2⟩, d1, d2⟩ := h
    exact ⟨ha, hb, hc, ht, toList_nil hf, hp, m1, m2, d1, d2⟩
  by_cases h1 : k = 1
  · subst h1
    rw [whnB_1] at h
    simp at h
    refine .inr (.inl ⟨rfl, ?_⟩)
    obtain ⟨⟨⟨hm, hd⟩, hf, hp⟩, hr⟩ := h
    exact ⟨hm, hd, toList_nil hf, hp, hr⟩
  by_cases h2 : k = 2
  · subst h2
    rw [whnB_2] at h
    simp [inB] at h
    refine .inr (.inr ⟨rfl, ?_⟩)
    obtain ⟨⟨⟨hm, hd⟩, ha, hb, hc, ht⟩, hz, p1, p2⟩ := h
    exact ⟨hm, hd, ha, hb, hc, ht, hz, p1, p2⟩
  rw [whnB_no h0 h1 h2] at h
  cases h
theorem boxes3 (w : World) (a b c : Array Value) (t s u : TypeId) : ∃ W0, W0 = ((w.alloc (.cells a t)).alloc (.cells b s)).alloc (.cells c u) ∧ Blk W0 w.heap.size a t ∧ Blk W0 (w.heap.size + 1) b s ∧ Blk W0 (w.heap.size + 2) c u ∧ Below w.heap.size w W0 := by
 refine ⟨_, rfl, ((Blk.new _ _ _).alloc _).alloc _, ?_, ?_, ?_⟩
 · have h := Blk.new (w.alloc (.cells a t)) b s
   rw [World.size_alloc] at h
   exact h.alloc _
 · have h := Blk.new ((w.alloc (.cells a t)).alloc (.cells b s)) c u
   rw [World.size_alloc, World.size_alloc] at h
   exact h
 · exact below_alloc (below_alloc (below_alloc (Below.refl _ _)))
end Go.Proofs.YtpclaceefapppaaGreatDoor.ctr
namespace Go.Proofs.YtpclaceefapppaaGreatDoor.kit
open Go.RowKit Go.WideShapes Go.Deep
end Go.Proofs.YtpclaceefapppaaGreatDoor.kit
namespace Go.Proofs.YtpclaceefapppaaGreatDoor.ctr
open Go.RowKit
end Go.Proofs.YtpclaceefapppaaGreatDoor.ctr
