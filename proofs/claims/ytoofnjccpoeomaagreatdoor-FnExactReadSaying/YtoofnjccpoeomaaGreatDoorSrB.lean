/- One way of the program's ReadSaying. One way of the program's ReadSaying. One way of the program's ReadSaying. Contract of the program's ReadSaying: at every text of at most 1048576 bytes the saying that is told, or none. What the laws of chapter 5 use besides: four listed variables; the contracts of the laws' own toDate, eqDate, toRoman and eqRoman. Contracts of the laws' own eqWhen and eqSaying at two alike: true. -/
import Derived.Test.YtoofnjccpoeomaaGreatDoorSrA
import Derived.Test.YtoofnjccpoeomaaGreatDoorRomKit
import Derived.Test.YtoofnjccpoeomaaGreatDoorVarsKit
import Derived.Test.YtoofnjccpoeomaaGreatDoorSaA
namespace Go.Proofs.YtoofnjccpoeomaaGreatDoor.ctr
open Go.RowKit

set_option maxRecDepth 100000 in
set_option maxHeartbeats 8000000 in
theorem implReadSaying0 (s : ByteArray) (w : World) (hs : s.size ≤ 1048576) (hT : Tab w) (hS : Shp w) (hM : Mrk w) (hN : Mon w) (hP : PowT w) (g0 : (sayTx (sayI s)).size = 0) : Calls Tryz.prog 15 #[.string s] w fun e w' => e = .returned (saidV (readSay s)) ∧ Below w.heap.size w w' := by
  obtain ⟨W0, hW0, hC, hBl⟩ := box_any w #[.int .i64 0, .int .i64 0, .int .i64 0, .int .i64 0, .int .i64 0, .int .i64 0, .bool false, .string ⟨#[]⟩, .int .i64 0, .int .i64 0, .int .i64 0, .int .i64 0] 38
  have zr : (sayRest s).size ≤ s.size := by unfold sayRest; split; exact Nat.le_refl _; exact ahead_size s
  have za := ahead_size (sayRest s)
  have zl := last_size (sayRest s)
  have K1 : ∀ x : Later W0, Calls Tryz.prog 35 #[.string s] x.w fun e w' => e = .returned (.tuple #[.string (sayRest s), .int .i64 (calNo (lastW s))]) ∧ Below x.w.heap.size x.w w' := fun x => implCutCal s x.w hs
  have K2 : ∀ x : Later W0, Calls Tryz.prog 36 #[.string (sayRest s)] x.w fun e w' => e = .returned (.tuple #[.string (aheadW (sayRest s)), .string (lastW (sayRest s))]) ∧ Below x.w.heap.size x.w w' := fun x => implCutLast _ x.w (by omega)
  have K3 : ∀ x : Later W0, Calls Tryz.prog 37 #[.string (lastW (sayRest s))] x.w fun e w' => e = .returned (.tuple #[.int .i64 (yrI (lastW (sayRest s))).1, .int .i64 (yrI (lastW (sayRest s))).2]) ∧ Below x.w.heap.size x.w w' := fun x => implReadYears _ x.w (by omega) (hP.later (hBl x))
  have K4 : ∀ x : Later W0, Calls Tryz.prog 38 #[.string (aheadW (sayRest s))] x.w fun e w' => e = .returned (whnV (whenI (aheadW (sayRest s)))) ∧ Below x.w.heap.size x.w w' := fun x => implReadWhen _ x.w (by omega) (hT.later (hBl x)) (hS.later (hBl x)) (hM.later (hBl x)) (hN.later (hBl x)) (hP.later (hBl x))
  have K5 : ∀ (q : Say) (x : Later W0), Calls Tryz.prog 13 #[sayV q] x.w fun e w' => e = .returned (.string (sayTx q)) ∧ Below x.w.heap.size x.w w' := fun q x => implSayingText q x.w (hT.later (hBl x)) (hS.later (hBl x)) (hM.later (hBl x)) (hN.later (hBl x)) (hP.later (hBl x))
  have HE : Hid (readSay s = if (sayTx ⟨whenI (aheadW (sayRest s)), (yrI (lastW (sayRest s))).1, (yrI (lastW (sayRest s))).2, calNo (lastW s)⟩).size = 0 ∨ sayTx ⟨whenI (aheadW (sayRest s)), (yrI (lastW (sayRest s))).1, (yrI (lastW (sayRest s))).2, calNo (lastW s)⟩ ≠ s then (say0, false) else (⟨whenI (aheadW (sayRest s)), (yrI (lastW (sayRest s))).1, (yrI (lastW (sayRest s))).2, calNo (lastW s)⟩, true)) := rfl
  have h0 : (sayTx ⟨whenI (aheadW (sayRest s)), (yrI (lastW (sayRest s))).1, (yrI (lastW (sayRest s))).2, calNo (lastW s)⟩).size = 0 := g0
  clear g0
  generalize readSay s = ans at *
  generalize whenI (aheadW (sayRest s)) = wh at *
  generalize yrI (lastW (sayRest s)) = yr at *
  generalize calNo (lastW s) = ca at *
  generalize aheadW (sayRest s) = t1 at *
  generalize lastW (sayRest s) = t2 at *
  generalize sayRest s = t0 at *
  obtain ⟨k, m, d, ⟨a, b, c, t⟩, f, p⟩ := wh
  obtain ⟨y, so⟩ := yr
  have K6 : ∀ x : Later W0, Calls Tryz.prog 13 #[.agg #[.int .i64 k, .int .i64 m, .int .i64 d, .int .i64 a, .int .i64 b, .int .i64 c, .bool t, .string f, .int .i64 p, .int .i64 y, .int .i64 so, .int .i64 ca]] x.w fun e w' => e = .returned (.string (sayTx ⟨⟨k, m, d, ⟨a, b, c, t⟩, f, p⟩, y, so, ca⟩)) ∧ Below x.w.heap.size x.w w' := fun x => K5 ⟨⟨k, m, d, ⟨a, b, c, t⟩, f, p⟩, y, so, ca⟩ x
  have K4' : ∀ x : Later W0, Calls Tryz.prog 38 #[.string t1] x.w fun e w' => e = .returned (.agg #[.int .i64 k, .int .i64 m, .int .i64 d, .int .i64 a, .int .i64 b, .int .i64 c, .bool t, .string f, .int .i64 p]) ∧ Below x.w.heap.size x.w w' := K4
  simp only at K3 HE
  clear K5 K4
  generalize htx : sayTx ⟨⟨k, m, d, ⟨a, b, c, t⟩, f, p⟩, y, so, ca⟩ = tx at *
  clear htx
  have f0 : ∀ x : Later W0, x.w.frozen? ⟨w.heap.size, 0, none⟩ = false := fun x => (hC x).thaw 0
  have f1 : ∀ x : Later W0, x.w.frozen? ⟨w.heap.size, 1, none⟩ = false := fun x => (hC x).thaw 1
  have f2 : ∀ x : Later W0, x.w.frozen? ⟨w.heap.size, 2, none⟩ = false := fun x => (hC x).thaw 2
  have f3 : ∀ x : Later W0, x.w.frozen? ⟨w.heap.size, 3, none⟩ = false := fun x => (hC x).thaw 3
  have f4 : ∀ x : Later W0, x.w.frozen? ⟨w.heap.size, 4, none⟩ = false := fun x => (hC x).thaw 4
  have f5 : ∀ x : Later W0, x.w.frozen? ⟨w.heap.size, 5, none⟩ = false := fun x => (hC x).thaw 5
  have f6 : ∀ x : Later W0, x.w.frozen? ⟨w.heap.size, 6, none⟩ = false := fun x => (hC x).thaw 6
  have f7 : ∀ x : Later W0, x.w.frozen? ⟨w.heap.size, 7, none⟩ = false := fun x => (hC x).thaw 7
  have f8 : ∀ x : Later W0, x.w.frozen? ⟨w.heap.size, 8, none⟩ = false := fun x => (hC x).thaw 8
  have f9 : ∀ x : Later W0, x.w.frozen? ⟨w.heap.size, 9, none⟩ = false := fun x => (hC x).thaw 9
  have f10 : ∀ x : Later W0, x.w.frozen? ⟨w.heap.size, 10, none⟩ = false := fun x => (hC x).thaw 10
  have f11 : ∀ x : Later W0, x.w.frozen? ⟨w.heap.size, 11, none⟩ = false := fun x => (hC x).thaw 11
  have u0 : ∀ x : Later W0, x.w.cell? ⟨w.heap.size, 0, none⟩ = some (.int .i64 0) := fun x => (hC x).cell 0 rfl
  have u1 : ∀ x : Later W0, x.w.cell? ⟨w.heap.size, 1, none⟩ = some (.int .i64 0) := fun x => (hC x).cell 1 rfl
  have u2 : ∀ x : Later W0, x.w.cell? ⟨w.heap.size, 2, none⟩ = some (.int .i64 0) := fun x => (hC x).cell 2 rfl
  have u3 : ∀ x : Later W0, x.w.cell? ⟨w.heap.size, 3, none⟩ = some (.int .i64 0) := fun x => (hC x).cell 3 rfl
  have u4 : ∀ x : Later W0, x.w.cell? ⟨w.heap.size, 4, none⟩ = some (.int .i64 0) := fun x => (hC x).cell 4 rfl
  have u5 : ∀ x : Later W0, x.w.cell? ⟨w.heap.size, 5, none⟩ = some (.int .i64 0) := fun x => (hC x).cell 5 rfl
  have u6 : ∀ x : Later W0, x.w.cell? ⟨w.heap.size, 6, none⟩ = some (.bool false) := fun x => (hC x).cell 6 rfl
  have u7 : ∀ x : Later W0, x.w.cell? ⟨w.heap.size, 7, none⟩ = some (.string ⟨#[]⟩) := fun x => (hC x).cell 7 rfl
  have u8 : ∀ x : Later W0, x.w.cell? ⟨w.heap.size, 8, none⟩ = some (.int .i64 0) := fun x => (hC x).cell 8 rfl
  have u9 : ∀ x : Later W0, x.w.cell? ⟨w.heap.size, 9, none⟩ = some (.int .i64 0) := fun x => (hC x).cell 9 rfl
  have u10 : ∀ x : Later W0, x.w.cell? ⟨w.heap.size, 10, none⟩ = some (.int .i64 0) := fun x => (hC x).cell 10 rfl
  have u11 : ∀ x : Later W0, x.w.cell? ⟨w.heap.size, 11, none⟩ = some (.int .i64 0) := fun x => (hC x).cell 11 rfl
  have HW0 := hideP hW0
  have HC := hideP hC
  have HBl := hideP hBl
  clear hW0 hC hBl hT hS hM hN hP zr za zl
  obtain rfl : ans = (say0, false) := HE.out.trans (if_pos (.inl h0))
  have e0 := empty_yes h0
  clear HE h0
  go_enter Tryz.func15, Tryz.ntmps15
  go_wp2_with fail
  rw [← HW0.out]
  refine (K1 ⟨W0, Below.refl _ _⟩).mono ?_
  rintro e w1 ⟨rfl, hb⟩
  obtain ⟨x1, rfl⟩ := Later.of hb
  clear hb
  go_wp2_with fail
  refine (K2 x1).mono ?_
  rintro e wz ⟨rfl, hb⟩
  obtain ⟨x2, rfl⟩ := x1.next hb
  clear hb
  go_wp2_with fail
  refine (K3 x2).mono ?_
  rintro e wz ⟨rfl, hb⟩
  obtain ⟨x3, rfl⟩ := x2.next hb
  clear hb
  go_wp2_with fail
  refine (K4' x3).mono ?_
  rintro e wz ⟨rfl, hb⟩
  obtain ⟨x4, rfl⟩ := x3.next hb
  clear hb
  obtain ⟨x5, hx5⟩ : ∃ x5 : Later W0, x4.w.alloc (.cells #[.int .i64 k, .int .i64 m, .int .i64 d, .int .i64 a, .int .i64 b, .int .i64 c, .bool t, .string f, .int .i64 p, .int .i64 y, .int .i64 so, .int .i64 ca] 38) = x5.w := ⟨⟨_, x4.below.alloc x4.below.size _⟩, rfl⟩
  have HS5 : Hid (Blk x5.w x4.w.heap.size #[.int .i64 k, .int .i64 m, .int .i64 d, .int .i64 a, .int .i64 b, .int .i64 c, .bool t, .string f, .int .i64 p, .int .i64 y, .int .i64 so, .int .i64 ca] 38) := by unfold Hid; rw [← hx5]; exact Blk.new _ _ _
  have HX5 := hideP hx5
  clear hx5
  go_wp2_with fail
  rw [HX5.out]
  refine (K6 x5).mono ?_
  rintro e wz ⟨rfl, hb⟩
  have HS6 : Hid (Blk wz x4.w.heap.size #[.int .i64 k, .int .i64 m, .int .i64 d, .int .i64 a, .int .i64 b, .int .i64 c, .bool t, .string f, .int .i64 p, .int .i64 y, .int .i64 so, .int .i64 ca] 38) := HS5.out.below hb HS5.out.lt
  obtain ⟨x6, rfl⟩ := x5.next hb
  clear hb HX5 HS5 K1 K2 K3 K4' K6
  go_wp2
  obtain ⟨W9, e9⟩ : ∃ W9, W9 = ((((((((((((x6.w.setCell ⟨w.heap.size, 0, none⟩ (.int .i64 0)).setCell ⟨w.heap.size, 1, none⟩ (.int .i64 0)).setCell ⟨w.heap.size, 2, none⟩ (.int .i64 0)).setCell ⟨w.heap.size, 3, none⟩ (.int .i64 0)).setCell ⟨w.heap.size, 4, none⟩ (.int .i64 0)).setCell ⟨w.heap.size, 5, none⟩ (.int .i64 0)).setCell ⟨w.heap.size, 6, none⟩ (.bool false)).setCell ⟨w.heap.size, 7, none⟩ (.string ⟨#[]⟩)).setCell ⟨w.heap.size, 8, none⟩ (.int .i64 0)).setCell ⟨w.heap.size, 9, none⟩ (.int .i64 0)).setCell ⟨w.heap.size, 10, none⟩ (.int .i64 0)).setCell ⟨w.heap.size, 11, none⟩ (.int .i64 0)) := ⟨_, rfl⟩
  have Z9 : Blk W9 (w.heap.size) #[.int .i64 0, .int .i64 0, .int .i64 0, .int .i64 0, .int .i64 0, .int .i64 0, .bool false, .string ⟨#[]⟩, .int .i64 0, .int .i64 0, .int .i64 0, .int .i64 0] 38 := by rw [e9]; exact (((((((((((((HC.out x6).set 0 _).set 1 _).set 2 _).set 3 _).set 4 _).set 5 _).set 6 _).set 7 _).set 8 _).set 9 _).set 10 _).set 11 _)
  have B9 : Below w.heap.size w W9 := by rw [e9]; exact (below_store (below_store (below_store (below_store (below_store (below_store (below_store (below_store (below_store (below_store (below_store (below_store (HBl.out x6) (b := w.heap.size) (i := 0) _ (by omega)) (b := w.heap.size) (i := 1) _ (by omega)) (b := w.heap.size) (i := 2) _ (by omega)) (b := w.heap.size) (i := 3) _ (by omega)) (b := w.heap.size) (i := 4) _ (by omega)) (b := w.heap.size) (i := 5) _ (by omega)) (b := w.heap.size) (i := 6) _ (by omega)) (b := w.heap.size) (i := 7) _ (by omega)) (b := w.heap.size) (i := 8) _ (by omega)) (b := w.heap.size) (i := 9) _ (by omega)) (b := w.heap.size) (i := 10) _ (by omega)) (b := w.heap.size) (i := 11) _ (by omega))
  rw [← e9]
  clear e9
  have q0 : W9.cell? ⟨w.heap.size, 0, none⟩ = some (.int .i64 0) := Z9.cell 0 rfl
  have q1 : W9.cell? ⟨w.heap.size, 1, none⟩ = some (.int .i64 0) := Z9.cell 1 rfl
  have q2 : W9.cell? ⟨w.heap.size, 2, none⟩ = some (.int .i64 0) := Z9.cell 2 rfl
  have q3 : W9.cell? ⟨w.heap.size, 3, none⟩ = some (.int .i64 0) := Z9.cell 3 rfl
  have q4 : W9.cell? ⟨w.heap.size, 4, none⟩ = some (.int .i64 0) := Z9.cell 4 rfl
  have q5 : W9.cell? ⟨w.heap.size, 5, none⟩ = some (.int .i64 0) := Z9.cell 5 rfl
  have q6 : W9.cell? ⟨w.heap.size, 6, none⟩ = some (.bool false) := Z9.cell 6 rfl
  have q7 : W9.cell? ⟨w.heap.size, 7, none⟩ = some (.string ⟨#[]⟩) := Z9.cell 7 rfl
  have q8 : W9.cell? ⟨w.heap.size, 8, none⟩ = some (.int .i64 0) := Z9.cell 8 rfl
  have q9 : W9.cell? ⟨w.heap.size, 9, none⟩ = some (.int .i64 0) := Z9.cell 9 rfl
  have q10 : W9.cell? ⟨w.heap.size, 10, none⟩ = some (.int .i64 0) := Z9.cell 10 rfl
  have q11 : W9.cell? ⟨w.heap.size, 11, none⟩ = some (.int .i64 0) := Z9.cell 11 rfl
  exact bodyPost_ret (by simp [results, Tryz.results15, go_sem, say0, q0, q1, q2, q3, q4, q5, q6, q7, q8, q9, q10, q11]; first | done | rfl | exact ⟨rfl, rfl⟩) rfl ⟨rfl, B9⟩
end Go.Proofs.YtoofnjccpoeomaaGreatDoor.ctr

namespace Go.Proofs.YtoofnjccpoeomaaGreatDoor.ctr
open Go.RowKit

set_option maxRecDepth 100000 in
set_option maxHeartbeats 8000000 in
theorem implReadSaying1 (s : ByteArray) (w : World) (hs : s.size ≤ 1048576) (hT : Tab w) (hS : Shp w) (hM : Mrk w) (hN : Mon w) (hP : PowT w) (g0 : (sayTx (sayI s)).size ≠ 0) (g1 : sayTx (sayI s) ≠ s) : Calls Tryz.prog 15 #[.string s] w fun e w' => e = .returned (saidV (readSay s)) ∧ Below w.heap.size w w' := by
  obtain ⟨W0, hW0, hC, hBl⟩ := box_any w #[.int .i64 0, .int .i64 0, .int .i64 0, .int .i64 0, .int .i64 0, .int .i64 0, .bool false, .string ⟨#[]⟩, .int .i64 0, .int .i64 0, .int .i64 0, .int .i64 0] 38
  have zr : (sayRest s).size ≤ s.size := by unfold sayRest; split; exact Nat.le_refl _; exact ahead_size s
  have za := ahead_size (sayRest s)
  have zl := last_size (sayRest s)
  have K1 : ∀ x : Later W0, Calls Tryz.prog 35 #[.string s] x.w fun e w' => e = .returned (.tuple #[.string (sayRest s), .int .i64 (calNo (lastW s))]) ∧ Below x.w.heap.size x.w w' := fun x => implCutCal s x.w hs
  have K2 : ∀ x : Later W0, Calls Tryz.prog 36 #[.string (sayRest s)] x.w fun e w' => e = .returned (.tuple #[.string (aheadW (sayRest s)), .string (lastW (sayRest s))]) ∧ Below x.w.heap.size x.w w' := fun x => implCutLast _ x.w (by omega)
  have K3 : ∀ x : Later W0, Calls Tryz.prog 37 #[.string (lastW (sayRest s))] x.w fun e w' => e = .returned (.tuple #[.int .i64 (yrI (lastW (sayRest s))).1, .int .i64 (yrI (lastW (sayRest s))).2]) ∧ Below x.w.heap.size x.w w' := fun x => implReadYears _ x.w (by omega) (hP.later (hBl x))
  have K4 : ∀ x : Later W0, Calls Tryz.prog 38 #[.string (aheadW (sayRest s))] x.w fun e w' => e = .returned (whnV (whenI (aheadW (sayRest s)))) ∧ Below x.w.heap.size x.w w' := fun x => implReadWhen _ x.w (by omega) (hT.later (hBl x)) (hS.later (hBl x)) (hM.later (hBl x)) (hN.later (hBl x)) (hP.later (hBl x))
  have K5 : ∀ (q : Say) (x : Later W0), Calls Tryz.prog 13 #[sayV q] x.w fun e w' => e = .returned (.string (sayTx q)) ∧ Below x.w.heap.size x.w w' := fun q x => implSayingText q x.w (hT.later (hBl x)) (hS.later (hBl x)) (hM.later (hBl x)) (hN.later (hBl x)) (hP.later (hBl x))
  have HE : Hid (readSay s = if (sayTx ⟨whenI (aheadW (sayRest s)), (yrI (lastW (sayRest s))).1, (yrI (lastW (sayRest s))).2, calNo (lastW s)⟩).size = 0 ∨ sayTx ⟨whenI (aheadW (sayRest s)), (yrI (lastW (sayRest s))).1, (yrI (lastW (sayRest s))).2, calNo (lastW s)⟩ ≠ s then (say0, false) else (⟨whenI (aheadW (sayRest s)), (yrI (lastW (sayRest s))).1, (yrI (lastW (sayRest s))).2, calNo (lastW s)⟩, true)) := rfl
  have h0 : (sayTx ⟨whenI (aheadW (sayRest s)), (yrI (lastW (sayRest s))).1, (yrI (lastW (sayRest s))).2, calNo (lastW s)⟩).size ≠ 0 := g0
  have h1 : sayTx ⟨whenI (aheadW (sayRest s)), (yrI (lastW (sayRest s))).1, (yrI (lastW (sayRest s))).2, calNo (lastW s)⟩ ≠ s := g1
  clear g0 g1
  generalize readSay s = ans at *
  generalize whenI (aheadW (sayRest s)) = wh at *
  generalize yrI (lastW (sayRest s)) = yr at *
  generalize calNo (lastW s) = ca at *
  generalize aheadW (sayRest s) = t1 at *
  generalize lastW (sayRest s) = t2 at *
  generalize sayRest s = t0 at *
  obtain ⟨k, m, d, ⟨a, b, c, t⟩, f, p⟩ := wh
  obtain ⟨y, so⟩ := yr
  have K6 : ∀ x : Later W0, Calls Tryz.prog 13 #[.agg #[.int .i64 k, .int .i64 m, .int .i64 d, .int .i64 a, .int .i64 b, .int .i64 c, .bool t, .string f, .int .i64 p, .int .i64 y, .int .i64 so, .int .i64 ca]] x.w fun e w' => e = .returned (.string (sayTx ⟨⟨k, m, d, ⟨a, b, c, t⟩, f, p⟩, y, so, ca⟩)) ∧ Below x.w.heap.size x.w w' := fun x => K5 ⟨⟨k, m, d, ⟨a, b, c, t⟩, f, p⟩, y, so, ca⟩ x
  have K4' : ∀ x : Later W0, Calls Tryz.prog 38 #[.string t1] x.w fun e w' => e = .returned (.agg #[.int .i64 k, .int .i64 m, .int .i64 d, .int .i64 a, .int .i64 b, .int .i64 c, .bool t, .string f, .int .i64 p]) ∧ Below x.w.heap.size x.w w' := K4
  simp only at K3 HE
  clear K5 K4
  generalize htx : sayTx ⟨⟨k, m, d, ⟨a, b, c, t⟩, f, p⟩, y, so, ca⟩ = tx at *
  clear htx
  have f0 : ∀ x : Later W0, x.w.frozen? ⟨w.heap.size, 0, none⟩ = false := fun x => (hC x).thaw 0
  have f1 : ∀ x : Later W0, x.w.frozen? ⟨w.heap.size, 1, none⟩ = false := fun x => (hC x).thaw 1
  have f2 : ∀ x : Later W0, x.w.frozen? ⟨w.heap.size, 2, none⟩ = false := fun x => (hC x).thaw 2
  have f3 : ∀ x : Later W0, x.w.frozen? ⟨w.heap.size, 3, none⟩ = false := fun x => (hC x).thaw 3
  have f4 : ∀ x : Later W0, x.w.frozen? ⟨w.heap.size, 4, none⟩ = false := fun x => (hC x).thaw 4
  have f5 : ∀ x : Later W0, x.w.frozen? ⟨w.heap.size, 5, none⟩ = false := fun x => (hC x).thaw 5
  have f6 : ∀ x : Later W0, x.w.frozen? ⟨w.heap.size, 6, none⟩ = false := fun x => (hC x).thaw 6
  have f7 : ∀ x : Later W0, x.w.frozen? ⟨w.heap.size, 7, none⟩ = false := fun x => (hC x).thaw 7
  have f8 : ∀ x : Later W0, x.w.frozen? ⟨w.heap.size, 8, none⟩ = false := fun x => (hC x).thaw 8
  have f9 : ∀ x : Later W0, x.w.frozen? ⟨w.heap.size, 9, none⟩ = false := fun x => (hC x).thaw 9
  have f10 : ∀ x : Later W0, x.w.frozen? ⟨w.heap.size, 10, none⟩ = false := fun x => (hC x).thaw 10
  have f11 : ∀ x : Later W0, x.w.frozen? ⟨w.heap.size, 11, none⟩ = false := fun x => (hC x).thaw 11
  have u0 : ∀ x : Later W0, x.w.cell? ⟨w.heap.size, 0, none⟩ = some (.int .i64 0) := fun x => (hC x).cell 0 rfl
  have u1 : ∀ x : Later W0, x.w.cell? ⟨w.heap.size, 1, none⟩ = some (.int .i64 0) := fun x => (hC x).cell 1 rfl
  have u2 : ∀ x : Later W0, x.w.cell? ⟨w.heap.size, 2, none⟩ = some (.int .i64 0) := fun x => (hC x).cell 2 rfl
  have u3 : ∀ x : Later W0, x.w.cell? ⟨w.heap.size, 3, none⟩ = some (.int .i64 0) := fun x => (hC x).cell 3 rfl
  have u4 : ∀ x : Later W0, x.w.cell? ⟨w.heap.size, 4, none⟩ = some (.int .i64 0) := fun x => (hC x).cell 4 rfl
  have u5 : ∀ x : Later W0, x.w.cell? ⟨w.heap.size, 5, none⟩ = some (.int .i64 0) := fun x => (hC x).cell 5 rfl
  have u6 : ∀ x : Later W0, x.w.cell? ⟨w.heap.size, 6, none⟩ = some (.bool false) := fun x => (hC x).cell 6 rfl
  have u7 : ∀ x : Later W0, x.w.cell? ⟨w.heap.size, 7, none⟩ = some (.string ⟨#[]⟩) := fun x => (hC x).cell 7 rfl
  have u8 : ∀ x : Later W0, x.w.cell? ⟨w.heap.size, 8, none⟩ = some (.int .i64 0) := fun x => (hC x).cell 8 rfl
  have u9 : ∀ x : Later W0, x.w.cell? ⟨w.heap.size, 9, none⟩ = some (.int .i64 0) := fun x => (hC x).cell 9 rfl
  have u10 : ∀ x : Later W0, x.w.cell? ⟨w.heap.size, 10, none⟩ = some (.int .i64 0) := fun x => (hC x).cell 10 rfl
  have u11 : ∀ x : Later W0, x.w.cell? ⟨w.heap.size, 11, none⟩ = some (.int .i64 0) := fun x => (hC x).cell 11 rfl
  have HW0 := hideP hW0
  have HC := hideP hC
  have HBl := hideP hBl
  clear hW0 hC hBl hT hS hM hN hP zr za zl
  obtain rfl : ans = (say0, false) := HE.out.trans (if_pos (.inr h1))
  have e0 := empty_no h0
  have e1 := sne_str h1
  clear HE h1 h0
  go_enter Tryz.func15, Tryz.ntmps15
  go_wp2_with fail
  rw [← HW0.out]
  refine (K1 ⟨W0, Below.refl _ _⟩).mono ?_
  rintro e w1 ⟨rfl, hb⟩
  obtain ⟨x1, rfl⟩ := Later.of hb
  clear hb
  go_wp2_with fail
  refine (K2 x1).mono ?_
  rintro e wz ⟨rfl, hb⟩
  obtain ⟨x2, rfl⟩ := x1.next hb
  clear hb
  go_wp2_with fail
  refine (K3 x2).mono ?_
  rintro e wz ⟨rfl, hb⟩
  obtain ⟨x3, rfl⟩ := x2.next hb
  clear hb
  go_wp2_with fail
  refine (K4' x3).mono ?_
  rintro e wz ⟨rfl, hb⟩
  obtain ⟨x4, rfl⟩ := x3.next hb
  clear hb
  obtain ⟨x5, hx5⟩ : ∃ x5 : Later W0, x4.w.alloc (.cells #[.int .i64 k, .int .i64 m, .int .i64 d, .int .i64 a, .int .i64 b, .int .i64 c, .bool t, .string f, .int .i64 p, .int .i64 y, .int .i64 so, .int .i64 ca] 38) = x5.w := ⟨⟨_, x4.below.alloc x4.below.size _⟩, rfl⟩
  have HS5 : Hid (Blk x5.w x4.w.heap.size #[.int .i64 k, .int .i64 m, .int .i64 d, .int .i64 a, .int .i64 b, .int .i64 c, .bool t, .string f, .int .i64 p, .int .i64 y, .int .i64 so, .int .i64 ca] 38) := by unfold Hid; rw [← hx5]; exact Blk.new _ _ _
  have HX5 := hideP hx5
  clear hx5
  go_wp2_with fail
  rw [HX5.out]
  refine (K6 x5).mono ?_
  rintro e wz ⟨rfl, hb⟩
  have HS6 : Hid (Blk wz x4.w.heap.size #[.int .i64 k, .int .i64 m, .int .i64 d, .int .i64 a, .int .i64 b, .int .i64 c, .bool t, .string f, .int .i64 p, .int .i64 y, .int .i64 so, .int .i64 ca] 38) := HS5.out.below hb HS5.out.lt
  obtain ⟨x6, rfl⟩ := x5.next hb
  clear hb HX5 HS5 K1 K2 K3 K4' K6
  go_wp2
  obtain ⟨W9, e9⟩ : ∃ W9, W9 = ((((((((((((x6.w.setCell ⟨w.heap.size, 0, none⟩ (.int .i64 0)).setCell ⟨w.heap.size, 1, none⟩ (.int .i64 0)).setCell ⟨w.heap.size, 2, none⟩ (.int .i64 0)).setCell ⟨w.heap.size, 3, none⟩ (.int .i64 0)).setCell ⟨w.heap.size, 4, none⟩ (.int .i64 0)).setCell ⟨w.heap.size, 5, none⟩ (.int .i64 0)).setCell ⟨w.heap.size, 6, none⟩ (.bool false)).setCell ⟨w.heap.size, 7, none⟩ (.string ⟨#[]⟩)).setCell ⟨w.heap.size, 8, none⟩ (.int .i64 0)).setCell ⟨w.heap.size, 9, none⟩ (.int .i64 0)).setCell ⟨w.heap.size, 10, none⟩ (.int .i64 0)).setCell ⟨w.heap.size, 11, none⟩ (.int .i64 0)) := ⟨_, rfl⟩
  have Z9 : Blk W9 (w.heap.size) #[.int .i64 0, .int .i64 0, .int .i64 0, .int .i64 0, .int .i64 0, .int .i64 0, .bool false, .string ⟨#[]⟩, .int .i64 0, .int .i64 0, .int .i64 0, .int .i64 0] 38 := by rw [e9]; exact (((((((((((((HC.out x6).set 0 _).set 1 _).set 2 _).set 3 _).set 4 _).set 5 _).set 6 _).set 7 _).set 8 _).set 9 _).set 10 _).set 11 _)
  have B9 : Below w.heap.size w W9 := by rw [e9]; exact (below_store (below_store (below_store (below_store (below_store (below_store (below_store (below_store (below_store (below_store (below_store (below_store (HBl.out x6) (b := w.heap.size) (i := 0) _ (by omega)) (b := w.heap.size) (i := 1) _ (by omega)) (b := w.heap.size) (i := 2) _ (by omega)) (b := w.heap.size) (i := 3) _ (by omega)) (b := w.heap.size) (i := 4) _ (by omega)) (b := w.heap.size) (i := 5) _ (by omega)) (b := w.heap.size) (i := 6) _ (by omega)) (b := w.heap.size) (i := 7) _ (by omega)) (b := w.heap.size) (i := 8) _ (by omega)) (b := w.heap.size) (i := 9) _ (by omega)) (b := w.heap.size) (i := 10) _ (by omega)) (b := w.heap.size) (i := 11) _ (by omega))
  rw [← e9]
  clear e9
  have q0 : W9.cell? ⟨w.heap.size, 0, none⟩ = some (.int .i64 0) := Z9.cell 0 rfl
  have q1 : W9.cell? ⟨w.heap.size, 1, none⟩ = some (.int .i64 0) := Z9.cell 1 rfl
  have q2 : W9.cell? ⟨w.heap.size, 2, none⟩ = some (.int .i64 0) := Z9.cell 2 rfl
  have q3 : W9.cell? ⟨w.heap.size, 3, none⟩ = some (.int .i64 0) := Z9.cell 3 rfl
  have q4 : W9.cell? ⟨w.heap.size, 4, none⟩ = some (.int .i64 0) := Z9.cell 4 rfl
  have q5 : W9.cell? ⟨w.heap.size, 5, none⟩ = some (.int .i64 0) := Z9.cell 5 rfl
  have q6 : W9.cell? ⟨w.heap.size, 6, none⟩ = some (.bool false) := Z9.cell 6 rfl
  have q7 : W9.cell? ⟨w.heap.size, 7, none⟩ = some (.string ⟨#[]⟩) := Z9.cell 7 rfl
  have q8 : W9.cell? ⟨w.heap.size, 8, none⟩ = some (.int .i64 0) := Z9.cell 8 rfl
  have q9 : W9.cell? ⟨w.heap.size, 9, none⟩ = some (.int .i64 0) := Z9.cell 9 rfl
  have q10 : W9.cell? ⟨w.heap.size, 10, none⟩ = some (.int .i64 0) := Z9.cell 10 rfl
  have q11 : W9.cell? ⟨w.heap.size, 11, none⟩ = some (.int .i64 0) := Z9.cell 11 rfl
  exact bodyPost_ret (by simp [results, Tryz.results15, go_sem, say0, q0, q1, q2, q3, q4, q5, q6, q7, q8, q9, q10, q11]; first | done | rfl | exact ⟨rfl, rfl⟩) rfl ⟨rfl, B9⟩
end Go.Proofs.YtoofnjccpoeomaaGreatDoor.ctr

namespace Go.Proofs.YtoofnjccpoeomaaGreatDoor.ctr
open Go.RowKit

theorem setTo {w : World} {b : Nat} {vs vs' : Array Value} {t : TypeId} (h : Blk w b vs t) (i : Nat) (v : Value) (he : vs.setIfInBounds i v = vs') : Blk (w.setCell ⟨b, i, none⟩ v) b vs' t := he ▸ h.set i v
set_option maxRecDepth 100000 in
set_option maxHeartbeats 8000000 in
theorem implReadSaying2 (s : ByteArray) (w : World) (hs : s.size ≤ 1048576) (hT : Tab w) (hS : Shp w) (hM : Mrk w) (hN : Mon w) (hP : PowT w) (g0 : (sayTx (sayI s)).size ≠ 0) (g1 : sayTx (sayI s) = s) : Calls Tryz.prog 15 #[.string s] w fun e w' => e = .returned (saidV (readSay s)) ∧ Below w.heap.size w w' := by
  obtain ⟨W0, hW0, hC, hBl⟩ := box_any w #[.int .i64 0, .int .i64 0, .int .i64 0, .int .i64 0, .int .i64 0, .int .i64 0, .bool false, .string ⟨#[]⟩, .int .i64 0, .int .i64 0, .int .i64 0, .int .i64 0] 38
  have zr : (sayRest s).size ≤ s.size := by unfold sayRest; split; exact Nat.le_refl _; exact ahead_size s
  have za := ahead_size (sayRest s)
  have zl := last_size (sayRest s)
  have K1 : ∀ x : Later W0, Calls Tryz.prog 35 #[.string s] x.w fun e w' => e = .returned (.tuple #[.string (sayRest s), .int .i64 (calNo (lastW s))]) ∧ Below x.w.heap.size x.w w' := fun x => implCutCal s x.w hs
  have K2 : ∀ x : Later W0, Calls Tryz.prog 36 #[.string (sayRest s)] x.w fun e w' => e = .returned (.tuple #[.string (aheadW (sayRest s)), .string (lastW (sayRest s))]) ∧ Below x.w.heap.size x.w w' := fun x => implCutLast _ x.w (by omega)
  have K3 : ∀ x : Later W0, Calls Tryz.prog 37 #[.string (lastW (sayRest s))] x.w fun e w' => e = .returned (.tuple #[.int .i64 (yrI (lastW (sayRest s))).1, .int .i64 (yrI (lastW (sayRest s))).2]) ∧ Below x.w.heap.size x.w w' := fun x => implReadYears _ x.w (by omega) (hP.later (hBl x))
  have K4 : ∀ x : Later W0, Calls Tryz.prog 38 #[.string (aheadW (sayRest s))] x.w fun e w' => e = .returned (whnV (whenI (aheadW (sayRest s)))) ∧ Below x.w.heap.size x.w w' := fun x => implReadWhen _ x.w (by omega) (hT.later (hBl x)) (hS.later (hBl x)) (hM.later (hBl x)) (hN.later (hBl x)) (hP.later (hBl x))
  have K5 : ∀ (q : Say) (x : Later W0), Calls Tryz.prog 13 #[sayV q] x.w fun e w' => e = .returned (.string (sayTx q)) ∧ Below x.w.heap.size x.w w' := fun q x => implSayingText q x.w (hT.later (hBl x)) (hS.later (hBl x)) (hM.later (hBl x)) (hN.later (hBl x)) (hP.later (hBl x))
  have HE : Hid (readSay s = if (sayTx ⟨whenI (aheadW (sayRest s)), (yrI (lastW (sayRest s))).1, (yrI (lastW (sayRest s))).2, calNo (lastW s)⟩).size = 0 ∨ sayTx ⟨whenI (aheadW (sayRest s)), (yrI (lastW (sayRest s))).1, (yrI (lastW (sayRest s))).2, calNo (lastW s)⟩ ≠ s then (say0, false) else (⟨whenI (aheadW (sayRest s)), (yrI (lastW (sayRest s))).1, (yrI (lastW (sayRest s))).2, calNo (lastW s)⟩, true)) := rfl
  have h0 : (sayTx ⟨whenI (aheadW (sayRest s)), (yrI (lastW (sayRest s))).1, (yrI (lastW (sayRest s))).2, calNo (lastW s)⟩).size ≠ 0 := g0
  have h1 : sayTx ⟨whenI (aheadW (sayRest s)), (yrI (lastW (sayRest s))).1, (yrI (lastW (sayRest s))).2, calNo (lastW s)⟩ = s := g1
  clear g0 g1
  generalize readSay s = ans at *
  generalize whenI (aheadW (sayRest s)) = wh at *
  generalize yrI (lastW (sayRest s)) = yr at *
  generalize calNo (lastW s) = ca at *
  generalize aheadW (sayRest s) = t1 at *
  generalize lastW (sayRest s) = t2 at *
  generalize sayRest s = t0 at *
  obtain ⟨k, m, d, ⟨a, b, c, t⟩, f, p⟩ := wh
  obtain ⟨y, so⟩ := yr
  have K6 : ∀ x : Later W0, Calls Tryz.prog 13 #[.agg #[.int .i64 k, .int .i64 m, .int .i64 d, .int .i64 a, .int .i64 b, .int .i64 c, .bool t, .string f, .int .i64 p, .int .i64 y, .int .i64 so, .int .i64 ca]] x.w fun e w' => e = .returned (.string (sayTx ⟨⟨k, m, d, ⟨a, b, c, t⟩, f, p⟩, y, so, ca⟩)) ∧ Below x.w.heap.size x.w w' := fun x => K5 ⟨⟨k, m, d, ⟨a, b, c, t⟩, f, p⟩, y, so, ca⟩ x
  have K4' : ∀ x : Later W0, Calls Tryz.prog 38 #[.string t1] x.w fun e w' => e = .returned (.agg #[.int .i64 k, .int .i64 m, .int .i64 d, .int .i64 a, .int .i64 b, .int .i64 c, .bool t, .string f, .int .i64 p]) ∧ Below x.w.heap.size x.w w' := K4
  simp only at K3 HE
  clear K5 K4
  generalize htx : sayTx ⟨⟨k, m, d, ⟨a, b, c, t⟩, f, p⟩, y, so, ca⟩ = tx at *
  clear htx
  have f0 : ∀ x : Later W0, x.w.frozen? ⟨w.heap.size, 0, none⟩ = false := fun x => (hC x).thaw 0
  have f1 : ∀ x : Later W0, x.w.frozen? ⟨w.heap.size, 1, none⟩ = false := fun x => (hC x).thaw 1
  have f2 : ∀ x : Later W0, x.w.frozen? ⟨w.heap.size, 2, none⟩ = false := fun x => (hC x).thaw 2
  have f3 : ∀ x : Later W0, x.w.frozen? ⟨w.heap.size, 3, none⟩ = false := fun x => (hC x).thaw 3
  have f4 : ∀ x : Later W0, x.w.frozen? ⟨w.heap.size, 4, none⟩ = false := fun x => (hC x).thaw 4
  have f5 : ∀ x : Later W0, x.w.frozen? ⟨w.heap.size, 5, none⟩ = false := fun x => (hC x).thaw 5
  have f6 : ∀ x : Later W0, x.w.frozen? ⟨w.heap.size, 6, none⟩ = false := fun x => (hC x).thaw 6
  have f7 : ∀ x : Later W0, x.w.frozen? ⟨w.heap.size, 7, none⟩ = false := fun x => (hC x).thaw 7
  have f8 : ∀ x : Later W0, x.w.frozen? ⟨w.heap.size, 8, none⟩ = false := fun x => (hC x).thaw 8
  have f9 : ∀ x : Later W0, x.w.frozen? ⟨w.heap.size, 9, none⟩ = false := fun x => (hC x).thaw 9
  have f10 : ∀ x : Later W0, x.w.frozen? ⟨w.heap.size, 10, none⟩ = false := fun x => (hC x).thaw 10
  have f11 : ∀ x : Later W0, x.w.frozen? ⟨w.heap.size, 11, none⟩ = false := fun x => (hC x).thaw 11
  have u0 : ∀ x : Later W0, x.w.cell? ⟨w.heap.size, 0, none⟩ = some (.int .i64 0) := fun x => (hC x).cell 0 rfl
  have u1 : ∀ x : Later W0, x.w.cell? ⟨w.heap.size, 1, none⟩ = some (.int .i64 0) := fun x => (hC x).cell 1 rfl
  have u2 : ∀ x : Later W0, x.w.cell? ⟨w.heap.size, 2, none⟩ = some (.int .i64 0) := fun x => (hC x).cell 2 rfl
  have u3 : ∀ x : Later W0, x.w.cell? ⟨w.heap.size, 3, none⟩ = some (.int .i64 0) := fun x => (hC x).cell 3 rfl
  have u4 : ∀ x : Later W0, x.w.cell? ⟨w.heap.size, 4, none⟩ = some (.int .i64 0) := fun x => (hC x).cell 4 rfl
  have u5 : ∀ x : Later W0, x.w.cell? ⟨w.heap.size, 5, none⟩ = some (.int .i64 0) := fun x => (hC x).cell 5 rfl
  have u6 : ∀ x : Later W0, x.w.cell? ⟨w.heap.size, 6, none⟩ = some (.bool false) := fun x => (hC x).cell 6 rfl
  have u7 : ∀ x : Later W0, x.w.cell? ⟨w.heap.size, 7, none⟩ = some (.string ⟨#[]⟩) := fun x => (hC x).cell 7 rfl
  have u8 : ∀ x : Later W0, x.w.cell? ⟨w.heap.size, 8, none⟩ = some (.int .i64 0) := fun x => (hC x).cell 8 rfl
  have u9 : ∀ x : Later W0, x.w.cell? ⟨w.heap.size, 9, none⟩ = some (.int .i64 0) := fun x => (hC x).cell 9 rfl
  have u10 : ∀ x : Later W0, x.w.cell? ⟨w.heap.size, 10, none⟩ = some (.int .i64 0) := fun x => (hC x).cell 10 rfl
  have u11 : ∀ x : Later W0, x.w.cell? ⟨w.heap.size, 11, none⟩ = some (.int .i64 0) := fun x => (hC x).cell 11 rfl
  have HW0 := hideP hW0
  have HC := hideP hC
  have HBl := hideP hBl
  clear hW0 hC hBl hT hS hM hN hP zr za zl
  obtain rfl : ans = (⟨⟨k, m, d, ⟨a, b, c, t⟩, f, p⟩, y, so, ca⟩, true) := HE.out.trans (if_neg (fun h => h.elim h0 (fun h => h h1)))
  have e0 := empty_no h0
  have e1 := seq_str h1
  clear HE h1 h0
  go_enter Tryz.func15, Tryz.ntmps15
  go_wp2_with fail
  rw [← HW0.out]
  refine (K1 ⟨W0, Below.refl _ _⟩).mono ?_
  rintro e w1 ⟨rfl, hb⟩
  obtain ⟨x1, rfl⟩ := Later.of hb
  clear hb
  go_wp2_with fail
  refine (K2 x1).mono ?_
  rintro e wz ⟨rfl, hb⟩
  obtain ⟨x2, rfl⟩ := x1.next hb
  clear hb
  go_wp2_with fail
  refine (K3 x2).mono ?_
  rintro e wz ⟨rfl, hb⟩
  obtain ⟨x3, rfl⟩ := x2.next hb
  clear hb
  go_wp2_with fail
  refine (K4' x3).mono ?_
  rintro e wz ⟨rfl, hb⟩
  obtain ⟨x4, rfl⟩ := x3.next hb
  clear hb
  obtain ⟨x5, hx5⟩ : ∃ x5 : Later W0, x4.w.alloc (.cells #[.int .i64 k, .int .i64 m, .int .i64 d, .int .i64 a, .int .i64 b, .int .i64 c, .bool t, .string f, .int .i64 p, .int .i64 y, .int .i64 so, .int .i64 ca] 38) = x5.w := ⟨⟨_, x4.below.alloc x4.below.size _⟩, rfl⟩
  have HS5 : Hid (Blk x5.w x4.w.heap.size #[.int .i64 k, .int .i64 m, .int .i64 d, .int .i64 a, .int .i64 b, .int .i64 c, .bool t, .string f, .int .i64 p, .int .i64 y, .int .i64 so, .int .i64 ca] 38) := by unfold Hid; rw [← hx5]; exact Blk.new _ _ _
  have HX5 := hideP hx5
  clear hx5
  go_wp2_with fail
  rw [HX5.out]
  refine (K6 x5).mono ?_
  rintro e wz ⟨rfl, hb⟩
  have HS6 : Hid (Blk wz x4.w.heap.size #[.int .i64 k, .int .i64 m, .int .i64 d, .int .i64 a, .int .i64 b, .int .i64 c, .bool t, .string f, .int .i64 p, .int .i64 y, .int .i64 so, .int .i64 ca] 38) := HS5.out.below hb HS5.out.lt
  obtain ⟨x6, rfl⟩ := x5.next hb
  clear hb HX5 HS5 K1 K2 K3 K4' K6
  have s0 : x6.w.cell? ⟨x4.w.heap.size, 0, none⟩ = some (.int .i64 k) := HS6.out.cell 0 rfl
  have s1 : x6.w.cell? ⟨x4.w.heap.size, 1, none⟩ = some (.int .i64 m) := HS6.out.cell 1 rfl
  have s2 : x6.w.cell? ⟨x4.w.heap.size, 2, none⟩ = some (.int .i64 d) := HS6.out.cell 2 rfl
  have s3 : x6.w.cell? ⟨x4.w.heap.size, 3, none⟩ = some (.int .i64 a) := HS6.out.cell 3 rfl
  have s4 : x6.w.cell? ⟨x4.w.heap.size, 4, none⟩ = some (.int .i64 b) := HS6.out.cell 4 rfl
  have s5 : x6.w.cell? ⟨x4.w.heap.size, 5, none⟩ = some (.int .i64 c) := HS6.out.cell 5 rfl
  have s6 : x6.w.cell? ⟨x4.w.heap.size, 6, none⟩ = some (.bool t) := HS6.out.cell 6 rfl
  have s7 : x6.w.cell? ⟨x4.w.heap.size, 7, none⟩ = some (.string f) := HS6.out.cell 7 rfl
  have s8 : x6.w.cell? ⟨x4.w.heap.size, 8, none⟩ = some (.int .i64 p) := HS6.out.cell 8 rfl
  have s9 : x6.w.cell? ⟨x4.w.heap.size, 9, none⟩ = some (.int .i64 y) := HS6.out.cell 9 rfl
  have s10 : x6.w.cell? ⟨x4.w.heap.size, 10, none⟩ = some (.int .i64 so) := HS6.out.cell 10 rfl
  have s11 : x6.w.cell? ⟨x4.w.heap.size, 11, none⟩ = some (.int .i64 ca) := HS6.out.cell 11 rfl
  go_wp2
  obtain ⟨W9, e9⟩ : ∃ W9, W9 = ((((((((((((x6.w.setCell ⟨w.heap.size, 0, none⟩ (.int .i64 k)).setCell ⟨w.heap.size, 1, none⟩ (.int .i64 m)).setCell ⟨w.heap.size, 2, none⟩ (.int .i64 d)).setCell ⟨w.heap.size, 3, none⟩ (.int .i64 a)).setCell ⟨w.heap.size, 4, none⟩ (.int .i64 b)).setCell ⟨w.heap.size, 5, none⟩ (.int .i64 c)).setCell ⟨w.heap.size, 6, none⟩ (.bool t)).setCell ⟨w.heap.size, 7, none⟩ (.string f)).setCell ⟨w.heap.size, 8, none⟩ (.int .i64 p)).setCell ⟨w.heap.size, 9, none⟩ (.int .i64 y)).setCell ⟨w.heap.size, 10, none⟩ (.int .i64 so)).setCell ⟨w.heap.size, 11, none⟩ (.int .i64 ca)) := ⟨_, rfl⟩
  have Z9 : Blk W9 (w.heap.size) #[.int .i64 k, .int .i64 m, .int .i64 d, .int .i64 a, .int .i64 b, .int .i64 c, .bool t, .string f, .int .i64 p, .int .i64 y, .int .i64 so, .int .i64 ca] 38 := by rw [e9]; exact (setTo (vs' := #[.int .i64 k, .int .i64 m, .int .i64 d, .int .i64 a, .int .i64 b, .int .i64 c, .bool t, .string f, .int .i64 p, .int .i64 y, .int .i64 so, .int .i64 ca]) (setTo (vs' := #[.int .i64 k, .int .i64 m, .int .i64 d, .int .i64 a, .int .i64 b, .int .i64 c, .bool t, .string f, .int .i64 p, .int .i64 y, .int .i64 so, .int .i64 0]) (setTo (vs' := #[.int .i64 k, .int .i64 m, .int .i64 d, .int .i64 a, .int .i64 b, .int .i64 c, .bool t, .string f, .int .i64 p, .int .i64 y, .int .i64 0, .int .i64 0]) (setTo (vs' := #[.int .i64 k, .int .i64 m, .int .i64 d, .int .i64 a, .int .i64 b, .int .i64 c, .bool t, .string f, .int .i64 p, .int .i64 0, .int .i64 0, .int .i64 0]) (setTo (vs' := #[.int .i64 k, .int .i64 m, .int .i64 d, .int .i64 a, .int .i64 b, .int .i64 c, .bool t, .string f, .int .i64 0, .int .i64 0, .int .i64 0, .int .i64 0]) (setTo (vs' := #[.int .i64 k, .int .i64 m, .int .i64 d, .int .i64 a, .int .i64 b, .int .i64 c, .bool t, .string ⟨#[]⟩, .int .i64 0, .int .i64 0, .int .i64 0, .int .i64 0]) (setTo (vs' := #[.int .i64 k, .int .i64 m, .int .i64 d, .int .i64 a, .int .i64 b, .int .i64 c, .bool false, .string ⟨#[]⟩, .int .i64 0, .int .i64 0, .int .i64 0, .int .i64 0]) (setTo (vs' := #[.int .i64 k, .int .i64 m, .int .i64 d, .int .i64 a, .int .i64 b, .int .i64 0, .bool false, .string ⟨#[]⟩, .int .i64 0, .int .i64 0, .int .i64 0, .int .i64 0]) (setTo (vs' := #[.int .i64 k, .int .i64 m, .int .i64 d, .int .i64 a, .int .i64 0, .int .i64 0, .bool false, .string ⟨#[]⟩, .int .i64 0, .int .i64 0, .int .i64 0, .int .i64 0]) (setTo (vs' := #[.int .i64 k, .int .i64 m, .int .i64 d, .int .i64 0, .int .i64 0, .int .i64 0, .bool false, .string ⟨#[]⟩, .int .i64 0, .int .i64 0, .int .i64 0, .int .i64 0]) (setTo (vs' := #[.int .i64 k, .int .i64 m, .int .i64 0, .int .i64 0, .int .i64 0, .int .i64 0, .bool false, .string ⟨#[]⟩, .int .i64 0, .int .i64 0, .int .i64 0, .int .i64 0]) (setTo (vs' := #[.int .i64 k, .int .i64 0, .int .i64 0, .int .i64 0, .int .i64 0, .int .i64 0, .bool false, .string ⟨#[]⟩, .int .i64 0, .int .i64 0, .int .i64 0, .int .i64 0]) (HC.out x6) 0 _ rfl) 1 _ rfl) 2 _ rfl) 3 _ rfl) 4 _ rfl) 5 _ rfl) 6 _ rfl) 7 _ rfl) 8 _ rfl) 9 _ rfl) 10 _ rfl) 11 _ rfl)
  have B9 : Below w.heap.size w W9 := by rw [e9]; exact (below_store (below_store (below_store (below_store (below_store (below_store (below_store (below_store (below_store (below_store (below_store (below_store (HBl.out x6) (b := w.heap.size) (i := 0) _ (by omega)) (b := w.heap.size) (i := 1) _ (by omega)) (b := w.heap.size) (i := 2) _ (by omega)) (b := w.heap.size) (i := 3) _ (by omega)) (b := w.heap.size) (i := 4) _ (by omega)) (b := w.heap.size) (i := 5) _ (by omega)) (b := w.heap.size) (i := 6) _ (by omega)) (b := w.heap.size) (i := 7) _ (by omega)) (b := w.heap.size) (i := 8) _ (by omega)) (b := w.heap.size) (i := 9) _ (by omega)) (b := w.heap.size) (i := 10) _ (by omega)) (b := w.heap.size) (i := 11) _ (by omega))
  rw [← e9]
  clear e9
  have q0 : W9.cell? ⟨w.heap.size, 0, none⟩ = some (.int .i64 k) := Z9.cell 0 rfl
  have q1 : W9.cell? ⟨w.heap.size, 1, none⟩ = some (.int .i64 m) := Z9.cell 1 rfl
  have q2 : W9.cell? ⟨w.heap.size, 2, none⟩ = some (.int .i64 d) := Z9.cell 2 rfl
  have q3 : W9.cell? ⟨w.heap.size, 3, none⟩ = some (.int .i64 a) := Z9.cell 3 rfl
  have q4 : W9.cell? ⟨w.heap.size, 4, none⟩ = some (.int .i64 b) := Z9.cell 4 rfl
  have q5 : W9.cell? ⟨w.heap.size, 5, none⟩ = some (.int .i64 c) := Z9.cell 5 rfl
  have q6 : W9.cell? ⟨w.heap.size, 6, none⟩ = some (.bool t) := Z9.cell 6 rfl
  have q7 : W9.cell? ⟨w.heap.size, 7, none⟩ = some (.string f) := Z9.cell 7 rfl
  have q8 : W9.cell? ⟨w.heap.size, 8, none⟩ = some (.int .i64 p) := Z9.cell 8 rfl
  have q9 : W9.cell? ⟨w.heap.size, 9, none⟩ = some (.int .i64 y) := Z9.cell 9 rfl
  have q10 : W9.cell? ⟨w.heap.size, 10, none⟩ = some (.int .i64 so) := Z9.cell 10 rfl
  have q11 : W9.cell? ⟨w.heap.size, 11, none⟩ = some (.int .i64 ca) := Z9.cell 11 rfl
  exact bodyPost_ret (by simp [results, Tryz.results15, go_sem, q0, q1, q2, q3, q4, q5, q6, q7, q8, q9, q10, q11]; first | done | rfl | exact ⟨rfl, rfl⟩) rfl ⟨rfl, B9⟩
end Go.Proofs.YtoofnjccpoeomaaGreatDoor.ctr

namespace Go.Proofs.YtoofnjccpoeomaaGreatDoor.ctr
open Go.RowKit

theorem implReadSaying (s : ByteArray) (w : World) (hs : s.size ≤ 1048576) (hT : Tab w) (hS : Shp w) (hM : Mrk w) (hN : Mon w) (hP : PowT w) : Calls Tryz.prog 15 #[.string s] w fun e w' => e = .returned (saidV (readSay s)) ∧ Below w.heap.size w w' := by
  by_cases h0 : (sayTx (sayI s)).size = 0
  · exact implReadSaying0 s w hs hT hS hM hN hP h0
  by_cases h1 : sayTx (sayI s) = s
  · exact implReadSaying2 s w hs hT hS hM hN hP h0 h1
  · exact implReadSaying1 s w hs hT hS hM hN hP h0 h1
end Go.Proofs.YtoofnjccpoeomaaGreatDoor.ctr

namespace Go.Proofs.YtoofnjccpoeomaaGreatDoor.kit
theorem gs_len {H : Type} {enc : TypeId × Value → H} {P : Program} {W : World} {sp : Nat → Bool} : ∀ {ns : List String} {gs : List (DataW H)} {q : List MemPlace}, DataW.TrodVars enc P W sp ns gs q → gs.length = ns.length
  | [], [], _, _ => rfl
  | [], _ :: _, _, h => h.elim
  | _ :: _, [], _, h => h.elim
  | _ :: ns, _ :: gs, _, h => by
    obtain ⟨_, _, _, _, _, _, _, _, _, _, h5, _⟩ := h
    simp [gs_len h5]
theorem gs_four {H : Type} {enc : TypeId × Value → H} {P : Program} {W : World} {sp : Nat → Bool} {a b c d : String} {gs : List (DataW H)} {q : List MemPlace} (h : DataW.TrodVars enc P W sp [a, b, c, d] gs q) : ∃ g1 g2 g3 g4, gs = [g1, g2, g3, g4] := by
  have hl := gs_len h
  match gs, hl with
  | [g1, g2, g3, g4], _ => exact ⟨g1, g2, g3, g4, rfl⟩
end Go.Proofs.YtoofnjccpoeomaaGreatDoor.kit
namespace Go.Proofs.YtoofnjccpoeomaaGreatDoor.ctr
open Go.RowKit

theorem lawToRoman (a b c : Int) (d : Bool) (w : World) : Calls Tryz.prog 21 #[.agg #[.int .i64 a, .int .i64 b, .int .i64 c, .bool d]] w fun e w' => e = .returned (.agg #[.int .i64 a, .int .i64 b, .int .i64 c, .bool d]) ∧ Below w.heap.size w w' := by
  go_enter Tryz.func21, Tryz.ntmps21
  go_wp2
  go_returns
  refine ⟨rfl, ?_⟩
  go_grown
theorem lawEqRoman (a b c : Int) (d : Bool) (w : World) : Calls Tryz.prog 65 #[.agg #[.int .i64 a, .int .i64 b, .int .i64 c, .bool d], .agg #[.int .i64 a, .int .i64 b, .int .i64 c, .bool d]] w fun e w' => e = .returned (.bool true) ∧ Below w.heap.size w w' := by
  obtain ⟨W0, hW0, hD, hR, hBl⟩ := two_box w #[.int .i64 a, .int .i64 b, .int .i64 c, .bool d] #[.int .i64 a, .int .i64 b, .int .i64 c, .bool d] 28 28
  have HW0 := hideP hW0
  have HBl := hideP hBl
  obtain ⟨x0, hx0⟩ := Later.of (Below.refl W0.heap.size W0)
  have HX0 := hideP hx0
  clear hW0 hD hR hBl hx0
  go_enter Tryz.func65, Tryz.ntmps65
  go_wp2_with fail
  rw [← HW0.out]
  go_ret
  rw [HX0.out]
  exact ⟨rfl, HBl.out x0⟩
end Go.Proofs.YtoofnjccpoeomaaGreatDoor.ctr

namespace Go.Proofs.YtoofnjccpoeomaaGreatDoor.ctr
open Go.RowKit

set_option maxRecDepth 100000 in
set_option maxHeartbeats 4000000 in
theorem eqWhn (k m d a b c : Int) (t : Bool) (f : ByteArray) (p : Int) (w : World) : Calls Tryz.prog 39 #[.agg #[.int .i64 k, .int .i64 m, .int .i64 d, .int .i64 a, .int .i64 b, .int .i64 c, .bool t, .string f, .int .i64 p], .agg #[.int .i64 k, .int .i64 m, .int .i64 d, .int .i64 a, .int .i64 b, .int .i64 c, .bool t, .string f, .int .i64 p]] w fun e w' => e = .returned (.bool true) ∧ Below w.heap.size w w' := by
  obtain ⟨W0, hW0, hD, hR, hBl⟩ := two_box w #[.int .i64 k, .int .i64 m, .int .i64 d, .int .i64 a, .int .i64 b, .int .i64 c, .bool t, .string f, .int .i64 p] #[.int .i64 k, .int .i64 m, .int .i64 d, .int .i64 a, .int .i64 b, .int .i64 c, .bool t, .string f, .int .i64 p] 30 30
  have K : ∀ W, Calls Tryz.prog 65 #[.agg #[.int .i64 a, .int .i64 b, .int .i64 c, .bool t], .agg #[.int .i64 a, .int .i64 b, .int .i64 c, .bool t]] W fun e w' => e = .returned (.bool true) ∧ Below W.heap.size W w' := fun W => lawEqRoman a b c t W
  have c0_0 : ∀ x : Later W0, x.w.cell? ⟨w.heap.size, 0, none⟩ = some (.int .i64 k) := fun x => (hD x).cell 0 rfl
  have c0_1 : ∀ x : Later W0, x.w.cell? ⟨w.heap.size, 1, none⟩ = some (.int .i64 m) := fun x => (hD x).cell 1 rfl
  have c0_2 : ∀ x : Later W0, x.w.cell? ⟨w.heap.size, 2, none⟩ = some (.int .i64 d) := fun x => (hD x).cell 2 rfl
  have c0_3 : ∀ x : Later W0, x.w.cell? ⟨w.heap.size, 3, none⟩ = some (.int .i64 a) := fun x => (hD x).cell 3 rfl
  have c0_4 : ∀ x : Later W0, x.w.cell? ⟨w.heap.size, 4, none⟩ = some (.int .i64 b) := fun x => (hD x).cell 4 rfl
  have c0_5 : ∀ x : Later W0, x.w.cell? ⟨w.heap.size, 5, none⟩ = some (.int .i64 c) := fun x => (hD x).cell 5 rfl
  have c0_6 : ∀ x : Later W0, x.w.cell? ⟨w.heap.size, 6, none⟩ = some (.bool t) := fun x => (hD x).cell 6 rfl
  have c0_7 : ∀ x : Later W0, x.w.cell? ⟨w.heap.size, 7, none⟩ = some (.string f) := fun x => (hD x).cell 7 rfl
  have c0_8 : ∀ x : Later W0, x.w.cell? ⟨w.heap.size, 8, none⟩ = some (.int .i64 p) := fun x => (hD x).cell 8 rfl
  have c1_0 : ∀ x : Later W0, x.w.cell? ⟨w.heap.size + 1, 0, none⟩ = some (.int .i64 k) := fun x => (hR x).cell 0 rfl
  have c1_1 : ∀ x : Later W0, x.w.cell? ⟨w.heap.size + 1, 1, none⟩ = some (.int .i64 m) := fun x => (hR x).cell 1 rfl
  have c1_2 : ∀ x : Later W0, x.w.cell? ⟨w.heap.size + 1, 2, none⟩ = some (.int .i64 d) := fun x => (hR x).cell 2 rfl
  have c1_3 : ∀ x : Later W0, x.w.cell? ⟨w.heap.size + 1, 3, none⟩ = some (.int .i64 a) := fun x => (hR x).cell 3 rfl
  have c1_4 : ∀ x : Later W0, x.w.cell? ⟨w.heap.size + 1, 4, none⟩ = some (.int .i64 b) := fun x => (hR x).cell 4 rfl
  have c1_5 : ∀ x : Later W0, x.w.cell? ⟨w.heap.size + 1, 5, none⟩ = some (.int .i64 c) := fun x => (hR x).cell 5 rfl
  have c1_6 : ∀ x : Later W0, x.w.cell? ⟨w.heap.size + 1, 6, none⟩ = some (.bool t) := fun x => (hR x).cell 6 rfl
  have c1_7 : ∀ x : Later W0, x.w.cell? ⟨w.heap.size + 1, 7, none⟩ = some (.string f) := fun x => (hR x).cell 7 rfl
  have c1_8 : ∀ x : Later W0, x.w.cell? ⟨w.heap.size + 1, 8, none⟩ = some (.int .i64 p) := fun x => (hR x).cell 8 rfl
  have HW0 := hideP hW0
  have HBl := hideP hBl
  clear hW0 hD hR hBl
  obtain ⟨x0, hx0⟩ : ∃ x0 : Later W0, W0 = x0.w := ⟨⟨W0, Below.refl _ _⟩, rfl⟩
  have HX0 := hideP hx0
  clear hx0
  go_enter Tryz.func39, Tryz.ntmps39
  go_wp2_with fail
  rw [← HW0.out]
  refine (K _).mono ?_
  rintro e w1 ⟨rfl, hb⟩
  obtain ⟨x1, rfl⟩ := Later.of hb
  clear hb
  go_wp2
  go_ret
  exact ⟨rfl, HBl.out x1⟩
set_option maxRecDepth 100000 in
set_option maxHeartbeats 4000000 in
theorem eqSay (k m d a b c : Int) (t : Bool) (f : ByteArray) (p y so ca : Int) (w : World) : Calls Tryz.prog 16 #[.agg #[.int .i64 k, .int .i64 m, .int .i64 d, .int .i64 a, .int .i64 b, .int .i64 c, .bool t, .string f, .int .i64 p, .int .i64 y, .int .i64 so, .int .i64 ca], .agg #[.int .i64 k, .int .i64 m, .int .i64 d, .int .i64 a, .int .i64 b, .int .i64 c, .bool t, .string f, .int .i64 p, .int .i64 y, .int .i64 so, .int .i64 ca]] w fun e w' => e = .returned (.bool true) ∧ Below w.heap.size w w' := by
  obtain ⟨W0, hW0, hD, hR, hBl⟩ := two_box w #[.int .i64 k, .int .i64 m, .int .i64 d, .int .i64 a, .int .i64 b, .int .i64 c, .bool t, .string f, .int .i64 p, .int .i64 y, .int .i64 so, .int .i64 ca] #[.int .i64 k, .int .i64 m, .int .i64 d, .int .i64 a, .int .i64 b, .int .i64 c, .bool t, .string f, .int .i64 p, .int .i64 y, .int .i64 so, .int .i64 ca] 38 38
  have K : ∀ W, Calls Tryz.prog 39 #[.agg #[.int .i64 k, .int .i64 m, .int .i64 d, .int .i64 a, .int .i64 b, .int .i64 c, .bool t, .string f, .int .i64 p], .agg #[.int .i64 k, .int .i64 m, .int .i64 d, .int .i64 a, .int .i64 b, .int .i64 c, .bool t, .string f, .int .i64 p]] W fun e w' => e = .returned (.bool true) ∧ Below W.heap.size W w' := fun W => eqWhn k m d a b c t f p W
  have c0_0 : ∀ x : Later W0, x.w.cell? ⟨w.heap.size, 0, none⟩ = some (.int .i64 k) := fun x => (hD x).cell 0 rfl
  have c0_1 : ∀ x : Later W0, x.w.cell? ⟨w.heap.size, 1, none⟩ = some (.int .i64 m) := fun x => (hD x).cell 1 rfl
  have c0_2 : ∀ x : Later W0, x.w.cell? ⟨w.heap.size, 2, none⟩ = some (.int .i64 d) := fun x => (hD x).cell 2 rfl
  have c0_3 : ∀ x : Later W0, x.w.cell? ⟨w.heap.size, 3, none⟩ = some (.int .i64 a) := fun x => (hD x).cell 3 rfl
  have c0_4 : ∀ x : Later W0, x.w.cell? ⟨w.heap.size, 4, none⟩ = some (.int .i64 b) := fun x => (hD x).cell 4 rfl
  have c0_5 : ∀ x : Later W0, x.w.cell? ⟨w.heap.size, 5, none⟩ = some (.int .i64 c) := fun x => (hD x).cell 5 rfl
  have c0_6 : ∀ x : Later W0, x.w.cell? ⟨w.heap.size, 6, none⟩ = some (.bool t) := fun x => (hD x).cell 6 rfl
  have c0_7 : ∀ x : Later W0, x.w.cell? ⟨w.heap.size, 7, none⟩ = some (.string f) := fun x => (hD x).cell 7 rfl
  have c0_8 : ∀ x : Later W0, x.w.cell? ⟨w.heap.size, 8, none⟩ = some (.int .i64 p) := fun x => (hD x).cell 8 rfl
  have c0_9 : ∀ x : Later W0, x.w.cell? ⟨w.heap.size, 9, none⟩ = some (.int .i64 y) := fun x => (hD x).cell 9 rfl
  have c0_10 : ∀ x : Later W0, x.w.cell? ⟨w.heap.size, 10, none⟩ = some (.int .i64 so) := fun x => (hD x).cell 10 rfl
  have c0_11 : ∀ x : Later W0, x.w.cell? ⟨w.heap.size, 11, none⟩ = some (.int .i64 ca) := fun x => (hD x).cell 11 rfl
  have c1_0 : ∀ x : Later W0, x.w.cell? ⟨w.heap.size + 1, 0, none⟩ = some (.int .i64 k) := fun x => (hR x).cell 0 rfl
  have c1_1 : ∀ x : Later W0, x.w.cell? ⟨w.heap.size + 1, 1, none⟩ = some (.int .i64 m) := fun x => (hR x).cell 1 rfl
  have c1_2 : ∀ x : Later W0, x.w.cell? ⟨w.heap.size + 1, 2, none⟩ = some (.int .i64 d) := fun x => (hR x).cell 2 rfl
  have c1_3 : ∀ x : Later W0, x.w.cell? ⟨w.heap.size + 1, 3, none⟩ = some (.int .i64 a) := fun x => (hR x).cell 3 rfl
  have c1_4 : ∀ x : Later W0, x.w.cell? ⟨w.heap.size + 1, 4, none⟩ = some (.int .i64 b) := fun x => (hR x).cell 4 rfl
  have c1_5 : ∀ x : Later W0, x.w.cell? ⟨w.heap.size + 1, 5, none⟩ = some (.int .i64 c) := fun x => (hR x).cell 5 rfl
  have c1_6 : ∀ x : Later W0, x.w.cell? ⟨w.heap.size + 1, 6, none⟩ = some (.bool t) := fun x => (hR x).cell 6 rfl
  have c1_7 : ∀ x : Later W0, x.w.cell? ⟨w.heap.size + 1, 7, none⟩ = some (.string f) := fun x => (hR x).cell 7 rfl
  have c1_8 : ∀ x : Later W0, x.w.cell? ⟨w.heap.size + 1, 8, none⟩ = some (.int .i64 p) := fun x => (hR x).cell 8 rfl
  have c1_9 : ∀ x : Later W0, x.w.cell? ⟨w.heap.size + 1, 9, none⟩ = some (.int .i64 y) := fun x => (hR x).cell 9 rfl
  have c1_10 : ∀ x : Later W0, x.w.cell? ⟨w.heap.size + 1, 10, none⟩ = some (.int .i64 so) := fun x => (hR x).cell 10 rfl
  have c1_11 : ∀ x : Later W0, x.w.cell? ⟨w.heap.size + 1, 11, none⟩ = some (.int .i64 ca) := fun x => (hR x).cell 11 rfl
  have HW0 := hideP hW0
  have HBl := hideP hBl
  clear hW0 hD hR hBl
  obtain ⟨x0, hx0⟩ : ∃ x0 : Later W0, W0 = x0.w := ⟨⟨W0, Below.refl _ _⟩, rfl⟩
  have HX0 := hideP hx0
  clear hx0
  go_enter Tryz.func16, Tryz.ntmps16
  go_wp2_with fail
  rw [← HW0.out]
  refine (K _).mono ?_
  rintro e w1 ⟨rfl, hb⟩
  obtain ⟨x1, rfl⟩ := Later.of hb
  clear hb
  go_wp2
  go_ret
  exact ⟨rfl, HBl.out x1⟩
end Go.Proofs.YtoofnjccpoeomaaGreatDoor.ctr
