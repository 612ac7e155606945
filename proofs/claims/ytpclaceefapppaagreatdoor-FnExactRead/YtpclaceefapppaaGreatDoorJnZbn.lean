/- Contract of the program's ReadSaying: at every text of at most 1048576 bytes the saying that is told, or none; and what else the law reaches. -/
import Derived.Test.YtpclaceefapppaaGreatDoorJnZbl
import Derived.Test.YtpclaceefapppaaGreatDoorJnZad
set_option maxRecDepth 100000
set_option maxHeartbeats 8000000
namespace Go.Proofs.YtpclaceefapppaaGreatDoor.ctr
open Go.RowKit
theorem seq_str {a b : ByteArray} (h : a = b) : (a.toList == b.toList) = true := by rw [h]; simp
theorem sne_str {a b : ByteArray} (h : a ≠ b) : (a.toList == b.toList) = false := by
 cases hq : (a.toList == b.toList)
 · rfl
 · exact absurd (str_eq hq) h
abbrev saidV (q : Say × Bool) : Value := .tuple #[sayV q.1, .bool q.2]
theorem implReadSaying0 (s : ByteArray) (w : World) (hs : s.size ≤ 1048576) (hT : Tab w) (hS : Shp w) (hM : Mrk w) (hN : Mon w) (hP : PowT w) (g0 : (sayTx (sayI s)).size = 0) : CR 34 #[.string s] w (saidV (readSay s)) := by
 obtain ⟨W0, hW0, hC, hBl⟩ := box_any w #[.int .i64 0, .int .i64 0, .int .i64 0, .int .i64 0, .int .i64 0, .int .i64 0, .bool false, .string ⟨#[]⟩, .int .i64 0, .int .i64 0, .int .i64 0, .int .i64 0] 58
 have zr : (sayRest s).size ≤ s.size := by unfold sayRest; split; exact Nat.le_refl _; exact ahead_size s
 have za := ahead_size (sayRest s)
 have zl := last_size (sayRest s)
 have K1 : ∀ x : Later W0, CR 68 #[.string s] x.w (.tuple #[.string (sayRest s), .int .i64 (calNo (lastW s))]) := fun x => implCutCal s x.w hs
 have K2 : ∀ x : Later W0, CR 69 #[.string (sayRest s)] x.w (.tuple #[.string (aheadW (sayRest s)), .string (lastW (sayRest s))]) := fun x => implCutLast _ x.w (by omega)
 have K3 : ∀ x : Later W0, CR 70 #[.string (lastW (sayRest s))] x.w (.tuple #[.int .i64 (yrI (lastW (sayRest s))).1, .int .i64 (yrI (lastW (sayRest s))).2]) := fun x => implReadYears _ x.w (by omega) (hP.later (hBl x))
 have K4 : ∀ x : Later W0, CR 71 #[.string (aheadW (sayRest s))] x.w (whnV (whenI (aheadW (sayRest s)))) := fun x => implReadWhen _ x.w (by omega) (hT.later (hBl x)) (hS.later (hBl x)) (hM.later (hBl x)) (hN.later (hBl x)) (hP.later (hBl x))
 have K5 : ∀ (q : Say) (x : Later W0), CR 72 #[sayV q] x.w (.string (sayTx q)) := fun q x => implSayingText q x.w (hT.later (hBl x)) (hS.later (hBl x)) (hM.later (hBl x)) (hN.later (hBl x)) (hP.later (hBl x))
 have HE : Hid (readSay s = if (sayTx ⟨whenI (aheadW (sayRest s)), (yrI (lastW (sayRest s))).1, (yrI (lastW (sayRest s))).2, calNo (lastW s)⟩).size = 0 ∨ sayTx ⟨whenI (aheadW (sayRest s)), (yrI (lastW (sayRest s))).1, (yrI (lastW (sayRest s))).2, calNo (lastW s)⟩ ≠ s then (say0, false) else (⟨whenI (aheadW (sayRest s)), (yrI (lastW (sayRest s))).1, (yrI (lastW (sayRest s))).2, calNo (lastW s)⟩, true)) := rfl
 have h0 : (sayTx ⟨whenI (aheadW (sayRest s)), (yrI (lastW (sayRest s))).1, (yrI (lastW (sayRest s))).2, calNo (lastW s)⟩).size = 0 := g0
 clear g0
 generalize readSay s = ans at *
 generalize whenI (aheadW (sayRest s)) = wh at *
 generalize yrI (lastW (sayRest s)) = yr at *
 generalize calNo (lastW s) = ca at *
 generalize aheadW (sayRest s) = t1 at *
 generalize lastW (sayRest s) = t2 at *
 generalize sayRest s = t0 at *
 obtain ⟨k, m, d, ⟨a, b, c, t⟩, f, p⟩ := wh
 obtain ⟨y, so⟩ := yr
 have K6 : ∀ x : Later W0, CR 72 #[.agg #[.int .i64 k, .int .i64 m, .int .i64 d, .int .i64 a, .int .i64 b, .int .i64 c, .bool t, .string f, .int .i64 p, .int .i64 y, .int .i64 so, .int .i64 ca]] x.w (.string (sayTx ⟨⟨k, m, d, ⟨a, b, c, t⟩, f, p⟩, y, so, ca⟩)) := fun x => K5 ⟨⟨k, m, d, ⟨a, b, c, t⟩, f, p⟩, y, so, ca⟩ x
 have K4' : ∀ x : Later W0, CR 71 #[.string t1] x.w (.agg #[.int .i64 k, .int .i64 m, .int .i64 d, .int .i64 a, .int .i64 b, .int .i64 c, .bool t, .string f, .int .i64 p]) := K4
 simp only at K3 HE
 clear K5 K4
 generalize htx : sayTx ⟨⟨k, m, d, ⟨a, b, c, t⟩, f, p⟩, y, so, ca⟩ = tx at *
 clear htx
 obtain ⟨f0, f1, f2, f3, f4, f5, f6, f7, f8, f9, f10, f11⟩ := thaws12 hC
 obtain ⟨u0, u1, u2, u3, u4, u5, u6, u7, u8, u9, u10, u11⟩ := cells12 hC
 have HW0 := hideP hW0
 have HC := hideP hC
 have HBl := hideP hBl
 clear hW0 hC hBl hT hS hM hN hP zr za zl
 obtain rfl : ans = (say0, false) := HE.out.trans (if_pos (.inl h0))
 have e0 := empty_yes h0
 clear HE h0
 go_enter Tryz.func34, Tryz.ntmps34
 go_wp2_with fail
 rw [← HW0.out]
 refine latO (K1 ⟨W0, Below.refl _ _⟩) fun x1 => ?_
 go_wp2_with fail
 refine lat (K2 x1) fun x2 => ?_
 go_wp2_with fail
 refine lat (K3 x2) fun x3 => ?_
 go_wp2_with fail
 refine lat (K4' x3) fun x4 => ?_
 obtain ⟨x5, hx5, HS5⟩ := x4.fresh #[.int .i64 k, .int .i64 m, .int .i64 d, .int .i64 a, .int .i64 b, .int .i64 c, .bool t, .string f, .int .i64 p, .int .i64 y, .int .i64 so, .int .i64 ca] 58
 have HX5 := hideP hx5
 clear hx5
 go_wp2_with fail
 rw [HX5.out]
 refine (K6 x5).mono ?_
 rintro e wz ⟨rfl, hb⟩
 have HS6 : Hid (Blk wz x4.w.heap.size #[.int .i64 k, .int .i64 m, .int .i64 d, .int .i64 a, .int .i64 b, .int .i64 c, .bool t, .string f, .int .i64 p, .int .i64 y, .int .i64 so, .int .i64 ca] 58) := HS5.out.below hb HS5.out.lt
 obtain ⟨x6, rfl⟩ := x5.next hb
 clear hb HX5 HS5 K1 K2 K3 K4' K6
 go_wp2
 exact ret12 (HC.out x6) (HBl.out x6) (by omega) rfl (fun _ q0 q1 q2 q3 q4 q5 q6 q7 q8 q9 q10 q11 B9 => ⟨by simp [results, Tryz.results34, go_sem, say0, q0, q1, q2, q3, q4, q5, q6, q7, q8, q9, q10, q11]; first | done | rfl | exact ⟨rfl, rfl⟩, rfl, B9⟩)
theorem implReadSaying1 (s : ByteArray) (w : World) (hs : s.size ≤ 1048576) (hT : Tab w) (hS : Shp w) (hM : Mrk w) (hN : Mon w) (hP : PowT w) (g0 : (sayTx (sayI s)).size ≠ 0) (g1 : sayTx (sayI s) ≠ s) : CR 34 #[.string s] w (saidV (readSay s)) := by
 obtain ⟨W0, hW0, hC, hBl⟩ := box_any w #[.int .i64 0, .int .i64 0, .int .i64 0, .int .i64 0, .int .i64 0, .int .i64 0, .bool false, .string ⟨#[]⟩, .int .i64 0, .int .i64 0, .int .i64 0, .int .i64 0] 58
 have zr : (sayRest s).size ≤ s.size := by unfold sayRest; split; exact Nat.le_refl _; exact ahead_size s
 have za := ahead_size (sayRest s)
 have zl := last_size (sayRest s)
 have K1 : ∀ x : Later W0, CR 68 #[.string s] x.w (.tuple #[.string (sayRest s), .int .i64 (calNo (lastW s))]) := fun x => implCutCal s x.w hs
 have K2 : ∀ x : Later W0, CR 69 #[.string (sayRest s)] x.w (.tuple #[.string (aheadW (sayRest s)), .string (lastW (sayRest s))]) := fun x => implCutLast _ x.w (by omega)
 have K3 : ∀ x : Later W0, CR 70 #[.string (lastW (sayRest s))] x.w (.tuple #[.int .i64 (yrI (lastW (sayRest s))).1, .int .i64 (yrI (lastW (sayRest s))).2]) := fun x => implReadYears _ x.w (by omega) (hP.later (hBl x))
 have K4 : ∀ x : Later W0, CR 71 #[.string (aheadW (sayRest s))] x.w (whnV (whenI (aheadW (sayRest s)))) := fun x => implReadWhen _ x.w (by omega) (hT.later (hBl x)) (hS.later (hBl x)) (hM.later (hBl x)) (hN.later (hBl x)) (hP.later (hBl x))
 have K5 : ∀ (q : Say) (x : Later W0), CR 72 #[sayV q] x.w (.string (sayTx q)) := fun q x => implSayingText q x.w (hT.later (hBl x)) (hS.later (hBl x)) (hM.later (hBl x)) (hN.later (hBl x)) (hP.later (hBl x))
 have HE : Hid (readSay s = if (sayTx ⟨whenI (aheadW (sayRest s)), (yrI (lastW (sayRest s))).1, (yrI (lastW (sayRest s))).2, calNo (lastW s)⟩).size = 0 ∨ sayTx ⟨whenI (aheadW (sayRest s)), (yrI (lastW (sayRest s))).1, (yrI (lastW (sayRest s))).2, calNo (lastW s)⟩ ≠ s then (say0, false) else (⟨whenI (aheadW (sayRest s)), (yrI (lastW (sayRest s))).1, (yrI (lastW (sayRest s))).2, calNo (lastW s)⟩, true)) := rfl
 have h0 : (sayTx ⟨whenI (aheadW (sayRest s)), (yrI (lastW (sayRest s))).1, (yrI (lastW (sayRest s))).2, calNo (lastW s)⟩).size ≠ 0 := g0
 have h1 : sayTx ⟨whenI (aheadW (sayRest s)), (yrI (lastW (sayRest s))).1, (yrI (lastW (sayRest s))).2, calNo (lastW s)⟩ ≠ s := g1
 clear g0 g1
 generalize readSay s = ans at *
 generalize whenI (aheadW (sayRest s)) = wh at *
 generalize yrI (lastW (sayRest s)) = yr at *
 generalize calNo (lastW s) = ca at *
 generalize aheadW (sayRest s) = t1 at *
 generalize lastW (sayRest s) = t2 at *
 generalize sayRest s = t0 at *
 obtain ⟨k, m, d, ⟨a, b, c, t⟩, f, p⟩ := wh
 obtain ⟨y, so⟩ := yr
 have K6 : ∀ x : Later W0, CR 72 #[.agg #[.int .i64 k, .int .i64 m, .int .i64 d, .int .i64 a, .int .i64 b, .int .i64 c, .bool t, .string f, .int .i64 p, .int .i64 y, .int .i64 so, .int .i64 ca]] x.w (.string (sayTx ⟨⟨k, m, d, ⟨a, b, c, t⟩, f, p⟩, y, so, ca⟩)) := fun x => K5 ⟨⟨k, m, d, ⟨a, b, c, t⟩, f, p⟩, y, so, ca⟩ x
 have K4' : ∀ x : Later W0, CR 71 #[.string t1] x.w (.agg #[.int .i64 k, .int .i64 m, .int .i64 d, .int .i64 a, .int .i64 b, .int .i64 c, .bool t, .string f, .int .i64 p]) := K4
 simp only at K3 HE
 clear K5 K4
 generalize htx : sayTx ⟨⟨k, m, d, ⟨a, b, c, t⟩, f, p⟩, y, so, ca⟩ = tx at *
 clear htx
 obtain ⟨f0, f1, f2, f3, f4, f5, f6, f7, f8, f9, f10, f11⟩ := thaws12 hC
 obtain ⟨u0, u1, u2, u3, u4, u5, u6, u7, u8, u9, u10, u11⟩ := cells12 hC
 have HW0 := hideP hW0
 have HC := hideP hC
 have HBl := hideP hBl
 clear hW0 hC hBl hT hS hM hN hP zr za zl
 obtain rfl : ans = (say0, false) := HE.out.trans (if_pos (.inr h1))
 have e0 := empty_no h0
 have e1 := sne_str h1
 clear HE h1 h0
 go_enter Tryz.func34, Tryz.ntmps34
 go_wp2_with fail
 rw [← HW0.out]
 refine latO (K1 ⟨W0, Below.refl _ _⟩) fun x1 => ?_
 go_wp2_with fail
 refine lat (K2 x1) fun x2 => ?_
 go_wp2_with fail
 refine lat (K3 x2) fun x3 => ?_
 go_wp2_with fail
 refine lat (K4' x3) fun x4 => ?_
 obtain ⟨x5, hx5, HS5⟩ := x4.fresh #[.int .i64 k, .int .i64 m, .int .i64 d, .int .i64 a, .int .i64 b, .int .i64 c, .bool t, .string f, .int .i64 p, .int .i64 y, .int .i64 so, .int .i64 ca] 58
 have HX5 := hideP hx5
 clear hx5
 go_wp2_with fail
 rw [HX5.out]
 refine (K6 x5).mono ?_
 rintro e wz ⟨rfl, hb⟩
 have HS6 : Hid (Blk wz x4.w.heap.size #[.int .i64 k, .int .i64 m, .int .i64 d, .int .i64 a, .int .i64 b, .int .i64 c, .bool t, .string f, .int .i64 p, .int .i64 y, .int .i64 so, .int .i64 ca] 58) := HS5.out.below hb HS5.out.lt
 obtain ⟨x6, rfl⟩ := x5.next hb
 clear hb HX5 HS5 K1 K2 K3 K4' K6
 go_wp2
 exact ret12 (HC.out x6) (HBl.out x6) (by omega) rfl (fun _ q0 q1 q2 q3 q4 q5 q6 q7 q8 q9 q10 q11 B9 => ⟨by simp [results, Tryz.results34, go_sem, say0, q0, q1, q2, q3, q4, q5, q6, q7, q8, q9, q10, q11]; first | done | rfl | exact ⟨rfl, rfl⟩, rfl, B9⟩)
theorem setTo {w : World} {b : Nat} {vs vs' : Array Value} {t : TypeId} (h : Blk w b vs t) (i : Nat) (v : Value) (he : vs.setIfInBounds i v = vs') : Blk (w.setCell ⟨b, i, none⟩ v) b vs' t := he ▸ h.set i v
theorem implReadSaying2 (s : ByteArray) (w : World) (hs : s.size ≤ 1048576) (hT : Tab w) (hS : Shp w) (hM : Mrk w) (hN : Mon w) (hP : PowT w) (g0 : (sayTx (sayI s)).size ≠ 0) (g1 : sayTx (sayI s) = s) : CR 34 #[.string s] w (saidV (readSay s)) := by
 obtain ⟨W0, hW0, hC, hBl⟩ := box_any w #[.int .i64 0, .int .i64 0, .int .i64 0, .int .i64 0, .int .i64 0, .int .i64 0, .bool false, .string ⟨#[]⟩, .int .i64 0, .int .i64 0, .int .i64 0, .int .i64 0] 58
 have zr : (sayRest s).size ≤ s.size := by unfold sayRest; split; exact Nat.le_refl _; exact ahead_size s
 have za := ahead_size (sayRest s)
 have zl := last_size (sayRest s)
 have K1 : ∀ x : Later W0, CR 68 #[.string s] x.w (.tuple #[.string (sayRest s), .int .i64 (calNo (lastW s))]) := fun x => implCutCal s x.w hs
 have K2 : ∀ x : Later W0, CR 69 #[.string (sayRest s)] x.w (.tuple #[.string (aheadW (sayRest s)), .string (lastW (sayRest s))]) := fun x => implCutLast _ x.w (by omega)
 have K3 : ∀ x : Later W0, CR 70 #[.string (lastW (sayRest s))] x.w (.tuple #[.int .i64 (yrI (lastW (sayRest s))).1, .int .i64 (yrI (lastW (sayRest s))).2]) := fun x => implReadYears _ x.w (by omega) (hP.later (hBl x))
 have K4 : ∀ x : Later W0, CR 71 #[.string (aheadW (sayRest s))] x.w (whnV (whenI (aheadW (sayRest s)))) := fun x => implReadWhen _ x.w (by omega) (hT.later (hBl x)) (hS.later (hBl x)) (hM.later (hBl x)) (hN.later (hBl x)) (hP.later (hBl x))
 have K5 : ∀ (q : Say) (x : Later W0), CR 72 #[sayV q] x.w (.string (sayTx q)) := fun q x => implSayingText q x.w (hT.later (hBl x)) (hS.later (hBl x)) (hM.later (hBl x)) (hN.later (hBl x)) (hP.later (hBl x))
 have HE : Hid (readSay s = if (sayTx ⟨whenI (aheadW (sayRest s)), (yrI (lastW (sayRest s))).1, (yrI (lastW (sayRest s))).2, calNo (lastW s)⟩).size = 0 ∨ sayTx ⟨whenI (aheadW (sayRest s)), (yrI (lastW (sayRest s))).1, (yrI (lastW (sayRest s))).2, calNo (lastW s)⟩ ≠ s then (say0, false) else (⟨whenI (aheadW (sayRest s)), (yrI (lastW (sayRest s))).1, (yrI (lastW (sayRest s))).2, calNo (lastW s)⟩, true)) := rfl
 have h0 : (sayTx ⟨whenI (aheadW (sayRest s)), (yrI (lastW (sayRest s))).1, (yrI (lastW (sayRest s))).2, calNo (lastW s)⟩).size ≠ 0 := g0
 have h1 : sayTx ⟨whenI (aheadW (sayRest s)), (yrI (lastW (sayRest s))).1, (yrI (lastW (sayRest s))).2, calNo (lastW s)⟩ = s := g1
 clear g0 g1
 generalize readSay s = ans at *
 generalize whenI (aheadW (sayRest s)) = wh at *
 generalize yrI (lastW (sayRest s)) = yr at *
 generalize calNo (lastW s) = ca at *
 generalize aheadW (sayRest s) = t1 at *
 generalize lastW (sayRest s) = t2 at *
 generalize sayRest s = t0 at *
 obtain ⟨k, m, d, ⟨a, b, c, t⟩, f, p⟩ := wh
 obtain ⟨y, so⟩ := yr
 have K6 : ∀ x : Later W0, CR 72 #[.agg #[.int .i64 k, .int .i64 m, .int .i64 d, .int .i64 a, .int .i64 b, .int .i64 c, .bool t, .string f, .int .i64 p, .int .i64 y, .int .i64 so, .int .i64 ca]] x.w (.string (sayTx ⟨⟨k, m, d, ⟨a, b, c, t⟩, f, p⟩, y, so, ca⟩)) := fun x => K5 ⟨⟨k, m, d, ⟨a, b, c, t⟩, f, p⟩, y, so, ca⟩ x
 have K4' : ∀ x : Later W0, CR 71 #[.string t1] x.w (.agg #[.int .i64 k, .int .i64 m, .int .i64 d, .int .i64 a, .int .i64 b, .int .i64 c, .bool t, .string f, .int .i64 p]) := K4
 simp only at K3 HE
 clear K5 K4
 generalize htx : sayTx ⟨⟨k, m, d, ⟨a, b, c, t⟩, f, p⟩, y, so, ca⟩ = tx at *
 clear htx
 obtain ⟨f0, f1, f2, f3, f4, f5, f6, f7, f8, f9, f10, f11⟩ := thaws12 hC
 obtain ⟨u0, u1, u2, u3, u4, u5, u6, u7, u8, u9, u10, u11⟩ := cells12 hC
 have HW0 := hideP hW0
 have HC := hideP hC
 have HBl := hideP hBl
 clear hW0 hC hBl hT hS hM hN hP zr za zl
 obtain rfl : ans = (⟨⟨k, m, d, ⟨a, b, c, t⟩, f, p⟩, y, so, ca⟩, true) := HE.out.trans (if_neg (fun h => h.elim h0 (fun h => h h1)))
 have e0 := empty_no h0
 have e1 := seq_str h1
 clear HE h1 h0
 go_enter Tryz.func34, Tryz.ntmps34
 go_wp2_with fail
 rw [← HW0.out]
 refine latO (K1 ⟨W0, Below.refl _ _⟩) fun x1 => ?_
 go_wp2_with fail
 refine lat (K2 x1) fun x2 => ?_
 go_wp2_with fail
 refine lat (K3 x2) fun x3 => ?_
 go_wp2_with fail
 refine lat (K4' x3) fun x4 => ?_
 obtain ⟨x5, hx5, HS5⟩ := x4.fresh #[.int .i64 k, .int .i64 m, .int .i64 d, .int .i64 a, .int .i64 b, .int .i64 c, .bool t, .string f, .int .i64 p, .int .i64 y, .int .i64 so, .int .i64 ca] 58
 have HX5 := hideP hx5
 clear hx5
 go_wp2_with fail
 rw [HX5.out]
 refine (K6 x5).mono ?_
 rintro e wz ⟨rfl, hb⟩
 have HS6 : Hid (Blk wz x4.w.heap.size #[.int .i64 k, .int .i64 m, .int .i64 d, .int .i64 a, .int .i64 b, .int .i64 c, .bool t, .string f, .int .i64 p, .int .i64 y, .int .i64 so, .int .i64 ca] 58) := HS5.out.below hb HS5.out.lt
 obtain ⟨x6, rfl⟩ := x5.next hb
 clear hb HX5 HS5 K1 K2 K3 K4' K6
 have s0 : x6.w.cell? ⟨x4.w.heap.size, 0, none⟩ = some (.int .i64 k) := HS6.out.cell 0 rfl
 have s1 : x6.w.cell? ⟨x4.w.heap.size, 1, none⟩ = some (.int .i64 m) := HS6.out.cell 1 rfl
 have s2 : x6.w.cell? ⟨x4.w.heap.size, 2, none⟩ = some (.int .i64 d) := HS6.out.cell 2 rfl
 have s3 : x6.w.cell? ⟨x4.w.heap.size, 3, none⟩ = some (.int .i64 a) := HS6.out.cell 3 rfl
 have s4 : x6.w.cell? ⟨x4.w.heap.size, 4, none⟩ = some (.int .i64 b) := HS6.out.cell 4 rfl
 have s5 : x6.w.cell? ⟨x4.w.heap.size, 5, none⟩ = some (.int .i64 c) := HS6.out.cell 5 rfl
 have s6 : x6.w.cell? ⟨x4.w.heap.size, 6, none⟩ = some (.bool t) := HS6.out.cell 6 rfl
 have s7 : x6.w.cell? ⟨x4.w.heap.size, 7, none⟩ = some (.string f) := HS6.out.cell 7 rfl
 have s8 : x6.w.cell? ⟨x4.w.heap.size, 8, none⟩ = some (.int .i64 p) := HS6.out.cell 8 rfl
 have s9 : x6.w.cell? ⟨x4.w.heap.size, 9, none⟩ = some (.int .i64 y) := HS6.out.cell 9 rfl
 have s10 : x6.w.cell? ⟨x4.w.heap.size, 10, none⟩ = some (.int .i64 so) := HS6.out.cell 10 rfl
 have s11 : x6.w.cell? ⟨x4.w.heap.size, 11, none⟩ = some (.int .i64 ca) := HS6.out.cell 11 rfl
 go_wp2
 obtain ⟨W9, e9⟩ : ∃ W9, W9 = ((((((((((((x6.w.setCell ⟨w.heap.size, 0, none⟩ (.int .i64 k)).setCell ⟨w.heap.size, 1, none⟩ (.int .i64 m)).setCell ⟨w.heap.size, 2, none⟩ (.int .i64 d)).setCell ⟨w.heap.size, 3, none⟩ (.int .i64 a)).setCell ⟨w.heap.size, 4, none⟩ (.int .i64 b)).setCell ⟨w.heap.size, 5, none⟩ (.int .i64 c)).setCell ⟨w.heap.size, 6, none⟩ (.bool t)).setCell ⟨w.heap.size, 7, none⟩ (.string f)).setCell ⟨w.heap.size, 8, none⟩ (.int .i64 p)).setCell ⟨w.heap.size, 9, none⟩ (.int .i64 y)).setCell ⟨w.heap.size, 10, none⟩ (.int .i64 so)).setCell ⟨w.heap.size, 11, none⟩ (.int .i64 ca)) := ⟨_, rfl⟩
 have Z9 : Blk W9 (w.heap.size) #[.int .i64 k, .int .i64 m, .int .i64 d, .int .i64 a, .int .i64 b, .int .i64 c, .bool t, .string f, .int .i64 p, .int .i64 y, .int .i64 so, .int .i64 ca] 58 := by rw [e9]; exact (setTo (vs' := #[.int .i64 k, .int .i64 m, .int .i64 d, .int .i64 a, .int .i64 b, .int .i64 c, .bool t, .string f, .int .i64 p, .int .i64 y, .int .i64 so, .int .i64 ca]) (setTo (vs' := #[.int .i64 k, .int .i64 m, .int .i64 d, .int .i64 a, .int .i64 b, .int .i64 c, .bool t, .string f, .int .i64 p, .int .i64 y, .int .i64 so, .int .i64 0]) (setTo (vs' := #[.int .i64 k, .int .i64 m, .int .i64 d, .int .i64 a, .int .i64 b, .int .i64 c, .bool t, .string f, .int .i64 p, .int .i64 y, .int .i64 0, .int .i64 0]) (setTo (vs' := #[.int .i64 k, .int .i64 m, .int .i64 d, .int .i64 a, .int .i64 b, .int .i64 c, .bool t, .string f, .int .i64 p, .int .i64 0, .int .i64 0, .int .i64 0]) (setTo (vs' := #[.int .i64 k, .int .i64 m, .int .i64 d, .int .i64 a, .int .i64 b, .int .i64 c, .bool t, .string f, .int .i64 0, .int .i64 0, .int .i64 0, .int .i64 0]) (setTo (vs' := #[.int .i64 k, .int .i64 m, .int .i64 d, .int .i64 a, .int .i64 b, .int .i64 c, .bool t, .string ⟨#[]⟩, .int .i64 0, .int .i64 0, .int .i64 0, .int .i64 0]) (setTo (vs' := #[.int .i64 k, .int .i64 m, .int .i64 d, .int .i64 a, .int .i64 b, .int .i64 c, .bool false, .string ⟨#[]⟩, .int .i64 0, .int .i64 0, .int .i64 0, .int .i64 0]) (setTo (vs' := #[.int .i64 k, .int .i64 m, .int .i64 d, .int .i64 a, .int .i64 b, .int .i64 0, .bool false, .string ⟨#[]⟩, .int .i64 0, .int .i64 0, .int .i64 0, .int .i64 0]) (setTo (vs' := #[.int .i64 k, .int .i64 m, .int .i64 d, .int .i64 a, .int .i64 0, .int .i64 0, .bool false, .string ⟨#[]⟩, .int .i64 0, .int .i64 0, .int .i64 0, .int .i64 0]) (setTo (vs' := #[.int .i64 k, .int .i64 m, .int .i64 d, .int .i64 0, .int .i64 0, .int .i64 0, .bool false, .string ⟨#[]⟩, .int .i64 0, .int .i64 0, .int .i64 0, .int .i64 0]) (setTo (vs' := #[.int .i64 k, .int .i64 m, .int .i64 0, .int .i64 0, .int .i64 0, .int .i64 0, .bool false, .string ⟨#[]⟩, .int .i64 0, .int .i64 0, .int .i64 0, .int .i64 0]) (setTo (vs' := #[.int .i64 k, .int .i64 0, .int .i64 0, .int .i64 0, .int .i64 0, .int .i64 0, .bool false, .string ⟨#[]⟩, .int .i64 0, .int .i64 0, .int .i64 0, .int .i64 0]) (HC.out x6) 0 _ rfl) 1 _ rfl) 2 _ rfl) 3 _ rfl) 4 _ rfl) 5 _ rfl) 6 _ rfl) 7 _ rfl) 8 _ rfl) 9 _ rfl) 10 _ rfl) 11 _ rfl)
 have B9 : Below w.heap.size w W9 := by rw [e9]; exact (below_store (below_store (below_store (below_store (below_store (below_store (below_store (below_store (below_store (below_store (below_store (below_store (HBl.out x6) (b := w.heap.size) (i := 0) _ (by omega)) (b := w.heap.size) (i := 1) _ (by omega)) (b := w.heap.size) (i := 2) _ (by omega)) (b := w.heap.size) (i := 3) _ (by omega)) (b := w.heap.size) (i := 4) _ (by omega)) (b := w.heap.size) (i := 5) _ (by omega)) (b := w.heap.size) (i := 6) _ (by omega)) (b := w.heap.size) (i := 7) _ (by omega)) (b := w.heap.size) (i := 8) _ (by omega)) (b := w.heap.size) (i := 9) _ (by omega)) (b := w.heap.size) (i := 10) _ (by omega)) (b := w.heap.size) (i := 11) _ (by omega))
 rw [← e9]
 clear e9
 have q0 : W9.cell? ⟨w.heap.size, 0, none⟩ = some (.int .i64 k) := Z9.cell 0 rfl
 have q1 : W9.cell? ⟨w.heap.size, 1, none⟩ = some (.int .i64 m) := Z9.cell 1 rfl
 have q2 : W9.cell? ⟨w.heap.size, 2, none⟩ = some (.int .i64 d) := Z9.cell 2 rfl
 have q3 : W9.cell? ⟨w.heap.size, 3, none⟩ = some (.int .i64 a) := Z9.cell 3 rfl
 have q4 : W9.cell? ⟨w.heap.size, 4, none⟩ = some (.int .i64 b) := Z9.cell 4 rfl
 have q5 : W9.cell? ⟨w.heap.size, 5, none⟩ = some (.int .i64 c) := Z9.cell 5 rfl
 have q6 : W9.cell? ⟨w.heap.size, 6, none⟩ = some (.bool t) := Z9.cell 6 rfl
 have q7 : W9.cell? ⟨w.heap.size, 7, none⟩ = some (.string f) := Z9.cell 7 rfl
 have q8 : W9.cell? ⟨w.heap.size, 8, none⟩ = some (.int .i64 p) := Z9.cell 8 rfl
 have q9 : W9.cell? ⟨w.heap.size, 9, none⟩ = some (.int .i64 y) := Z9.cell 9 rfl
 have q10 : W9.cell? ⟨w.heap.size, 10, none⟩ = some (.int .i64 so) := Z9.cell 10 rfl
 have q11 : W9.cell? ⟨w.heap.size, 11, none⟩ = some (.int .i64 ca) := Z9.cell 11 rfl
 exact bodyPost_ret (by simp [results, Tryz.results34, go_sem, q0, q1, q2, q3, q4, q5, q6, q7, q8, q9, q10, q11]; first | done | rfl | exact ⟨rfl, rfl⟩) rfl ⟨rfl, B9⟩
theorem implReadSaying (s : ByteArray) (w : World) (hs : s.size ≤ 1048576) (hT : Tab w) (hS : Shp w) (hM : Mrk w) (hN : Mon w) (hP : PowT w) : CR 34 #[.string s] w (saidV (readSay s)) := by
 by_cases h0 : (sayTx (sayI s)).size = 0
 · exact implReadSaying0 s w hs hT hS hM hN hP h0
 by_cases h1 : sayTx (sayI s) = s
 · exact implReadSaying2 s w hs hT hS hM hN hP h0 h1
 · exact implReadSaying1 s w hs hT hS hM hN hP h0 h1
end Go.Proofs.YtpclaceefapppaaGreatDoor.ctr
