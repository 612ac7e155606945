/- The days of a span whose marks are not nought. Plain. The program's Doubtful. The model's Marks. The model's Doubtful. -/
import Derived.Test.YtdmlhiailjnhcaaGreatDoorJnYai
import Derived.Test.YtdmlhiailjnhcaaGreatDoorJnYbp
import Derived.Lib.MinMax
import Derived.Test.YtdmlhiailjnhcaaGreatDoorMkdSY
import Derived.Test.YtdmlhiailjnhcaaGreatDoorJnYbm
import Derived.Test.YtdmlhiailjnhcaaGreatDoorJnYad
import Derived.Test.YtdmlhiailjnhcaaGreatDoorJnYbg
namespace Go.Proofs.YtdmlhiailjnhcaaGreatDoor.ctr
open Go.RowKit
noncomputable def doubtB (r : Rgm) (k n : Int) : Bool := decide (r.fr ≤ n ∧ n ≤ r.to) && !decide (marksP r n k = 0)
noncomputable def doubtL (r : Rgm) (f t k : Int) : List Int := if regimeB r = true ∧ dayB f = true ∧ dayB t = true ∧ t - f < 400 then daysWhere f t (doubtB r k) else []
theorem doubt_no {r : Rgm} {f t k : Int} (h : ¬ (regimeB r = true ∧ dayB f = true ∧ dayB t = true ∧ t - f < 400)) : doubtL r f t k = [] := by unfold doubtL; rw [if_neg h]
theorem doubt_yes {r : Rgm} {f t k : Int} (h1 : regimeB r = true) (h2 : dayB f = true) (h3 : dayB t = true) (h4 : t - f < 400) : doubtL r f t k = daysWhere f t (doubtB r k) := by unfold doubtL; rw [if_pos ⟨h1, h2, h3, h4⟩]
theorem dayB_nums {n : Int} (h : dayB n = true) : 400 ≤ n ∧ n ≤ 1090000 := by
 have := of_inB h
 omega
theorem right_span {r : Rgm} (h : regimeB r = true) : 400 ≤ r.fr ∧ r.to ≤ 1090000 := by
 unfold regimeB at h
 simp only [Bool.and_eq_true] at h
 exact ⟨(dayB_nums h.2.1).1, (dayB_nums h.2.2.1).2⟩
theorem doubt_clip {r : Rgm} {f t k : Int} : daysWhere f t (doubtB r k) = daysWhere (max f r.fr) (min t r.to) (fun n => !decide (marksP r n k = 0)) :=
 DSet.eq (daysWhere_set _ _ _) ((daysWhere_set _ _ _).imp (fun z => ⟨fun q => by
  obtain ⟨q1, q2, q3⟩ := q
  refine ⟨by omega, by omega, ?_⟩
  unfold doubtB
  rw [decide_eq_true (show r.fr ≤ z ∧ z ≤ r.to by omega), Bool.true_and]
  exact q3, fun q => by
  obtain ⟨q1, q2, q3⟩ := q
  unfold doubtB at q3
  simp only [Bool.and_eq_true, decide_eq_true_eq] at q3
  exact ⟨by omega, by omega, q3.2⟩⟩))
theorem doubt_len (r : Rgm) (f t k : Int) : (doubtL r f t k).length ≤ 1000 := by
 unfold doubtL
 split
 · have := daysWhere_len f t (doubtB r k)
   omega
 · exact Nat.zero_le _
end Go.Proofs.YtdmlhiailjnhcaaGreatDoor.ctr
namespace Go.Proofs.YtdmlhiailjnhcaaGreatDoor.ctr
open Go.RowKit
set_option linter.unusedSimpArgs false
set_option maxRecDepth 100000 in
set_option maxHeartbeats 16000000 in
theorem implDoubtful (v : Value) (r : Rgm) (f t k : Int) (q : Addr) (w : World) (h : GRow w v r) (ht : r.to ≤ 9223372036854775807) (hE : ErrT w) (hT : Tab w) (hP : Pow w) (hS : Sent w q) : Calls Tryz.prog 29 #[v, .int .i64 f, .int .i64 t, .int .i64 k] w fun e w' => ∃ o, e = .returned o ∧ MovRow w w' o (doubtL r f t k) ∧ Below w.heap.size w w' := by
 obtain ⟨i0, hi, hz0, hz1, hz2⟩ := info_parts info_int
 have hG := h
 obtain ⟨v1, v2, v3, rfl, _⟩ := h
 obtain ⟨W0, hW0, hD, hBl⟩ := box7 w (.string r.name) (.int .i64 r.fr) (.int .i64 r.to) v1 v2 v3 (.int .i64 r.rule) 38
 obtain ⟨d0, d1, d2, d3, d4, d5, d6⟩ := sevenL hD
 have HW0 := hideP hW0
 have HBl := hideP hBl
 have HB0 : Hid (Below w.heap.size w W0) := hBl ⟨W0, Below.refl _ _⟩
 have KO : ∀ x : Later W0, CR 59 #[.agg #[.string r.name, .int .i64 r.fr, .int .i64 r.to, v1, v2, v3, .int .i64 r.rule]] x.w (.bool (regimeB r)) := fun x => implRegimeOk _ r q x.w (hG.below (hBl x)) ht (hE.below (hBl x)) (hT.later (hBl x)) (hS.later (hBl x))
 have K1 : ∀ y : Later W0, CR 60 #[.int .i64 f] y.w (.bool (dayB f)) := fun y => (implOnLine f y.w).mono fun _ _ h => ⟨h.1, same_bel h.2⟩
 have K2 : ∀ y : Later W0, CR 60 #[.int .i64 t] y.w (.bool (dayB t)) := fun y => (implOnLine t y.w).mono fun _ _ h => ⟨h.1, same_bel h.2⟩
 have KM : ∀ (n : Int) (z : Later W0), CR 19 #[.agg #[.string r.name, .int .i64 r.fr, .int .i64 r.to, v1, v2, v3, .int .i64 r.rule], .int .i64 n, .int .i64 k] z.w (.int .i64 (marksP r n k)) := fun n z => implMarks _ r n k q z.w (hG.below (HBl.out z)) ht (hE.below (HBl.out z)) (hT.later (HBl.out z)) (pow_later hP (HBl.out z)) (hS.later (HBl.out z))
 have HFR : Hid (regimeB r = true → 400 ≤ r.fr ∧ r.to ≤ 1090000) := fun h => right_span h
 obtain ⟨P, hPe⟩ : ∃ P : Int → Bool, P = fun n => !decide (marksP r n k = 0) := ⟨_, rfl⟩
 have HN1 : Hid (regimeB r = false → doubtL r f t k = []) := fun q => doubt_no (fun h => by rw [q] at h; exact absurd h.1 (by simp))
 have HN2 : Hid (dayB f = false → doubtL r f t k = []) := fun q => doubt_no (fun h => by rw [q] at h; exact absurd h.2.1 (by simp))
 have HN3 : Hid (dayB t = false → doubtL r f t k = []) := fun q => doubt_no (fun h => by rw [q] at h; exact absurd h.2.2.1 (by simp))
 have HN4 : Hid (¬ (t - f < 400) → doubtL r f t k = []) := fun q => doubt_no (fun h => q h.2.2.2)
 have HY : Hid (regimeB r = true → dayB f = true → dayB t = true → t - f < 400 → doubtL r f t k = daysWhere (max f r.fr) (min t r.to) P) := fun h1 h2 h3 h4 => by rw [doubt_yes h1 h2 h3 h4, doubt_clip, hPe]
 have HD1 : Hid (dayB f = true → 400 ≤ f ∧ f ≤ 1090000) := dayB_nums
 have HD2 : Hid (dayB t = true → 400 ≤ t ∧ t ≤ 1090000) := dayB_nums
 have HPn : Hid (∀ n, P n = !decide (marksP r n k = 0)) := fun n => by rw [hPe]
 clear hW0 hD hBl hG ht hE hT hP hS hPe
 generalize doubtL r f t k = L at *
 generalize regimeB r = o1 at *
 generalize dayB f = o2 at *
 generalize dayB t = o3 at *
 have Bnil : Hid (∀ x : Later W0, ISt W0 (.slice none 0 0) [] x.w) := fun x => (ISt.nil W0).later x.below
 go_enter Tryz.func29, Tryz.ntmps29
 go_wp2_with fail
 rw [← HW0.out]
 refine latO (KO ⟨W0, Below.refl _ _⟩) fun x1 => ?_
 cases o1
 · obtain rfl : L = [] := HN1.out (by first | rfl | trivial)
   go_wp2
   go_ret
   exact ⟨_, rfl, (Bnil.out x1).done HB0.out⟩
 go_wp2_with fail
 refine lat (K1 x1) fun x2 => ?_
 cases o2
 · obtain rfl : L = [] := HN2.out (by first | rfl | trivial)
   go_wp2
   go_ret
   exact ⟨_, rfl, (Bnil.out x2).done HB0.out⟩
 go_wp2_with fail
 refine lat (K2 x2) fun x3 => ?_
 cases o3
 · obtain rfl : L = [] := HN3.out (by first | rfl | trivial)
   go_wp2
   go_ret
   exact ⟨_, rfl, (Bnil.out x3).done HB0.out⟩
 obtain ⟨n1, n2⟩ := HD1.out (by first | rfl | trivial)
 obtain ⟨n3, n4⟩ := HD2.out (by first | rfl | trivial)
 obtain ⟨n5, n6⟩ := HFR.out (by first | rfl | trivial)
 by_cases h4 : t - f < 400
 case neg =>
  obtain rfl : L = [] := HN4.out (by omega)
  have hd : decide (400 ≤ t - f) = true := decide_eq_true (by omega)
  clear HN1 HN2 HN3 HN4 HY HD1 HD2 HFR HPn KM KO K1 K2
  go_wp2
  go_ret
  exact ⟨_, rfl, (Bnil.out x3).done HB0.out⟩
 have hL : L = daysWhere (max f r.fr) (min t r.to) P := HY.out (by first | rfl | trivial) (by first | rfl | trivial) (by first | rfl | trivial) h4
 have hd : decide (400 ≤ t - f) = false := decide_eq_false (by omega)
 have S3 := hideP (Bnil.out x3)
 have hmx : 400 ≤ max f r.fr := by omega
 have hmn : min t r.to ≤ 1090000 := by omega
 have hmd : min t r.to - max f r.fr ≤ 400 := by omega
 have hmx2 : max f r.fr ≤ 1090000 ∨ min t r.to < max f r.fr := by omega
 clear HN1 HN2 HN3 HN4 HY HD1 HD2 HFR KO K1 K2 Bnil
 obtain ⟨A, hA⟩ : ∃ A, A = max f r.fr := ⟨_, rfl⟩
 rw [← hA] at hL hmx hmd hmx2
 have HL := hideP hL
 have HA := hideP hA
 clear hL hA
 have HRt : Hid (∀ x : Later W0, x.w.cell? ⟨w.heap.size, 2, none⟩ = some (.int .i64 r.to)) := d2
 have HC : Hid (∀ (zs : List Int) (n : Int), DSet zs (Upto A P n) → min t r.to < n → (n ≤ min t r.to + 1 ∨ n = A) → zs = daysWhere A (min t r.to) P) := fun zs n p q q2 => upto_close p q q2
 have HO : Hid (DSet [] (Upto A P A)) := upto_open _ _
 have HH : Hid (∀ (zs : List Int) (n : Int), A ≤ n → P n = true → DSet zs (Upto A P n) → DSet (zs ++ [n]) (Upto A P (n + 1))) := fun zs n p p2 q => upto_hit p p2 q
 have HM : Hid (∀ (zs : List Int) (n : Int), P n = false → DSet zs (Upto A P n) → DSet zs (Upto A P (n + 1))) := fun zs n p q => upto_miss p q
 have HNl : Hid (∀ (zs : List Int) (n : Int), DSet zs (Upto A P n) → n ≤ min t r.to → zs.length ≤ 1000) := fun zs n p q => by have := upto_len p; omega
 go_wp2_with fail
 rw [← HA.out]
 go_loopw [9, 10] (fun o i wr => ∃ (n : Int) (zs : List Int), i = .int .i64 n ∧ A ≤ n ∧ Hid (n ≤ min t r.to + 1 ∨ n = A) ∧ Hid (DSet zs (Upto A P n)) ∧ ISt W0 o zs wr) (fun _ i _ => (min t r.to - intOf i + 1).toNat)
 case atStart => exact ⟨A, [], rfl, Int.le_refl _, .inr rfl, HO.out, S3.out⟩
 case round =>
  obtain ⟨n, zs, rfl, hn1, hn2, hDZ, hSt⟩ := hrel
  have Z := hideP hSt
  obtain ⟨y, rfl⟩ : ∃ y : Later W0, wr = y.w := ⟨⟨wr, hSt.below⟩, rfl⟩
  clear hSt S3
  by_cases hle : n ≤ min t r.to
  case neg =>
   have HE : Hid (zs = daysWhere A (min t r.to) P) := HC.out zs n hDZ.out (by omega) hn2.out
   clear hDZ
   go_wp2
   go_ret
   rw [HL.out, ← HE.out]
   exact ⟨_, rfl, Z.out.done HB0.out⟩
  have hzl := HNl.out zs n hDZ.out hle
  have HX : Hid (P n = true → DSet (zs ++ [n]) (Upto A P (n + 1))) := fun q => HH.out zs n hn1 q hDZ.out
  have HY : Hid (P n = false → DSet zs (Upto A P (n + 1))) := fun q => HM.out zs n q hDZ.out
  have HP2 := hideP (HPn.out n)
  have K1 := KM n y
  clear KM hDZ hn2 HPn HC HO HH HM HNl
  generalize P n = pn at *
  generalize marksP r n k = mm at *
  by_cases hm : mm = 0
  · subst hm
    have HD := hideP (HY.out (by rw [HP2.out]; rfl))
    clear HX HY HP2
    go_wp2_with fail
    refine K1.mono ?_
    rintro e w2 ⟨rfl, hb⟩
    have Z1 := hideP (Z.out.later hb)
    clear hb K1 Z
    go_wp2
    exact ⟨⟨n + 1, zs, rfl, by omega, .inl (by omega), HD.out, Z1.out⟩, by simp [intOf]; omega⟩
  · have HD := hideP (HX.out (by rw [HP2.out, decide_eq_false hm]; rfl))
    have hm1 : (mm == 0) = false := by simp [hm]
    clear HX HY HP2 hm
    go_wp2_with fail
    refine K1.mono ?_
    rintro e w2 ⟨rfl, hb⟩
    have Z1 := hideP (Z.out.later hb)
    clear hb K1 Z
    go_wp2_with (at_builtin; refine wpList_append_own _ rfl _ _ 57 rfl W0.heap.size 3 i0 (.int .i64 0) 1 8 Tryz.underlying57 hi hz0 hz1 hz2 rfl (by decide) _ _ _ rfl (Z1.out.row.alloc _) ⟨w2.heap.size, 0, none⟩ 1 1 [.int .i64 n] rfl rfl (cell_one_new _ _ _) (by simp [Value.oneCell']) (by unfold maxLen; omega) (by omega) (by have := Z1.out.below.size; rw [inew]; omega) ?_; intro v' w9 hown' hgrow _)
    exact ⟨⟨n + 1, zs ++ [n], rfl, by omega, .inl (by omega), HD.out, Z1.out.app n hown' hgrow⟩, by simp [intOf]; omega⟩
end Go.Proofs.YtdmlhiailjnhcaaGreatDoor.ctr
namespace Go.Proofs.YtdmlhiailjnhcaaGreatDoor.ctr
open Go.RowKit
set_option linter.unusedSimpArgs false
set_option maxRecDepth 100000 in
set_option maxHeartbeats 16000000 in
theorem specMarks (v : Value) (r : Rgm) (n k : Int) (w : World) (h : GRow w v r) (hf : -9223372036854775808 ≤ r.fr) (ht : r.to ≤ 9223372036854775807) : CR 18 #[v, .int .i64 n, .int .i64 k] w (.int .i64 (marksP r n k)) := by
 have hG := h
 obtain ⟨v1, v2, v3, rfl, _⟩ := h
 obtain ⟨W0, hW0, hD, hBl⟩ := box7 w (.string r.name) (.int .i64 r.fr) (.int .i64 r.to) v1 v2 v3 (.int .i64 r.rule) 38
 obtain ⟨d0, d1, d2, d3, d4, d5, d6⟩ := sevenL hD
 have HW0 := hideP hW0
 have HBl := hideP hBl
 have KM : ∀ (j : Nat), j < 4 → ∀ (z : Later W0), CR 15 #[.agg #[.string r.name, .int .i64 r.fr, .int .i64 r.to, v1, v2, v3, .int .i64 r.rule], .int .i64 n, .int .i64 k, .int .i64 (j : Int)] z.w (.tuple #[sayV (mkdS r n k (j : Int)), .bool (tellK r n k)]) := fun j hj z => by
  have q := specMarked _ r n k (j : Int) z.w (hG.below (HBl.out z)) hf ht
  rw [show mkdB r n k (j : Int) = tellK r n k by unfold mkdB; rw [decide_eq_true (by omega), decide_eq_true (by omega)]; exact Bool.and_true _] at q
  exact q
 have KD : ∀ (m : Int) (z : Later W0), Calls Tryz.prog 48 #[.agg #[.string r.name, .int .i64 r.fr, .int .i64 r.to, v1, v2, v3, .int .i64 r.rule], sayV (mkdS r n k m)] z.w fun e w' => ∃ o, e = .returned o ∧ MovRow z.w w' o (daysSaid r (mkdS r n k m)) ∧ Below z.w.heap.size z.w w' := fun m z => specDaysSaid _ r (mkdS r n k m) z.w (hG.below (HBl.out z)) hf ht
 obtain ⟨A, hA⟩ : ∃ A, A = marksP r n k := ⟨_, rfl⟩
 have HNo : Hid (tellK r n k = false → A = -1) := fun h => hA.trans (marks_no h)
 have HM : Hid (tellK r n k = true → ∀ j : Nat, j < 4 → (∀ i, i < j → decide (daysSaid r (mkdS r n k (i : Int)) = [n]) = false) → decide (daysSaid r (mkdS r n k (j : Int)) = [n]) = true → A = (j : Int)) := fun hk j hj hf ht => hA.trans (marks_hit hk hj hf ht)
 have HN : Hid ((∀ i : Nat, i < 4 → decide (daysSaid r (mkdS r n k (i : Int)) = [n]) = false) → A = -1) := fun hf => hA.trans (marks_none hf)
 rw [← hA]
 clear hA hW0 hD hBl hG hf ht
 obtain ⟨DS, hDS⟩ : ∃ DS : Int → List Int, DS = fun m => daysSaid r (mkdS r n k m) := ⟨_, rfl⟩
 have e0 : ∀ m, daysSaid r (mkdS r n k m) = DS m := fun m => by rw [hDS]
 simp only [e0] at KD HM HN
 clear e0 hDS
 generalize tellK r n k = tk at *
 generalize mkdS r n k = S at *
 go_enter Tryz.func18, Tryz.ntmps18
 go_wp2_with fail
 rw [← HW0.out]
 go_loopw [7] (fun i wr => ∃ j : Nat, j ≤ 4 ∧ i = .int .i64 (j : Int) ∧ Hid (∀ i : Nat, i < j → decide (DS (i : Int) = [n]) = false) ∧ ∃ x : Later W0, wr = x.w) (fun i _ => (4 - intOf i).toNat)
 case atStart => exact ⟨0, by omega, rfl, fun i h => absurd h (Nat.not_lt_zero _), ⟨W0, Below.refl _ _⟩, rfl⟩
 case round =>
  obtain ⟨j, hj, rfl, HF, x0, rfl⟩ := hrel
  by_cases h3 : (j : Int) ≤ 3
  case neg =>
   obtain rfl : A = -1 := HN.out (fun i hi => HF.out i (by omega))
   clear HM HNo KM KD
   go_wp2
   go_ret
   exact ⟨rfl, HBl.out x0⟩
  have hj4 : j < 4 := by omega
  have KMj := KM j hj4
  have KDj := KD (j : Int)
  have HMj : Hid (tk = true → decide (DS (j : Int) = [n]) = true → A = (j : Int)) := fun hk ht => HM.out hk j hj4 HF.out ht
  have HFj : Hid (decide (DS (j : Int) = [n]) = false → ∀ i : Nat, i < j + 1 → decide (DS (i : Int) = [n]) = false) := fun h i hi => by
   by_cases e : i = j
   · rw [e]; exact h
   · exact HF.out i (by omega)
  clear KM KD HM
  generalize S (j : Int) = s at *
  generalize DS (j : Int) = xs at *
  obtain ⟨⟨sk, sm, sd, ⟨sa, sb, sc, st⟩, sf, sp⟩, sy, so, sca⟩ := s
  go_wp2_with fail
  refine lat (KMj x0) fun x1 => ?_
  obtain ⟨x2, hx2, Z2⟩ := x1.fresh #[.int .i64 sk, .int .i64 sm, .int .i64 sd, .int .i64 sa, .int .i64 sb, .int .i64 sc, .bool st, .string sf, .int .i64 sp, .int .i64 sy, .int .i64 so, .int .i64 sca] 44
  have HX2 := hideP hx2
  clear hx2
  go_upto_region 5 with fail
  rw [HX2.out]
  clear HX2 KMj
  cases tk
  · obtain rfl : A = -1 := HNo.out rfl
    go_wp2
    go_ret
    exact ⟨rfl, HBl.out x2⟩
  obtain ⟨y0, y1, y2, y3, y4, y5, y6, y7, y8, y9, y10, y11⟩ := Z2.out.cells12
  go_wp2_with fail
  refine (KDj x2).mono ?_
  rintro e w3 ⟨o, rfl, hm, hb⟩
  obtain ⟨x3, rfl⟩ := x2.next hb
  have hI := hm.row
  obtain ⟨ad, cap, rfl, hc⟩ := hI
  clear hb hm y0 y1 y2 y3 y4 y5 y6 y7 y8 y9 y10 y11 Z2 KDj
  by_cases hl : xs.length = 1
  case neg =>
   have hl1 : ((xs.length : Int) == 1) = false := by simp; omega
   have HF2 := hideP (HFj.out (decide_eq_false (fun h => hl (by rw [h]; rfl))))
   clear HFj HMj HNo HN hl hc
   go_wp2
   exact ⟨⟨j + 1, by omega, by go_num, HF2.out, x3, rfl⟩, by simp [intOf]; omega⟩
  obtain ⟨a, rfl⟩ : ∃ a, xs = [a] := by
   match xs, hl with
   | [a], _ => exact ⟨a, rfl⟩
  obtain ⟨g, rfl, _, hc0⟩ := hc 0 (by simp)
  have hcell : x3.w.cell? ⟨g, 0, none⟩ = some (.int .i64 a) := hc0
  clear hc hc0 hl
  by_cases han : a = n
  · subst han
    have e := HMj.out (by first | rfl | trivial) (by simp)
    clear HFj HMj HNo HN
    go_wp2
    go_ret
    exact ⟨by rw [e]; rfl, HBl.out x3⟩
  · have HF2 := hideP (HFj.out (decide_eq_false (fun h => han (by simpa using h))))
    have hb1 : (a == n) = false := by simp [han]
    clear HFj HMj HNo HN han
    go_wp2
    exact ⟨⟨j + 1, by omega, by go_num, HF2.out, x3, rfl⟩, by simp [intOf]; omega⟩
end Go.Proofs.YtdmlhiailjnhcaaGreatDoor.ctr
namespace Go.Proofs.YtdmlhiailjnhcaaGreatDoor.ctr
open Go.RowKit
set_option linter.unusedSimpArgs false
set_option maxRecDepth 100000 in
set_option maxHeartbeats 16000000 in
theorem specDoubtful (v : Value) (r : Rgm) (f t k : Int) (w : World) (h : GRow w v r) (hf : -9223372036854775808 ≤ r.fr) (ht : r.to ≤ 9223372036854775807) : Calls Tryz.prog 28 #[v, .int .i64 f, .int .i64 t, .int .i64 k] w fun e w' => ∃ o, e = .returned o ∧ MovRow w w' o (doubtL r f t k) ∧ Below w.heap.size w w' := by
 obtain ⟨i0, hi, hz0, hz1, hz2⟩ := info_parts info_int
 have hG := h
 obtain ⟨v1, v2, v3, rfl, _⟩ := h
 obtain ⟨W0, hW0, hD, hBl⟩ := box7 w (.string r.name) (.int .i64 r.fr) (.int .i64 r.to) v1 v2 v3 (.int .i64 r.rule) 38
 obtain ⟨d0, d1, d2, d3, d4, d5, d6⟩ := sevenL hD
 have HW0 := hideP hW0
 have HBl := hideP hBl
 have HB0 : Hid (Below w.heap.size w W0) := hBl ⟨W0, Below.refl _ _⟩
 have S0 : Hid (ISt W0 (.slice (some ⟨W0.heap.size, 0, none⟩) 0 0) [] (W0.alloc (.cells #[] 3))) := ⟨iown_empty W0 _, (Below.refl _ _).alloc (Nat.le_refl _) _⟩
 obtain ⟨xE, hxE⟩ : ∃ xE : Later W0, W0.alloc (.cells #[] 3) = xE.w := ⟨⟨_, S0.out.below⟩, rfl⟩
 have HxE := hideP hxE
 rw [hxE] at S0
 clear hxE
 have HSz : Hid (w.heap.size + 1 = W0.heap.size) := by unfold Hid; rw [HW0.out, World.size_alloc]
 have KO : ∀ x : Later W0, CR 57 #[.agg #[.string r.name, .int .i64 r.fr, .int .i64 r.to, v1, v2, v3, .int .i64 r.rule]] x.w (.bool (regimeB r)) := fun x => specRegimeOk _ r x.w (hG.below (hBl x)) hf ht
 have K1 : ∀ y : Later W0, CR 58 #[.int .i64 f] y.w (.bool (dayB f)) := fun y => (specDay9 f y.w).mono fun _ _ h => ⟨h.1, same_bel h.2⟩
 have K2 : ∀ y : Later W0, CR 58 #[.int .i64 t] y.w (.bool (dayB t)) := fun y => (specDay9 t y.w).mono fun _ _ h => ⟨h.1, same_bel h.2⟩
 have KM : ∀ (n : Int) (z : Later W0), CR 18 #[.agg #[.string r.name, .int .i64 r.fr, .int .i64 r.to, v1, v2, v3, .int .i64 r.rule], .int .i64 n, .int .i64 k] z.w (.int .i64 (marksP r n k)) := fun n z => specMarks _ r n k z.w (hG.below (HBl.out z)) hf ht
 have KX : Hid (regimeB r = true → ∀ (n : Int) (z : Later W0), CR 46 #[.agg #[.string r.name, .int .i64 r.fr, .int .i64 r.to, v1, v2, v3, .int .i64 r.rule], .int .i64 n] z.w (.tuple #[rdgV (rdgX r n), .bool (decide (r.fr ≤ n ∧ n ≤ r.to))])) := fun hr n z => specReadX _ r n z.w (hG.below (HBl.out z)) hr
 obtain ⟨P, hPe⟩ : ∃ P : Int → Bool, P = doubtB r k := ⟨_, rfl⟩
 have HN1 : Hid (regimeB r = false → doubtL r f t k = []) := fun q => doubt_no (fun h => by rw [q] at h; exact absurd h.1 (by simp))
 have HN2 : Hid (dayB f = false → doubtL r f t k = []) := fun q => doubt_no (fun h => by rw [q] at h; exact absurd h.2.1 (by simp))
 have HN3 : Hid (dayB t = false → doubtL r f t k = []) := fun q => doubt_no (fun h => by rw [q] at h; exact absurd h.2.2.1 (by simp))
 have HN4 : Hid (¬ (t - f < 400) → doubtL r f t k = []) := fun q => doubt_no (fun h => q h.2.2.2)
 have HY : Hid (regimeB r = true → dayB f = true → dayB t = true → t - f < 400 → doubtL r f t k = daysWhere f t P) := fun h1 h2 h3 h4 => by rw [doubt_yes h1 h2 h3 h4, hPe]
 have HD1 : Hid (dayB f = true → 400 ≤ f ∧ f ≤ 1090000) := dayB_nums
 have HD2 : Hid (dayB t = true → 400 ≤ t ∧ t ≤ 1090000) := dayB_nums
 have HPn : Hid (∀ n, P n = (decide (r.fr ≤ n ∧ n ≤ r.to) && !decide (marksP r n k = 0))) := fun n => by rw [hPe]; rfl
 clear hW0 hD hBl hG ht hf hPe
 generalize doubtL r f t k = L at *
 generalize regimeB r = o1 at *
 generalize dayB f = o2 at *
 generalize dayB t = o3 at *
 have Bnil : Hid (∀ x : Later xE.w, ISt W0 (.slice (some ⟨W0.heap.size, 0, none⟩) 0 0) [] x.w) := fun x => S0.out.later x.below
 go_enter Tryz.func28, Tryz.ntmps28
 go_upto_region 2 with fail
 rw [← HW0.out, HxE.out]
 rw [HSz.out]
 go_wp2_with fail
 refine (KO xE).mono ?_
 rintro e w1 ⟨rfl, hb⟩
 have S1 := hideP (S0.out.later hb)
 obtain ⟨x1, rfl⟩ := xE.next hb
 clear hb
 cases o1
 · obtain rfl : L = [] := HN1.out (by first | rfl | trivial)
   go_wp2
   go_ret
   exact ⟨_, rfl, S1.out.done HB0.out⟩
 go_wp2_with fail
 refine (K1 x1).mono ?_
 rintro e w2 ⟨rfl, hb⟩
 have S2 := hideP (S1.out.later hb)
 obtain ⟨x2, rfl⟩ := x1.next hb
 clear hb
 cases o2
 · obtain rfl : L = [] := HN2.out (by first | rfl | trivial)
   go_wp2
   go_ret
   exact ⟨_, rfl, S2.out.done HB0.out⟩
 go_wp2_with fail
 refine (K2 x2).mono ?_
 rintro e w3 ⟨rfl, hb⟩
 have S3 := hideP (S2.out.later hb)
 obtain ⟨x3, rfl⟩ := x2.next hb
 clear hb
 cases o3
 · obtain rfl : L = [] := HN3.out (by first | rfl | trivial)
   go_wp2
   go_ret
   exact ⟨_, rfl, S3.out.done HB0.out⟩
 obtain ⟨n1, n2⟩ := HD1.out (by first | rfl | trivial)
 obtain ⟨n3, n4⟩ := HD2.out (by first | rfl | trivial)
 have KX := KX.out (by first | rfl | trivial)
 by_cases h4 : t - f < 400
 case neg =>
  obtain rfl : L = [] := HN4.out (by omega)
  have hd : decide (400 ≤ t - f) = true := decide_eq_true (by omega)
  clear HN1 HN2 HN3 HN4 HY HD1 HD2 HPn KM KO K1 K2 KX
  go_wp2
  go_ret
  exact ⟨_, rfl, S3.out.done HB0.out⟩
 have hL : L = daysWhere f t P := HY.out (by first | rfl | trivial) (by first | rfl | trivial) (by first | rfl | trivial) h4
 have hd : decide (400 ≤ t - f) = false := decide_eq_false (by omega)
 have HL := hideP hL
 clear HN1 HN2 HN3 HN4 HY HD1 HD2 KO K1 K2 Bnil hL S0 S1 S2
 have HC : Hid (∀ (zs : List Int) (n : Int), DSet zs (Upto f P n) → t < n → (n ≤ t + 1 ∨ n = f) → zs = daysWhere f t P) := fun zs n p q q2 => upto_close p q q2
 have HO : Hid (DSet [] (Upto f P f)) := upto_open _ _
 have HH : Hid (∀ (zs : List Int) (n : Int), f ≤ n → P n = true → DSet zs (Upto f P n) → DSet (zs ++ [n]) (Upto f P (n + 1))) := fun zs n p p2 q => upto_hit p p2 q
 have HM : Hid (∀ (zs : List Int) (n : Int), P n = false → DSet zs (Upto f P n) → DSet zs (Upto f P (n + 1))) := fun zs n p q => upto_miss p q
 have HNl : Hid (∀ (zs : List Int) (n : Int), DSet zs (Upto f P n) → n ≤ t → zs.length ≤ 1000) := fun zs n p q => by have := upto_len p; omega
 go_wp2_with fail
 go_loopw [9, 10] (fun o i wr => ∃ (n : Int) (zs : List Int), i = .int .i64 n ∧ f ≤ n ∧ Hid (n ≤ t + 1 ∨ n = f) ∧ Hid (DSet zs (Upto f P n)) ∧ ISt W0 o zs wr) (fun _ i _ => (t - intOf i + 1).toNat)
 case atStart => exact ⟨f, [], rfl, Int.le_refl _, .inr rfl, HO.out, S3.out⟩
 case round =>
  obtain ⟨n, zs, rfl, hn1, hn2, hDZ, hSt⟩ := hrel
  have Z := hideP hSt
  obtain ⟨y, rfl⟩ : ∃ y : Later W0, wr = y.w := ⟨⟨wr, hSt.below⟩, rfl⟩
  clear hSt S3
  by_cases hle : n ≤ t
  case neg =>
   have HE : Hid (zs = daysWhere f t P) := HC.out zs n hDZ.out (by omega) hn2.out
   clear hDZ
   go_wp2
   go_ret
   rw [HL.out, ← HE.out]
   exact ⟨_, rfl, Z.out.done HB0.out⟩
  have hzl := HNl.out zs n hDZ.out hle
  have HX : Hid (P n = true → DSet (zs ++ [n]) (Upto f P (n + 1))) := fun q => HH.out zs n hn1 q hDZ.out
  have HY : Hid (P n = false → DSet zs (Upto f P (n + 1))) := fun q => HM.out zs n q hDZ.out
  have HP2 := hideP (HPn.out n)
  have K1 := KX n y
  have K2 := KM n
  clear KM KX hDZ hn2 HPn HC HO HH HM HNl
  generalize P n = pn at *
  generalize marksP r n k = mm at *
  generalize decide (r.fr ≤ n ∧ n ≤ r.to) = ok at *
  generalize rdgX r n = x at *
  obtain ⟨xc, xy, xs, xm, xd⟩ := x
  go_wp2_with fail
  refine K1.mono ?_
  rintro e w2 ⟨rfl, hb⟩
  obtain ⟨y0, rfl⟩ := y.next hb
  have Z0 := hideP (Z.out.later hb)
  clear hb K1 Z
  go_upto_region 8 with fail
  obtain ⟨y1, hy1, _⟩ := y0.fresh #[.int .i64 xc, .int .i64 xy, .int .i64 xs, .int .i64 xm, .int .i64 xd] 69
  have qz := Z0.out.later ((Below.refl _ _).alloc (Nat.le_refl _) (.cells #[.int .i64 xc, .int .i64 xy, .int .i64 xs, .int .i64 xm, .int .i64 xd] 69))
  rw [hy1] at qz
  have Z1 := hideP qz
  rw [hy1]
  clear hy1 Z0 qz
  cases ok
  · have HD := hideP (HY.out (by rw [HP2.out]; rfl))
    clear HX HY HP2 K2
    go_wp2
    exact ⟨⟨n + 1, zs, rfl, by omega, .inl (by omega), HD.out, Z1.out⟩, by simp [intOf]; omega⟩
  go_wp2_with fail
  refine (K2 y1).mono ?_
  rintro e w3 ⟨rfl, hb⟩
  obtain ⟨y3, rfl⟩ := y1.next hb
  have Z3 := hideP (Z1.out.later hb)
  clear hb K2 Z1
  by_cases hm : mm = 0
  · subst hm
    have HD := hideP (HY.out (by rw [HP2.out]; rfl))
    clear HX HY HP2
    go_wp2
    exact ⟨⟨n + 1, zs, rfl, by omega, .inl (by omega), HD.out, Z3.out⟩, by simp [intOf]; omega⟩
  · have HD := hideP (HX.out (by rw [HP2.out, decide_eq_false hm]; rfl))
    have hm1 : (mm == 0) = false := by simp [hm]
    clear HX HY HP2 hm
    go_wp2_with (at_builtin; refine wpList_append_own _ rfl _ _ 57 rfl W0.heap.size 3 i0 (.int .i64 0) 1 8 Tryz.underlying57 hi hz0 hz1 hz2 rfl (by decide) _ _ _ rfl (Z3.out.row.alloc _) ⟨y3.w.heap.size, 0, none⟩ 1 1 [.int .i64 n] rfl rfl (cell_one_new _ _ _) (by simp [Value.oneCell']) (by unfold maxLen; omega) (by omega) (by have := Z3.out.below.size; rw [inew]; omega) ?_; intro v' w9 hown' hgrow _)
    exact ⟨⟨n + 1, zs ++ [n], rfl, by omega, .inl (by omega), HD.out, Z3.out.app n hown' hgrow⟩, by simp [intOf]; omega⟩
end Go.Proofs.YtdmlhiailjnhcaaGreatDoor.ctr
