/- Marks, plain: the first of four whose days are the one day; and what slices.Equal tells of a list held against; and what else the law reaches. -/
import Derived.Test.YtdmlhiailjnhcaaGreatDoorMkdAX
import Derived.Test.YtdmlhiailjnhcaaGreatDoorJnXbj
import Derived.Test.YtdmlhiailjnhcaaGreatDoorJnXag
import Derived.Test.YtdmlhiailjnhcaaGreatDoorShelfX
import Derived.Test.YtdmlhiailjnhcaaGreatDoorJnXbn
import Derived.Test.YtdmlhiailjnhcaaGreatDoorJnXaa
import Derived.Laws.EntriesVeiled
namespace Go.Proofs.YtdmlhiailjnhcaaGreatDoor.ctr
open Go.RowKit
noncomputable def aloneB (r : Rgm) (n k m : Int) : Bool := decide (daysSaid r (mkdS r n k m) = [n])
noncomputable def marksP (r : Rgm) (n k : Int) : Int := if tellK r n k = true then (if aloneB r n k 0 = true then 0 else if aloneB r n k 1 = true then 1 else if aloneB r n k 2 = true then 2 else if aloneB r n k 3 = true then 3 else -1) else -1
theorem marks_no {r : Rgm} {n k : Int} (h : tellK r n k = false) : marksP r n k = -1 := by unfold marksP; rw [if_neg (by rw [h]; simp)]
theorem marks_hit {r : Rgm} {n k : Int} (h : tellK r n k = true) {j : Nat} (hj : j < 4) (hf : ∀ i, i < j → aloneB r n k (i : Int) = false) (ht : aloneB r n k (j : Int) = true) : marksP r n k = (j : Int) := by
 unfold marksP
 rw [if_pos h]
 have : j = 0 ∨ j = 1 ∨ j = 2 ∨ j = 3 := by omega
 rcases this with rfl | rfl | rfl | rfl
 · have f : aloneB r n k 0 = true := ht
   rw [if_pos f]; rfl
 · have f : aloneB r n k 1 = true := ht
   have f0 : aloneB r n k 0 = false := hf 0 (by omega)
   rw [f0, if_neg (by simp), if_pos f]; rfl
 · have f : aloneB r n k 2 = true := ht
   have f0 : aloneB r n k 0 = false := hf 0 (by omega)
   have f1 : aloneB r n k 1 = false := hf 1 (by omega)
   rw [f0, f1, if_neg (by simp), if_neg (by simp), if_pos f]; rfl
 · have f : aloneB r n k 3 = true := ht
   have f0 : aloneB r n k 0 = false := hf 0 (by omega)
   have f1 : aloneB r n k 1 = false := hf 1 (by omega)
   have f2 : aloneB r n k 2 = false := hf 2 (by omega)
   rw [f0, f1, f2, if_neg (by simp), if_neg (by simp), if_neg (by simp), if_pos f]; rfl
theorem marks_none {r : Rgm} {n k : Int} (hf : ∀ i, i < 4 → aloneB r n k ((i : Nat) : Int) = false) : marksP r n k = -1 := by
 have f0 : aloneB r n k 0 = false := hf 0 (by omega)
 have f1 : aloneB r n k 1 = false := hf 1 (by omega)
 have f2 : aloneB r n k 2 = false := hf 2 (by omega)
 have f3 : aloneB r n k 3 = false := hf 3 (by omega)
 unfold marksP
 rw [f0, f1, f2, f3]
 simp
theorem implEqOne (v u : Value) (xs : List Int) (n : Int) (w : World) (hx : IntRow w v xs) (hu : IntRow w u [n]) (b : Bool) (hb : decide (xs = [n]) = b) : CR 49 #[v, u] w (.bool b) := by
 subst hb
 obtain ⟨a1, c1, rfl, hx⟩ := hx
 obtain ⟨a2, c2, rfl, hu⟩ := hu
 by_cases hl : xs.length = 1
 · obtain ⟨a, rfl⟩ : ∃ a, xs = [a] := by
    match xs, hl with
    | [a], _ => exact ⟨a, rfl⟩
   obtain ⟨g, rfl, _, hc⟩ := hx 0 (by simp)
   obtain ⟨g2, rfl, _, hc2⟩ := hu 0 (by simp)
   refine (Tryz.slices_Equal_int g 0 1 c1 g2 0 1 c2 [a] [n] w (by simp) (by simp) (by decide) (by decide) (fun j hj => ?_) (fun j hj => ?_)).mono ?_
   · have : j = 0 := by simp at hj; omega
     subst this
     exact hc
   · have : j = 0 := by simp at hj; omega
     subst this
     exact hc2
   · rintro e w' ⟨rfl, q, rfl⟩
     refine ⟨?_, Below_drewN (Below.refl _ _) q⟩
     by_cases e : a = n
     · subst e; simp
     · simp [e]
 · refine (Tryz.slices_Equal_int_lens a1 a2 xs.length c1 1 c2 w (by omega)).mono ?_
   rintro e w' ⟨rfl, rfl⟩
   refine ⟨?_, Below.refl _ _⟩
   rw [decide_eq_false]
   intro h
   exact hl (by rw [h]; rfl)
set_option linter.unusedSimpArgs false
set_option maxRecDepth 100000 in
set_option maxHeartbeats 16000000 in
theorem implMarks (v : Value) (r : Rgm) (n k : Int) (q : Addr) (w : World) (h : GRow w v r) (ht : r.to ≤ 9223372036854775807) (hE : ErrT w) (hT : Tab w) (hP : Pow w) (hS : Sent w q) : CR 19 #[v, .int .i64 n, .int .i64 k] w (.int .i64 (marksP r n k)) := by
 have hG := h
 obtain ⟨v1, v2, v3, rfl, _⟩ := h
 obtain ⟨W0, hW0, hD, hBl⟩ := box7 w (.string r.name) (.int .i64 r.fr) (.int .i64 r.to) v1 v2 v3 (.int .i64 r.rule) 38
 obtain ⟨d0, d1, d2, d3, d4, d5, d6⟩ := sevenL hD
 have HW0 := hideP hW0
 have HBl := hideP hBl
 have KR : ∀ z : Later W0, CR 40 #[.agg #[.string r.name, .int .i64 r.fr, .int .i64 r.to, v1, v2, v3, .int .i64 r.rule], .int .i64 n, .int .i64 k] z.w (.tuple #[toldV (tellW r n k) (tellX r n k), .bool (tellK r n k)]) := fun z => implTellDay _ r n k q z.w (hG.below (HBl.out z)) ht (hE.below (HBl.out z)) (hT.later (HBl.out z)) (pow_later hP (HBl.out z)) (hS.later (HBl.out z))
 obtain ⟨A, hA⟩ : ∃ A, A = marksP r n k := ⟨_, rfl⟩
 rw [← hA]
 cases hk : tellK r n k
 · obtain rfl : A = -1 := hA.trans (marks_no hk)
   rw [hk] at KR
   clear hA hW0 hD hBl hG hE hT hP hS ht hk
   generalize tellW r n k = R at *
   generalize tellX r n k = X at *
   obtain ⟨rk, rm, rd, ⟨ra, rb, rc, rt⟩, rf, rp⟩ := R
   obtain ⟨xc, xy, xs, xm, xd⟩ := X
   go_enter Tryz.func19, Tryz.ntmps19
   go_wp2_with fail
   rw [← HW0.out]
   refine latO (KR ⟨W0, Below.refl _ _⟩) fun x1 => ?_
   obtain ⟨x2, hx2, Z2⟩ := x1.fresh #[.int .i64 rk, .int .i64 rm, .int .i64 rd, .int .i64 ra, .int .i64 rb, .int .i64 rc, .bool rt, .string rf, .int .i64 rp, .int .i64 xc, .int .i64 xy, .int .i64 xs, .int .i64 xm, .int .i64 xd] 71
   have HX2 := hideP hx2
   clear hx2
   go_upto_region 2 with fail
   rw [HX2.out]
   clear HX2
   go_wp2
   go_ret
   exact ⟨rfl, HBl.out x2⟩
 have HS : Hid (∀ j : Nat, j < 4 → aloneB r n k (j : Int) = decide (daysSaid r (mkdS r n k (j : Int)) = [n])) := fun j _ => rfl
 have KD0 : ∀ (m : Int) (s : Say), s = mkdS r n k m → ∀ z : Later W0, Calls Tryz.prog 50 #[.agg #[.string r.name, .int .i64 r.fr, .int .i64 r.to, v1, v2, v3, .int .i64 r.rule], sayV s] z.w fun e w' => ∃ o, e = .returned o ∧ MovRow z.w w' o (daysSaid r (mkdS r n k m)) ∧ Below z.w.heap.size z.w w' := fun m s e z => by
  rw [← e]
  exact implDaysSaid _ r s q z.w (hG.below (HBl.out z)) ht (hE.below (HBl.out z)) (hT.later (HBl.out z)) (hS.later (HBl.out z))
 have hm : ∀ m : Int, 0 ≤ m → m ≤ 3 → mkdS r n k m = ⟨tellW r n k, (tellX r n k).year, mkdSo (tellX r n k) m, mkdCa (tellX r n k) m⟩ := fun m h0 h3 => by
  unfold mkdS
  rw [if_pos]
  unfold mkdB
  rw [hk, decide_eq_true h0, decide_eq_true h3]
  rfl
 have D0 := KD0 0 ⟨tellW r n k, (tellX r n k).year, -1, -1⟩ (by rw [hm 0 (by omega) (by omega)]; rfl)
 have D1 := KD0 1 ⟨tellW r n k, (tellX r n k).year, -1, (tellX r n k).cal⟩ (by rw [hm 1 (by omega) (by omega)]; rfl)
 have D2 := KD0 2 ⟨tellW r n k, (tellX r n k).year, (tellX r n k).sol, -1⟩ (by rw [hm 2 (by omega) (by omega)]; rfl)
 have D3 := KD0 3 ⟨tellW r n k, (tellX r n k).year, (tellX r n k).sol, (tellX r n k).cal⟩ (by rw [hm 3 (by omega) (by omega)]; rfl)
 have HM : Hid (∀ j : Nat, j < 4 → (∀ i, i < j → decide (daysSaid r (mkdS r n k (i : Int)) = [n]) = false) → decide (daysSaid r (mkdS r n k (j : Int)) = [n]) = true → A = (j : Int)) := fun j hj hf ht => hA.trans (marks_hit hk hj hf ht)
 have HN : Hid ((∀ i : Nat, i < 4 → decide (daysSaid r (mkdS r n k (i : Int)) = [n]) = false) → A = -1) := fun hf => hA.trans (marks_none hf)
 rw [hk] at KR
 clear hA hW0 hD hBl hG hE hT hP hS ht hk KD0 hm HS
 generalize tellW r n k = R at *
 generalize tellX r n k = X at *
 obtain ⟨DS, hDS⟩ : ∃ DS : Int → List Int, DS = fun m => daysSaid r (mkdS r n k m) := ⟨_, rfl⟩
 have e0 : ∀ m, daysSaid r (mkdS r n k m) = DS m := fun m => by rw [hDS]
 simp only [e0] at D0 D1 D2 D3 HM HN
 clear e0 hDS
 obtain ⟨rk, rm, rd, ⟨ra, rb, rc, rt⟩, rf, rp⟩ := R
 obtain ⟨xc, xy, xs, xm, xd⟩ := X
 go_enter Tryz.func19, Tryz.ntmps19
 go_wp2_with fail
 rw [← HW0.out]
 refine latO (KR ⟨W0, Below.refl _ _⟩) fun x1 => ?_
 obtain ⟨x2, hx2, Z2⟩ := x1.fresh #[.int .i64 rk, .int .i64 rm, .int .i64 rd, .int .i64 ra, .int .i64 rb, .int .i64 rc, .bool rt, .string rf, .int .i64 rp, .int .i64 xc, .int .i64 xy, .int .i64 xs, .int .i64 xm, .int .i64 xd] 71
 have HX2 := hideP hx2
 clear hx2
 go_upto_region 2 with fail
 rw [HX2.out]
 clear HX2
 obtain ⟨x3, hx3, I3⟩ := x2.fresh #[.int .i64 n] 3
 have Z3 : Hid (Blk x3.w x1.w.heap.size #[.int .i64 rk, .int .i64 rm, .int .i64 rd, .int .i64 ra, .int .i64 rb, .int .i64 rc, .bool rt, .string rf, .int .i64 rp, .int .i64 xc, .int .i64 xy, .int .i64 xs, .int .i64 xm, .int .i64 xd] 71) := by unfold Hid; rw [← hx3]; exact Z2.out.alloc _
 have HX3 := hideP hx3
 clear hx3
 go_upto_region 5 with fail
 rw [HX3.out]
 clear HX3 Z2
 obtain ⟨y0, y1, y2, y3, y4, y5, y6, y7, y8, y9, y10, y11, y12, y13⟩ := Z3.out.cells14
 go_wp2_with fail
 obtain ⟨TV, hTV⟩ : ∃ TV : Value, TV = .agg #[.int .i64 rk, .int .i64 rm, .int .i64 rd, .int .i64 ra, .int .i64 rb, .int .i64 rc, .bool rt, .string rf, .int .i64 rp, .int .i64 xc, .int .i64 xy, .int .i64 xs, .int .i64 xm, .int .i64 xd] := ⟨_, rfl⟩
 obtain ⟨AR, hAR⟩ : ∃ AR : Array Value, AR = #[.func (.func 80) #[TV] #[], .func (.func 81) #[TV] #[], .func (.func 82) #[TV] #[], .func (.func 83) #[TV] #[]] := ⟨_, rfl⟩
 have KSay : ∀ W, CR 47 #[.agg #[.int .i64 rk, .int .i64 rm, .int .i64 rd, .int .i64 ra, .int .i64 rb, .int .i64 rc, .bool rt, .string rf, .int .i64 rp, .int .i64 xc, .int .i64 xy, .int .i64 xs, .int .i64 xm, .int .i64 xd]] W (.agg AR) := fun W => by rw [hAR, hTV]; exact implSayings rk rm rd ra rb rc rp xc xy xs xm xd rt rf W
 have IX0 : ∀ W, (Instr.index 82 (.agg AR) (.int .i64 0)).run Tryz.prog W = .ok (.func (.func 80) #[TV] #[]) W := fun W => by rw [hAR]; rfl
 have KT0 : ∀ W, CR 80 #[TV] W (.agg #[.int .i64 rk, .int .i64 rm, .int .i64 rd, .int .i64 ra, .int .i64 rb, .int .i64 rc, .bool rt, .string rf, .int .i64 rp, .int .i64 xy, .int .i64 (-1), .int .i64 (-1)]) := fun W => by rw [hTV]; exact toldBare rk rm rd ra rb rc rp xc xy xs xm xd rt rf W
 have IX1 : ∀ W, (Instr.index 82 (.agg AR) (.int .i64 1)).run Tryz.prog W = .ok (.func (.func 81) #[TV] #[]) W := fun W => by rw [hAR]; rfl
 have KT1 : ∀ W, CR 81 #[TV] W (.agg #[.int .i64 rk, .int .i64 rm, .int .i64 rd, .int .i64 ra, .int .i64 rb, .int .i64 rc, .bool rt, .string rf, .int .i64 rp, .int .i64 xy, .int .i64 (-1), .int .i64 xc]) := fun W => by rw [hTV]; exact toldWithCal rk rm rd ra rb rc rp xc xy xs xm xd rt rf W
 have IX2 : ∀ W, (Instr.index 82 (.agg AR) (.int .i64 2)).run Tryz.prog W = .ok (.func (.func 82) #[TV] #[]) W := fun W => by rw [hAR]; rfl
 have KT2 : ∀ W, CR 82 #[TV] W (.agg #[.int .i64 rk, .int .i64 rm, .int .i64 rd, .int .i64 ra, .int .i64 rb, .int .i64 rc, .bool rt, .string rf, .int .i64 rp, .int .i64 xy, .int .i64 xs, .int .i64 (-1)]) := fun W => by rw [hTV]; exact toldWithSolar rk rm rd ra rb rc rp xc xy xs xm xd rt rf W
 have IX3 : ∀ W, (Instr.index 82 (.agg AR) (.int .i64 3)).run Tryz.prog W = .ok (.func (.func 83) #[TV] #[]) W := fun W => by rw [hAR]; rfl
 have KT3 : ∀ W, CR 83 #[TV] W (.agg #[.int .i64 rk, .int .i64 rm, .int .i64 rd, .int .i64 ra, .int .i64 rb, .int .i64 rc, .bool rt, .string rf, .int .i64 rp, .int .i64 xy, .int .i64 xs, .int .i64 xc]) := fun W => by rw [hTV]; exact toldWithBoth rk rm rd ra rb rc rp xc xy xs xm xd rt rf W
 clear hAR hTV
 refine (KSay x3.w).mono ?_
 rintro e w4 ⟨rfl, hb⟩
 have I4 := hideP (I3.out.below hb I3.out.lt)
 obtain ⟨x4, rfl⟩ := x3.next hb
 clear hb y0 y1 y2 y3 y4 y5 y6 y7 y8 y9 y10 y11 y12 y13 Z3 I3 KSay
 generalize x2.w.heap.size = gb at *
 have A4 : Hid (∀ V, Below x4.w.heap.size x4.w V → IntRow V (.slice (some ⟨gb, 0, none⟩) 1 1) [n]) := fun V hb => by
  have q := I4.out.below hb I4.out.lt
  refine ⟨_, _, rfl, fun j hj => ⟨gb, rfl, q.lt, ?_⟩⟩
  have : j = 0 := by simp at hj; omega
  subst this
  exact q.cell 0 rfl
 have KC : Hid (∀ V, Below x4.w.heap.size x4.w V → V.cell? ⟨w.heap.size, 0, none⟩ = some (.string r.name) ∧ V.cell? ⟨w.heap.size, 1, none⟩ = some (.int .i64 r.fr) ∧ V.cell? ⟨w.heap.size, 2, none⟩ = some (.int .i64 r.to) ∧ V.cell? ⟨w.heap.size, 3, none⟩ = some v1 ∧ V.cell? ⟨w.heap.size, 4, none⟩ = some v2 ∧ V.cell? ⟨w.heap.size, 5, none⟩ = some v3 ∧ V.cell? ⟨w.heap.size, 6, none⟩ = some (.int .i64 r.rule)) := fun V hb => ⟨d0 ⟨V, x4.on hb⟩, d1 ⟨V, x4.on hb⟩, d2 ⟨V, x4.on hb⟩, d3 ⟨V, x4.on hb⟩, d4 ⟨V, x4.on hb⟩, d5 ⟨V, x4.on hb⟩, d6 ⟨V, x4.on hb⟩⟩
 clear d0 d1 d2 d3 d4 d5 d6 I4
 go_wp2_with fail
 go_loopw [25] (fun i wr => ∃ j : Nat, j ≤ 4 ∧ i = .int .i64 (j : Int) ∧ Hid (∀ i : Nat, i < j → decide (DS (i : Int) = [n]) = false) ∧ ∃ x : Later x4.w, wr = x.w) (fun i _ => (4 - intOf i).toNat)
 case atStart => exact ⟨0, by omega, rfl, fun i h => absurd h (Nat.not_lt_zero _), ⟨x4.w, Below.refl _ _⟩, rfl⟩
 case round =>
  obtain ⟨j, hj, rfl, HF, x, rfl⟩ := hrel
  by_cases h4 : (j : Int) < 4
  case neg =>
   obtain rfl : A = -1 := HN.out (fun i hi => HF.out i (by omega))
   clear HM D0 D1 D2 D3 KT0 KT1 KT2 KT3
   go_wp2
   go_ret
   exact ⟨rfl, HBl.out ⟨x.w, x4.on x.below⟩⟩
  have HMj : Hid (decide (DS (j : Int) = [n]) = true → A = (j : Int)) := fun ht => HM.out j (by omega) HF.out ht
  have HFj : Hid (decide (DS (j : Int) = [n]) = false → ∀ i : Nat, i < j + 1 → decide (DS (i : Int) = [n]) = false) := fun h i hi => by
   by_cases e : i = j
   · rw [e]; exact h
   · exact HF.out i (by omega)
  have TD : Below x4.w.heap.size x4.w x.w.drew := x.below.drew
  have hj4 : j = 0 ∨ j = 1 ∨ j = 2 ∨ j = 3 := by omega
  obtain ⟨b, hb⟩ : ∃ b, b = decide (DS (j : Int) = [n]) := ⟨_, rfl⟩
  rw [← hb] at HMj HFj
  clear HM HN HF h4
  rcases hj4 with rfl | rfl | rfl | rfl
  focus
    have KT := KT0
    have KD := D0
    have ix := IX0
    have hb2 : decide (DS 0 = [n]) = b := hb.symm
  rotate_left
  focus
    have KT := KT1
    have KD := D1
    have ix := IX1
    have hb2 : decide (DS 1 = [n]) = b := hb.symm
  rotate_left
  focus
    have KT := KT2
    have KD := D2
    have ix := IX2
    have hb2 : decide (DS 2 = [n]) = b := hb.symm
  rotate_left
  focus
    have KT := KT3
    have KD := D3
    have ix := IX3
    have hb2 : decide (DS 3 = [n]) = b := hb.symm
  rotate_left
  all_goals
   clear D0 D1 D2 D3 KT0 KT1 KT2 KT3 IX0 IX1 IX2 IX3
   go_upto_region 8 with fail
   go_cut [34] (fun s34 wx => s34 = .bool b ∧ ∃ V : Later x4.w, wx = V.w)
   case first =>
    go_region_held (fun w' => w'.cell? ⟨w.heap.size, 0, none⟩ = some (.string r.name) ∧ w'.cell? ⟨w.heap.size, 1, none⟩ = some (.int .i64 r.fr) ∧ w'.cell? ⟨w.heap.size, 2, none⟩ = some (.int .i64 r.to) ∧ w'.cell? ⟨w.heap.size, 3, none⟩ = some v1 ∧ w'.cell? ⟨w.heap.size, 4, none⟩ = some v2 ∧ w'.cell? ⟨w.heap.size, 5, none⟩ = some v3 ∧ w'.cell? ⟨w.heap.size, 6, none⟩ = some (.int .i64 r.rule)) (exact KC.out _ (by assumption)) (first | (go_at_call 80; refine (KT _).mono ?_; rintro e V1 ⟨rfl, hb⟩; have B1 : Below x4.w.heap.size x4.w V1 := TD.trans (hb.mono TD.size); clear hb) | (go_at_call 81; refine (KT _).mono ?_; rintro e V1 ⟨rfl, hb⟩; have B1 : Below x4.w.heap.size x4.w V1 := TD.trans (hb.mono TD.size); clear hb) | (go_at_call 82; refine (KT _).mono ?_; rintro e V1 ⟨rfl, hb⟩; have B1 : Below x4.w.heap.size x4.w V1 := TD.trans (hb.mono TD.size); clear hb) | (go_at_call 83; refine (KT _).mono ?_; rintro e V1 ⟨rfl, hb⟩; have B1 : Below x4.w.heap.size x4.w V1 := TD.trans (hb.mono TD.size); clear hb) | (go_at_call 50; refine (KD ⟨V1, x4.on B1⟩).mono ?_; rintro e V2 ⟨o, rfl, hm, hb⟩; have B2 : Below x4.w.heap.size x4.w V2 := B1.trans (hb.mono B1.size); have hI := hm.row; clear hb hm) | (go_at_call 49; refine (implEqOne _ _ _ n V2 hI (A4.out V2 B2) b hb2).mono ?_; rintro e V3 ⟨rfl, hb⟩; have B3 : Below x4.w.heap.size x4.w V3 := B2.trans (hb.mono B2.size); clear hb))
    all_goals (go_wp2_with fail; go_meet)
    all_goals first
     | exact ⟨rfl, ⟨_, B3⟩, rfl⟩
     | (have hq := ‹Ending.returned (Value.bool b) = Ending.returned _›; cases hq; exact ⟨rfl, ⟨_, B3⟩, rfl⟩)
   case rest =>
   obtain ⟨rfl, V, rfl⟩ := hcut
   clear hb hb2 KT KD ix TD
   cases b
   · have HF2 := hideP (HFj.out rfl)
     clear HFj HMj
     go_wp2
     first
      | exact ⟨⟨1, by omega, rfl, HF2.out, V, rfl⟩, by simp [intOf]⟩
      | exact ⟨⟨2, by omega, rfl, HF2.out, V, rfl⟩, by simp [intOf]⟩
      | exact ⟨⟨3, by omega, rfl, HF2.out, V, rfl⟩, by simp [intOf]⟩
      | exact ⟨⟨4, by omega, rfl, HF2.out, V, rfl⟩, by simp [intOf]⟩
   · have e := HMj.out rfl
     clear HFj HMj
     go_wp2
     go_ret
     exact ⟨by rw [e]; rfl, HBl.out ⟨V.w, x4.on V.below⟩⟩
end Go.Proofs.YtdmlhiailjnhcaaGreatDoor.ctr
