/- The program's Write; and what else the law reaches. -/
import Derived.Test.YtdmlhiailjnhcaaGreatDoorJnXbr
import Derived.Test.YtdmlhiailjnhcaaGreatDoorJnXbi
import Derived.Test.YtdmlhiailjnhcaaGreatDoorJnXah
import Derived.Test.YtdmlhiailjnhcaaGreatDoorMkdSX
import Derived.Test.YtdmlhiailjnhcaaGreatDoorJnXbo
import Derived.Test.YtdmlhiailjnhcaaGreatDoorJnXaa
namespace Go.Proofs.YtdmlhiailjnhcaaGreatDoor.ctr
open Go.RowKit
set_option linter.unusedSimpArgs false
noncomputable def wrtS (r : Rgm) (n k : Int) : ByteArray := sayTx (mkdS r n k (marksP r n k))
theorem wrt_no {r : Rgm} {n k : Int} (h : marksP r n k < 0) : wrtS r n k = ⟨#[]⟩ := by
 unfold wrtS mkdS
 rw [if_neg (by unfold mkdB; rw [decide_eq_false (show ¬ 0 ≤ marksP r n k by omega), Bool.false_and, Bool.and_false]; simp)]
 exact sayTx_no (by unfold sayB; simp [inB])
def needW : Nat → List Nat
  | 7 => [6]
  | 8 => [7]
  | 9 => [8]
  | 10 => [8]
  | _ => []
set_option maxRecDepth 100000 in
set_option maxHeartbeats 16000000 in
theorem implWrite (v : Value) (r : Rgm) (n k : Int) (q : Addr) (w : World) (h : GRow w v r) (ht : r.to ≤ 9223372036854775807) (hE : ErrT w) (hT : Tab w) (hP : Pow w) (hS : Sent w q) (hSh : Shp w) (hM : Mrk w) (hN : Mon w) (hPT : PowT w) : CR 21 #[v, .int .i64 n, .int .i64 k] w (.string (wrtS r n k)) := by
 have hG := h
 obtain ⟨v1, v2, v3, rfl, _⟩ := h
 obtain ⟨W0, hW0, hD, hBl⟩ := box7 w (.string r.name) (.int .i64 r.fr) (.int .i64 r.to) v1 v2 v3 (.int .i64 r.rule) 38
 obtain ⟨d0, d1, d2, d3, d4, d5, d6⟩ := sevenL hD
 have HW0 := hideP hW0
 have HBl := hideP hBl
 have KM : ∀ z : Later W0, CR 19 #[.agg #[.string r.name, .int .i64 r.fr, .int .i64 r.to, v1, v2, v3, .int .i64 r.rule], .int .i64 n, .int .i64 k] z.w (.int .i64 (marksP r n k)) := fun z => implMarks _ r n k q z.w (hG.below (HBl.out z)) ht (hE.below (HBl.out z)) (hT.later (HBl.out z)) (pow_later hP (HBl.out z)) (hS.later (HBl.out z))
 have KD : ∀ z : Later W0, CR 16 #[.agg #[.string r.name, .int .i64 r.fr, .int .i64 r.to, v1, v2, v3, .int .i64 r.rule], .int .i64 n, .int .i64 k, .int .i64 (marksP r n k)] z.w (.tuple #[sayV (mkdS r n k (marksP r n k)), .bool (mkdB r n k (marksP r n k))]) := fun z => implMarked _ r n k (marksP r n k) q z.w (hG.below (HBl.out z)) ht (hE.below (HBl.out z)) (hT.later (HBl.out z)) (pow_later hP (HBl.out z)) (hS.later (HBl.out z))
 have KT : ∀ z : Later W0, CR 52 #[sayV (mkdS r n k (marksP r n k))] z.w (.string (wrtS r n k)) := fun z => implSayingText _ z.w (hT.later (HBl.out z)) (hSh.later (HBl.out z)) (hM.later (HBl.out z)) (hN.later (HBl.out z)) (hPT.later (HBl.out z))
 generalize wrtS r n k = tx at *
 generalize mkdS r n k (marksP r n k) = S at *
 generalize mkdB r n k (marksP r n k) = fb at *
 generalize marksP r n k = mm at *
 obtain ⟨⟨sk, sm, sd, ⟨sa, sb, sc, st⟩, sf, sp⟩, sy, so, sca⟩ := S
 clear hW0 hD hBl hG hE hT hP hS ht hSh hM hN hPT
 go_enter Tryz.func21, Tryz.ntmps21
 go_wp2_with fail
 rw [← HW0.out]
 have KEy : Hid (∀ V, Below W0.drew.heap.size W0.drew V → V.cell? ⟨w.heap.size, 0, none⟩ = some (.string r.name) ∧ V.cell? ⟨w.heap.size, 1, none⟩ = some (.int .i64 r.fr) ∧ V.cell? ⟨w.heap.size, 2, none⟩ = some (.int .i64 r.to) ∧ V.cell? ⟨w.heap.size, 3, none⟩ = some (v1) ∧ V.cell? ⟨w.heap.size, 4, none⟩ = some (v2) ∧ V.cell? ⟨w.heap.size, 5, none⟩ = some (v3) ∧ V.cell? ⟨w.heap.size, 6, none⟩ = some (.int .i64 r.rule)) := fun V h => by
  obtain ⟨z, rfl⟩ : ∃ z : Later W0, z.w = V := ⟨⟨V, (Below.refl _ _).drew.trans h⟩, rfl⟩
  exact ⟨d0 z, d1 z, d2 z, d3 z, d4 z, d5 z, d6 z⟩
 refine wp_region_held_drew (S := (fun V => V.cell? ⟨w.heap.size, 0, none⟩ = some (.string r.name) ∧ V.cell? ⟨w.heap.size, 1, none⟩ = some (.int .i64 r.fr) ∧ V.cell? ⟨w.heap.size, 2, none⟩ = some (.int .i64 r.to) ∧ V.cell? ⟨w.heap.size, 3, none⟩ = some (v1) ∧ V.cell? ⟨w.heap.size, 4, none⟩ = some (v2) ∧ V.cell? ⟨w.heap.size, 5, none⟩ = some (v3) ∧ V.cell? ⟨w.heap.size, 6, none⟩ = some (.int .i64 r.rule))) (by kernel_rfl) (KEy.out _ (Below.refl _ _)) (fun hHeld => ?_)
 refine held_take (i := 0) (d := 10) (v := ?_) rfl rfl (by kernel_rfl) (by decide +kernel) (by decide +kernel) (fun _ _ _ h => h) (by rfl) ?_ (by assumption) ?_
 rotate_left
 · intro wq hSw
   obtain ⟨q0, q1, q2, q3, q4, q5, q6⟩ := hSw
   go_simp
   (try rfl)
   (try (rw [if_pos (by omega)]))
 simp only [Act.put, List.setIfInBounds_toArray, List.set_cons_zero, List.set_cons_succ]
 refine held_take (i := 1) (d := 11) (v := ?_) rfl rfl (by kernel_rfl) (by decide +kernel) (by decide +kernel) (fun _ _ _ h => h) (by rfl) ?_ (by assumption) ?_
 rotate_left
 · intro wq hSw
   obtain ⟨q0, q1, q2, q3, q4, q5, q6⟩ := hSw
   go_simp
   (try rfl)
   (try (rw [if_pos (by omega)]))
 simp only [Act.put, List.setIfInBounds_toArray, List.set_cons_zero, List.set_cons_succ]
 refine held_take (i := 2) (d := 12) (v := ?_) rfl rfl (by kernel_rfl) (by decide +kernel) (by decide +kernel) (fun _ _ _ h => h) (by rfl) ?_ (by assumption) ?_
 rotate_left
 · intro wq hSw
   obtain ⟨q0, q1, q2, q3, q4, q5, q6⟩ := hSw
   go_simp
   (try rfl)
   (try (rw [if_pos (by omega)]))
 simp only [Act.put, List.setIfInBounds_toArray, List.set_cons_zero, List.set_cons_succ]
 refine held_take (i := 3) (d := 13) (v := ?_) rfl rfl (by kernel_rfl) (by decide +kernel) (by decide +kernel) (fun _ _ _ h => h) (by rfl) ?_ (by assumption) ?_
 rotate_left
 · intro wq hSw
   obtain ⟨q0, q1, q2, q3, q4, q5, q6⟩ := hSw
   go_simp
   (try rfl)
   (try (rw [if_pos (by omega)]))
 simp only [Act.put, List.setIfInBounds_toArray, List.set_cons_zero, List.set_cons_succ]
 refine held_take (i := 4) (d := 14) (v := ?_) rfl rfl (by kernel_rfl) (by decide +kernel) (by decide +kernel) (fun _ _ _ h => h) (by rfl) ?_ (by assumption) ?_
 rotate_left
 · intro wq hSw
   obtain ⟨q0, q1, q2, q3, q4, q5, q6⟩ := hSw
   go_simp
   (try rfl)
   (try (rw [if_pos (by omega)]))
 simp only [Act.put, List.setIfInBounds_toArray, List.set_cons_zero, List.set_cons_succ]
 refine held_take (i := 5) (d := 15) (v := ?_) rfl rfl (by kernel_rfl) (by decide +kernel) (by decide +kernel) (fun _ _ _ h => h) (by rfl) ?_ (by assumption) ?_
 rotate_left
 · intro wq hSw
   obtain ⟨q0, q1, q2, q3, q4, q5, q6⟩ := hSw
   go_simp
   (try rfl)
   (try (rw [if_pos (by omega)]))
 simp only [Act.put, List.setIfInBounds_toArray, List.set_cons_zero, List.set_cons_succ]
 refine held_mix (B := W0.drew) (f := 2) (E := #[true, true, true, true, true, true, true, true, true, true, true, true, false, false]) needW [8, 9, 10] [16, 17, 9, 18, 19, 7] [⟨6, 16, .int .i64 mm⟩, ⟨7, 17, .tuple #[.agg #[.int .i64 sk, .int .i64 sm, .int .i64 sd, .int .i64 sa, .int .i64 sb, .int .i64 sc, .bool st, .string sf, .int .i64 sp, .int .i64 sy, .int .i64 so, .int .i64 sca], .bool fb]⟩, ⟨8, 9, .tuple #[.agg #[.int .i64 sk, .int .i64 sm, .int .i64 sd, .int .i64 sa, .int .i64 sb, .int .i64 sc, .bool st, .string sf, .int .i64 sp, .int .i64 sy, .int .i64 so, .int .i64 sca], .bool fb]⟩, ⟨9, 18, .agg #[.int .i64 sk, .int .i64 sm, .int .i64 sd, .int .i64 sa, .int .i64 sb, .int .i64 sc, .bool st, .string sf, .int .i64 sp, .int .i64 sy, .int .i64 so, .int .i64 sca]⟩, ⟨10, 19, .bool fb⟩] [⟨11, 7, #[.int .i64 0, .int .i64 0, .int .i64 0, .int .i64 0, .int .i64 0, .int .i64 0, .bool false, .string ⟨#[]⟩, .int .i64 0, .int .i64 0, .int .i64 0, .int .i64 0], 44⟩] KEy.out (by simp) (by simp) (by simp) (by simp) (by simp) (by simp) (by simp) (by decide +kernel) (fun _ _ _ _ _ h => h) ?quiet ?call ?make ?fin 6 [6, 7, 8, 9, 10] [11] _ _ _ (fun _ => 0) (by decide +kernel) (by decide) (by decide) (by simp) (by simp) ⟨rfl, rfl, fun _ _ => rfl⟩ (by simp) (by simp) (by simp) (Below.refl _ _)
 case quiet =>
  intro c hmem hq
  simp only [List.mem_cons, List.not_mem_nil, or_false] at hmem
  rcases hmem with rfl | rfl | rfl | rfl | rfl
  · simp at hq
  · simp at hq
  · refine ⟨_, rfl, rfl, fun a' hA hc => ⟨by rfl, fun w _ => ?_⟩⟩
    have g0 := hc ⟨7, 17, .tuple #[.agg #[.int .i64 sk, .int .i64 sm, .int .i64 sd, .int .i64 sa, .int .i64 sb, .int .i64 sc, .bool st, .string sf, .int .i64 sp, .int .i64 sy, .int .i64 so, .int .i64 sca], .bool fb]⟩ (by simp) (by simp [needW])
    dsimp only at g0
    simp [execOp, go_sem, g0]
  · refine ⟨_, rfl, rfl, fun a' hA hc => ⟨by rfl, fun w _ => ?_⟩⟩
    have g0 := hc ⟨8, 9, .tuple #[.agg #[.int .i64 sk, .int .i64 sm, .int .i64 sd, .int .i64 sa, .int .i64 sb, .int .i64 sc, .bool st, .string sf, .int .i64 sp, .int .i64 sy, .int .i64 so, .int .i64 sca], .bool fb]⟩ (by simp) (by simp [needW])
    dsimp only at g0
    simp [execOp, go_sem, g0]
  · refine ⟨_, rfl, rfl, fun a' hA hc => ⟨by rfl, fun w _ => ?_⟩⟩
    have g0 := hc ⟨8, 9, .tuple #[.agg #[.int .i64 sk, .int .i64 sm, .int .i64 sd, .int .i64 sa, .int .i64 sb, .int .i64 sc, .bool st, .string sf, .int .i64 sp, .int .i64 sy, .int .i64 so, .int .i64 sca], .bool fb]⟩ (by simp) (by simp [needW])
    dsimp only at g0
    simp [execOp, go_sem, g0]
 case call =>
  intro c hmem hnq a' w' K hA hc hb hK
  simp only [List.mem_cons, List.not_mem_nil, or_false] at hmem
  rcases hmem with rfl | rfl | rfl | rfl | rfl
  · refine op_call (args := #[.agg #[.string r.name, .int .i64 r.fr, .int .i64 r.to, v1, v2, v3, .int .i64 r.rule], .int .i64 n, .int .i64 k]) (T := fun u w'' => u = .int .i64 mm ∧ Below w'.heap.size w' w'') rfl rfl rfl (by rfl) (by simp only [List.map_toArray, List.map_cons, List.map_nil]; rw [hA.eval (j := 13) (by decide), hA.eval (j := 14) (by decide), hA.eval (j := 15) (by decide)]; rfl) (enters_of Tryz.func19 (by kernel_rfl) rfl) ((KM ⟨w', (Below.refl _ _).drew.trans hb⟩).mono ?_) ?_
    · rintro e V ⟨rfl, h⟩
      exact ⟨_, rfl, rfl, h⟩
    · rintro u w'' ⟨rfl, h⟩
      exact hK _ h
  · have g3 := eval_of (hc ⟨6, 16, .int .i64 mm⟩ (by simp) (by simp [needW]))
    refine op_call (args := #[.agg #[.string r.name, .int .i64 r.fr, .int .i64 r.to, v1, v2, v3, .int .i64 r.rule], .int .i64 n, .int .i64 k, .int .i64 mm]) (T := fun u w'' => u = .tuple #[.agg #[.int .i64 sk, .int .i64 sm, .int .i64 sd, .int .i64 sa, .int .i64 sb, .int .i64 sc, .bool st, .string sf, .int .i64 sp, .int .i64 sy, .int .i64 so, .int .i64 sca], .bool fb] ∧ Below w'.heap.size w' w'') rfl rfl rfl (by rfl) (by simp only [List.map_toArray, List.map_cons, List.map_nil]; rw [hA.eval (j := 10) (by decide), hA.eval (j := 11) (by decide), hA.eval (j := 12) (by decide), g3]; rfl) (enters_of Tryz.func16 (by kernel_rfl) rfl) ((KD ⟨w', (Below.refl _ _).drew.trans hb⟩).mono ?_) ?_
    · rintro e V ⟨rfl, h⟩
      exact ⟨_, rfl, rfl, h⟩
    · rintro u w'' ⟨rfl, h⟩
      exact hK _ h
  · exact absurd (by simp) hnq
  · exact absurd (by simp) hnq
  · exact absurd (by simp) hnq
 case make =>
  intro m hm a' w' K hK
  simp only [List.mem_cons, List.not_mem_nil, or_false] at hm
  subst hm
  exact op_any rfl rfl (by rfl) (by simp [execOp, go_sem]; try rfl) hK
 case fin =>
  intro a' w' p hA hc hm hne hb
  obtain rfl := agree_eq [(16, .int .i64 mm), (17, .tuple #[.agg #[.int .i64 sk, .int .i64 sm, .int .i64 sd, .int .i64 sa, .int .i64 sb, .int .i64 sc, .bool st, .string sf, .int .i64 sp, .int .i64 sy, .int .i64 so, .int .i64 sca], .bool fb]), (9, .tuple #[.agg #[.int .i64 sk, .int .i64 sm, .int .i64 sd, .int .i64 sa, .int .i64 sb, .int .i64 sc, .bool st, .string sf, .int .i64 sp, .int .i64 sy, .int .i64 so, .int .i64 sca], .bool fb]), (18, .agg #[.int .i64 sk, .int .i64 sm, .int .i64 sd, .int .i64 sa, .int .i64 sb, .int .i64 sc, .bool st, .string sf, .int .i64 sp, .int .i64 sy, .int .i64 so, .int .i64 sca]), (19, .bool fb), (7, .pointer (some ⟨p 11, 0, none⟩))] hA (by simp) (by simp) (by simp) (by
   have h0 := hc ⟨6, 16, .int .i64 mm⟩ (by simp)
   have h1 := hc ⟨7, 17, .tuple #[.agg #[.int .i64 sk, .int .i64 sm, .int .i64 sd, .int .i64 sa, .int .i64 sb, .int .i64 sc, .bool st, .string sf, .int .i64 sp, .int .i64 sy, .int .i64 so, .int .i64 sca], .bool fb]⟩ (by simp)
   have h2 := hc ⟨8, 9, .tuple #[.agg #[.int .i64 sk, .int .i64 sm, .int .i64 sd, .int .i64 sa, .int .i64 sb, .int .i64 sc, .bool st, .string sf, .int .i64 sp, .int .i64 sy, .int .i64 so, .int .i64 sca], .bool fb]⟩ (by simp)
   have h3 := hc ⟨9, 18, .agg #[.int .i64 sk, .int .i64 sm, .int .i64 sd, .int .i64 sa, .int .i64 sb, .int .i64 sc, .bool st, .string sf, .int .i64 sp, .int .i64 sy, .int .i64 so, .int .i64 sca]⟩ (by simp)
   have h4 := hc ⟨10, 19, .bool fb⟩ (by simp)
   have k0 := (hm ⟨11, 7, #[.int .i64 0, .int .i64 0, .int .i64 0, .int .i64 0, .int .i64 0, .int .i64 0, .bool false, .string ⟨#[]⟩, .int .i64 0, .int .i64 0, .int .i64 0, .int .i64 0], 44⟩ (by simp)).1
   intro x hx
   simp only [List.mem_cons, List.not_mem_nil, or_false] at hx
   rcases hx with rfl | rfl | rfl | rfl | rfl | rfl
   · exact h0
   · exact h1
   · exact h2
   · exact h3
   · exact h4
   · exact k0)
  obtain ⟨_, hP0, hPb0⟩ := hm ⟨11, 7, #[.int .i64 0, .int .i64 0, .int .i64 0, .int .i64 0, .int .i64 0, .int .i64 0, .bool false, .string ⟨#[]⟩, .int .i64 0, .int .i64 0, .int .i64 0, .int .i64 0], 44⟩ (by simp)
  dsimp only at hP0 hPb0
  clear hA hc hm hne
  generalize p 11 = pp0 at *
  simp only [List.foldl_cons, List.foldl_nil, Act.put, List.setIfInBounds_toArray, List.set_cons_zero, List.set_cons_succ]
  obtain ⟨pc0, pc1, pc2, pc3, pc4, pc5, pc6, pc7, pc8, pc9, pc10, pc11⟩ := hP0.cells12
  have pt0 := hP0.thaw 0; have pt1 := hP0.thaw 1; have pt2 := hP0.thaw 2; have pt3 := hP0.thaw 3; have pt4 := hP0.thaw 4; have pt5 := hP0.thaw 5; have pt6 := hP0.thaw 6; have pt7 := hP0.thaw 7; have pt8 := hP0.thaw 8; have pt9 := hP0.thaw 9; have pt10 := hP0.thaw 10; have pt11 := hP0.thaw 11
  obtain ⟨V1, hV1⟩ : ∃ V1, V1 = (((((((((((w'.setCell ⟨pp0, 0, none⟩ (.int .i64 sk)).setCell ⟨pp0, 1, none⟩ (.int .i64 sm)).setCell ⟨pp0, 2, none⟩ (.int .i64 sd)).setCell ⟨pp0, 3, none⟩ (.int .i64 sa)).setCell ⟨pp0, 4, none⟩ (.int .i64 sb)).setCell ⟨pp0, 5, none⟩ (.int .i64 sc)).setCell ⟨pp0, 6, none⟩ (.bool st)).setCell ⟨pp0, 7, none⟩ (.string sf)).setCell ⟨pp0, 8, none⟩ (.int .i64 sp)).setCell ⟨pp0, 9, none⟩ (.int .i64 sy)).setCell ⟨pp0, 10, none⟩ (.int .i64 so)).setCell ⟨pp0, 11, none⟩ (.int .i64 sca) := ⟨_, rfl⟩
  have hX : Blk V1 pp0 #[.int .i64 sk, .int .i64 sm, .int .i64 sd, .int .i64 sa, .int .i64 sb, .int .i64 sc, .bool st, .string sf, .int .i64 sp, .int .i64 sy, .int .i64 so, .int .i64 sca] 44 := by rw [hV1]; exact tlv_set hP0
  have b1' : Below W0.drew.heap.size W0.drew V1 := by rw [hV1]; exact tlv_below hb hPb0
  refine held_one (i := 12) (by decide +kernel) (op_skip (w' := V1) rfl rfl (by rfl) (by rw [hV1]; simp [execOp, go_sem, pc0, pc1, pc2, pc3, pc4, pc5, pc6, pc7, pc8, pc9, pc10, pc11, pt0, pt1, pt2, pt3, pt4, pt5, pt6, pt7, pt8, pt9, pt10, pt11]) ?_)
  refine ⟨KEy.out _ b1', ?_⟩
  clear hV1 pc0 pc1 pc2 pc3 pc4 pc5 pc6 pc7 pc8 pc9 pc10 pc11 pt0 pt1 pt2 pt3 pt4 pt5 pt6 pt7 pt8 pt9 pt10 pt11 hP0 hb
  refine held_one (i := 13) (by decide +kernel) (op_any (v := .bool fb) rfl rfl (by rfl) (by simp [execOp, go_sem]; try rfl) ?_)
  refine ⟨KEy.out _ b1', ?_⟩
  simp only [Act.put, List.setIfInBounds_toArray, List.set_cons_zero, List.set_cons_succ]
  refine wpAnyH_done (by decide +kernel) ?_ _
  have hb : Below W0.heap.size W0 V1 := (Below.refl _ _).drew.trans b1'
  have HX := hideP hX
  obtain ⟨x1, rfl⟩ := Later.of hb
  clear hX b1' hPb0 KEy hHeld hb
  obtain ⟨y0, y1, y2, y3, y4, y5, y6, y7, y8, y9, y10, y11⟩ := HX.out.cells12
  go_wp2_with fail
  refine lat (KT x1) fun x2 => ?_
  go_wp2
  go_ret
  exact ⟨rfl, HBl.out x2⟩
set_option linter.unusedSimpArgs false
set_option maxRecDepth 100000 in
set_option maxHeartbeats 16000000 in
theorem specMarks (v : Value) (r : Rgm) (n k : Int) (w : World) (h : GRow w v r) (hf : -9223372036854775808 ≤ r.fr) (ht : r.to ≤ 9223372036854775807) : CR 18 #[v, .int .i64 n, .int .i64 k] w (.int .i64 (marksP r n k)) := by
 have hG := h
 obtain ⟨v1, v2, v3, rfl, _⟩ := h
 obtain ⟨W0, hW0, hD, hBl⟩ := box7 w (.string r.name) (.int .i64 r.fr) (.int .i64 r.to) v1 v2 v3 (.int .i64 r.rule) 38
 obtain ⟨d0, d1, d2, d3, d4, d5, d6⟩ := sevenL hD
 have HW0 := hideP hW0
 have HBl := hideP hBl
 have KM : ∀ (j : Nat), j < 4 → ∀ (z : Later W0), CR 15 #[.agg #[.string r.name, .int .i64 r.fr, .int .i64 r.to, v1, v2, v3, .int .i64 r.rule], .int .i64 n, .int .i64 k, .int .i64 (j : Int)] z.w (.tuple #[sayV (mkdS r n k (j : Int)), .bool (tellK r n k)]) := fun j hj z => by
  have q := specMarked _ r n k (j : Int) z.w (hG.below (HBl.out z)) hf ht
  rw [show mkdB r n k (j : Int) = tellK r n k by unfold mkdB; rw [decide_eq_true (by omega), decide_eq_true (by omega)]; exact Bool.and_true _] at q
  exact q
 have KD : ∀ (m : Int) (z : Later W0), Calls Tryz.prog 48 #[.agg #[.string r.name, .int .i64 r.fr, .int .i64 r.to, v1, v2, v3, .int .i64 r.rule], sayV (mkdS r n k m)] z.w fun e w' => ∃ o, e = .returned o ∧ MovRow z.w w' o (daysSaid r (mkdS r n k m)) ∧ Below z.w.heap.size z.w w' := fun m z => specDaysSaid _ r (mkdS r n k m) z.w (hG.below (HBl.out z)) hf ht
 obtain ⟨A, hA⟩ : ∃ A, A = marksP r n k := ⟨_, rfl⟩
 have HNo : Hid (tellK r n k = false → A = -1) := fun h => hA.trans (marks_no h)
 have HM : Hid (tellK r n k = true → ∀ j : Nat, j < 4 → (∀ i, i < j → decide (daysSaid r (mkdS r n k (i : Int)) = [n]) = false) → decide (daysSaid r (mkdS r n k (j : Int)) = [n]) = true → A = (j : Int)) := fun hk j hj hf ht => hA.trans (marks_hit hk hj hf ht)
 have HN : Hid ((∀ i : Nat, i < 4 → decide (daysSaid r (mkdS r n k (i : Int)) = [n]) = false) → A = -1) := fun hf => hA.trans (marks_none hf)
 rw [← hA]
 clear hA hW0 hD hBl hG hf ht
 obtain ⟨DS, hDS⟩ : ∃ DS : Int → List Int, DS = fun m => daysSaid r (mkdS r n k m) := ⟨_, rfl⟩
 have e0 : ∀ m, daysSaid r (mkdS r n k m) = DS m := fun m => by rw [hDS]
 simp only [e0] at KD HM HN
 clear e0 hDS
 generalize tellK r n k = tk at *
 generalize mkdS r n k = S at *
 go_enter Tryz.func18, Tryz.ntmps18
 go_wp2_with fail
 rw [← HW0.out]
 go_loopw [7] (fun i wr => ∃ j : Nat, j ≤ 4 ∧ i = .int .i64 (j : Int) ∧ Hid (∀ i : Nat, i < j → decide (DS (i : Int) = [n]) = false) ∧ ∃ x : Later W0, wr = x.w) (fun i _ => (4 - intOf i).toNat)
 case atStart => exact ⟨0, by omega, rfl, fun i h => absurd h (Nat.not_lt_zero _), ⟨W0, Below.refl _ _⟩, rfl⟩
 case round =>
  obtain ⟨j, hj, rfl, HF, x0, rfl⟩ := hrel
  by_cases h3 : (j : Int) ≤ 3
  case neg =>
   obtain rfl : A = -1 := HN.out (fun i hi => HF.out i (by omega))
   clear HM HNo KM KD
   go_wp2
   go_ret
   exact ⟨rfl, HBl.out x0⟩
  have hj4 : j < 4 := by omega
  have KMj := KM j hj4
  have KDj := KD (j : Int)
  have HMj : Hid (tk = true → decide (DS (j : Int) = [n]) = true → A = (j : Int)) := fun hk ht => HM.out hk j hj4 HF.out ht
  have HFj : Hid (decide (DS (j : Int) = [n]) = false → ∀ i : Nat, i < j + 1 → decide (DS (i : Int) = [n]) = false) := fun h i hi => by
   by_cases e : i = j
   · rw [e]; exact h
   · exact HF.out i (by omega)
  clear KM KD HM
  generalize S (j : Int) = s at *
  generalize DS (j : Int) = xs at *
  obtain ⟨⟨sk, sm, sd, ⟨sa, sb, sc, st⟩, sf, sp⟩, sy, so, sca⟩ := s
  go_wp2_with fail
  refine lat (KMj x0) fun x1 => ?_
  obtain ⟨x2, hx2, Z2⟩ := x1.fresh #[.int .i64 sk, .int .i64 sm, .int .i64 sd, .int .i64 sa, .int .i64 sb, .int .i64 sc, .bool st, .string sf, .int .i64 sp, .int .i64 sy, .int .i64 so, .int .i64 sca] 44
  have HX2 := hideP hx2
  clear hx2
  go_upto_region 5 with fail
  rw [HX2.out]
  clear HX2 KMj
  cases tk
  · obtain rfl : A = -1 := HNo.out rfl
    go_wp2
    go_ret
    exact ⟨rfl, HBl.out x2⟩
  obtain ⟨y0, y1, y2, y3, y4, y5, y6, y7, y8, y9, y10, y11⟩ := Z2.out.cells12
  go_wp2_with fail
  refine (KDj x2).mono ?_
  rintro e w3 ⟨o, rfl, hm, hb⟩
  obtain ⟨x3, rfl⟩ := x2.next hb
  have hI := hm.row
  obtain ⟨ad, cap, rfl, hc⟩ := hI
  clear hb hm y0 y1 y2 y3 y4 y5 y6 y7 y8 y9 y10 y11 Z2 KDj
  by_cases hl : xs.length = 1
  case neg =>
   have hl1 : ((xs.length : Int) == 1) = false := by simp; omega
   have HF2 := hideP (HFj.out (decide_eq_false (fun h => hl (by rw [h]; rfl))))
   clear HFj HMj HNo HN hl hc
   go_wp2
   exact ⟨⟨j + 1, by omega, by go_num, HF2.out, x3, rfl⟩, by simp [intOf]; omega⟩
  obtain ⟨a, rfl⟩ : ∃ a, xs = [a] := by
   match xs, hl with
   | [a], _ => exact ⟨a, rfl⟩
  obtain ⟨g, rfl, _, hc0⟩ := hc 0 (by simp)
  have hcell : x3.w.cell? ⟨g, 0, none⟩ = some (.int .i64 a) := hc0
  clear hc hc0 hl
  by_cases han : a = n
  · subst han
    have e := HMj.out (by first | rfl | trivial) (by simp)
    clear HFj HMj HNo HN
    go_wp2
    go_ret
    exact ⟨by rw [e]; rfl, HBl.out x3⟩
  · have HF2 := hideP (HFj.out (decide_eq_false (fun h => han (by simpa using h))))
    have hb1 : (a == n) = false := by simp [han]
    clear HFj HMj HNo HN han
    go_wp2
    exact ⟨⟨j + 1, by omega, by go_num, HF2.out, x3, rfl⟩, by simp [intOf]; omega⟩
set_option linter.unusedSimpArgs false
set_option maxRecDepth 100000 in
set_option maxHeartbeats 16000000 in
theorem specWrite (v : Value) (r : Rgm) (n k : Int) (w : World) (h : GRow w v r) (hf : -9223372036854775808 ≤ r.fr) (ht : r.to ≤ 9223372036854775807) : CR 20 #[v, .int .i64 n, .int .i64 k] w (.string (wrtS r n k)) := by
 have hG := h
 obtain ⟨v1, v2, v3, rfl, _⟩ := h
 obtain ⟨W0, hW0, hD, hBl⟩ := box7 w (.string r.name) (.int .i64 r.fr) (.int .i64 r.to) v1 v2 v3 (.int .i64 r.rule) 38
 obtain ⟨d0, d1, d2, d3, d4, d5, d6⟩ := sevenL hD
 have HW0 := hideP hW0
 have HBl := hideP hBl
 have KM : ∀ z : Later W0, CR 18 #[.agg #[.string r.name, .int .i64 r.fr, .int .i64 r.to, v1, v2, v3, .int .i64 r.rule], .int .i64 n, .int .i64 k] z.w (.int .i64 (marksP r n k)) := fun z => specMarks _ r n k z.w (hG.below (HBl.out z)) hf ht
 have KD : ∀ z : Later W0, CR 15 #[.agg #[.string r.name, .int .i64 r.fr, .int .i64 r.to, v1, v2, v3, .int .i64 r.rule], .int .i64 n, .int .i64 k, .int .i64 (marksP r n k)] z.w (.tuple #[sayV (mkdS r n k (marksP r n k)), .bool (mkdB r n k (marksP r n k))]) := fun z => specMarked _ r n k (marksP r n k) z.w (hG.below (HBl.out z)) hf ht
 have KT : ∀ W, CR 51 #[sayV (mkdS r n k (marksP r n k))] W (.string (wrtS r n k)) := fun W => specSayingText _ W
 have HN : Hid (marksP r n k < 0 → wrtS r n k = ⟨#[]⟩) := wrt_no
 generalize wrtS r n k = tx at *
 generalize mkdS r n k (marksP r n k) = S at *
 generalize mkdB r n k (marksP r n k) = fb at *
 generalize marksP r n k = mm at *
 obtain ⟨⟨sk, sm, sd, ⟨sa, sb, sc, st⟩, sf, sp⟩, sy, so, sca⟩ := S
 clear hW0 hD hBl hG hf ht
 go_enter Tryz.func20, Tryz.ntmps20
 go_wp2_with fail
 rw [← HW0.out]
 refine latO (KM ⟨W0, Below.refl _ _⟩) fun x1 => ?_
 by_cases h0 : mm < 0
 · obtain rfl : tx = ⟨#[]⟩ := HN.out h0
   go_wp2
   go_ret
   exact ⟨rfl, HBl.out x1⟩
 go_wp2_with fail
 refine lat (KD x1) fun x2 => ?_
 obtain ⟨x3, hx3, Z3⟩ := x2.fresh #[.int .i64 sk, .int .i64 sm, .int .i64 sd, .int .i64 sa, .int .i64 sb, .int .i64 sc, .bool st, .string sf, .int .i64 sp, .int .i64 sy, .int .i64 so, .int .i64 sca] 44
 have HX3 := hideP hx3
 clear hx3
 go_upto_region 5 with fail
 rw [HX3.out]
 clear HX3
 obtain ⟨y0, y1, y2, y3, y4, y5, y6, y7, y8, y9, y10, y11⟩ := Z3.out.cells12
 go_wp2_with fail
 refine lat (KT x3.w) fun x4 => ?_
 go_wp2
 go_ret
 exact ⟨rfl, HBl.out x4⟩
end Go.Proofs.YtdmlhiailjnhcaaGreatDoor.ctr
