/- The program's Same: the days from one to another that two regimes name alike, ascending, in a row of its own. Contract of the laws' markRegime from any mark on (the second regime of a law). Runs of days that two regimes name with one shift each: plain; a change of one struct of a row of one's own. -/
import Derived.Test.YtdgolaaheakfoaaGreatDoorJnRbk
import Derived.Test.YtdgolaaheakfoaaGreatDoorJnRbi
import Derived.Shelf.Abstract
import Derived.Test.YtdgolaaheakfoaaGreatDoorJnRbh
namespace Go.Proofs.YtdgolaaheakfoaaGreatDoor.ctr
open Go.RowKit
def put5 (w : World) (b : Nat) (v0 v1 v2 v3 v4 : Value) : World := ((((w.setCell ⟨b, 0, none⟩ v0).setCell ⟨b, 1, none⟩ v1).setCell ⟨b, 2, none⟩ v2).setCell ⟨b, 3, none⟩ v3).setCell ⟨b, 4, none⟩ v4
theorem blk_put5 {w : World} {b : Nat} {u0 u1 u2 u3 u4 v0 v1 v2 v3 v4 : Value} {t : TypeId} (h : Blk w b #[u0, u1, u2, u3, u4] t) : Blk (put5 w b v0 v1 v2 v3 v4) b #[v0, v1, v2, v3, v4] t := ((((h.set 0 v0).set 1 v1).set 2 v2).set 3 v3).set 4 v4
theorem blk_put5' {w : World} {b b' : Nat} {us : Array Value} {v0 v1 v2 v3 v4 : Value} {t : TypeId} (h : Blk w b us t) (hn : b' ≠ b) : Blk (put5 w b' v0 v1 v2 v3 v4) b us t := ((((h.other hn).other hn).other hn).other hn).other hn
theorem below_put5 {V w : World} {b : Nat} {v0 v1 v2 v3 v4 : Value} (h : Below V.heap.size V w) (hb : V.heap.size ≤ b) : Below V.heap.size V (put5 w b v0 v1 v2 v3 v4) := below_store (below_store (below_store (below_store (below_store h _ hb) _ hb) _ hb) _ hb) _ hb
theorem five_facts {w : World} {b : Nat} {u0 u1 u2 u3 u4 : Value} {t : TypeId} (h : Blk w b #[u0, u1, u2, u3, u4] t) : w.cell? ⟨b, 0, none⟩ = some u0 ∧ w.cell? ⟨b, 1, none⟩ = some u1 ∧ w.cell? ⟨b, 2, none⟩ = some u2 ∧ w.cell? ⟨b, 3, none⟩ = some u3 ∧ w.cell? ⟨b, 4, none⟩ = some u4 ∧ w.frozen? ⟨b, 0, none⟩ = false ∧ w.frozen? ⟨b, 1, none⟩ = false ∧ w.frozen? ⟨b, 2, none⟩ = false ∧ w.frozen? ⟨b, 3, none⟩ = false ∧ w.frozen? ⟨b, 4, none⟩ = false :=
  ⟨h.cell 0 rfl, h.cell 1 rfl, h.cell 2 rfl, h.cell 3 rfl, h.cell 4 rfl, h.thaw 0, h.thaw 1, h.thaw 2, h.thaw 3, h.thaw 4⟩
set_option maxRecDepth 100000 in
set_option maxHeartbeats 8000000 in
theorem implSame14 (v u : Value) (r s : Rgm) (f t : Int) (a : Addr) (w : World) (h : GRow w v r) (g : GRow w u s) (ht : r.to ≤ 9223372036854775807) (gt : s.to ≤ 9223372036854775807) (hE : ErrT w) (hT : Tab w) (hS : Sent w a) : Calls Tryz.prog 15 #[v, u, .int .i64 f, .int .i64 t] w fun e w' => ∃ o, e = .returned o ∧ MovRow w w' o (alikeL r s f t) ∧ Below w.heap.size w w' := by
  obtain ⟨i0, hi, hz0, hz1, hz2⟩ := info_parts info_int
  have hG := h
  have hU := g
  obtain ⟨a1, c1, a2, c2, a3, c3, rfl⟩ := h.parts
  obtain ⟨b1, d1, b2, d2, b3, d3, rfl⟩ := g.parts
  obtain ⟨W0, e0, HR, HZ, HB⟩ := boxR w #[.string r.name, .int .i64 r.fr, .int .i64 r.to, .slice a1 r.segs.length c1, .slice a2 r.pats.length c2, .slice a3 r.rgns.length c3, .int .i64 r.rule] 40 #[.string s.name, .int .i64 s.fr, .int .i64 s.to, .slice b1 s.segs.length d1, .slice b2 s.pats.length d2, .slice b3 s.rgns.length d3, .int .i64 s.rule] 40
  obtain ⟨r0, r1, r2, r3, r4, r5, r6⟩ := sevenL HR.out
  obtain ⟨u0, u1, u2, u3, u4, u5, u6⟩ := sevenL HZ.out
  have E0 := hideP e0
  have KP : ∀ y : Later W0, Calls Tryz.prog 49 #[.agg #[.string r.name, .int .i64 r.fr, .int .i64 r.to, .slice a1 r.segs.length c1, .slice a2 r.pats.length c2, .slice a3 r.rgns.length c3, .int .i64 r.rule], .agg #[.string s.name, .int .i64 s.fr, .int .i64 s.to, .slice b1 s.segs.length d1, .slice b2 s.pats.length d2, .slice b3 s.rgns.length d3, .int .i64 s.rule], .int .i64 f, .int .i64 t] y.w fun e w' => ∃ o, e = .returned o ∧ ISt y.w o (sharedL r s f t) w' := fun y => implSharedDays _ _ r s f t a y.w (hG.below (HB.out y)) (hU.below (HB.out y)) ht gt (hE.below (HB.out y)) (hT.later (HB.out y)) (hS.later (HB.out y))
  have KA : Hid (∀ n, n ∈ sharedL r s f t → ∀ W, Below W0.heap.size W0 W → Calls Tryz.prog 50 #[.agg #[.string r.name, .int .i64 r.fr, .int .i64 r.to, .slice a1 r.segs.length c1, .slice a2 r.pats.length c2, .slice a3 r.rgns.length c3, .int .i64 r.rule], .int .i64 n] W fun e w' => e = .returned (rdgV (rdgOn r n)) ∧ Below W.heap.size W w') := fun n q W hb => by
    have q := ((shared_set r s f t).2 n).1 q
    exact implReadingOn _ r n W (hG.below (HB.out ⟨W, hb⟩)) q.1.1 q.2.2.2.1 q.2.2.2.2.1 (hT.later (HB.out ⟨W, hb⟩))
  have KB : Hid (∀ n, n ∈ sharedL r s f t → ∀ W, Below W0.heap.size W0 W → Calls Tryz.prog 50 #[.agg #[.string s.name, .int .i64 s.fr, .int .i64 s.to, .slice b1 s.segs.length d1, .slice b2 s.pats.length d2, .slice b3 s.rgns.length d3, .int .i64 s.rule], .int .i64 n] W fun e w' => e = .returned (rdgV (rdgOn s n)) ∧ Below W.heap.size W w') := fun n q W hb => by
    have q := ((shared_set r s f t).2 n).1 q
    exact implReadingOn _ s n W (hU.below (HB.out ⟨W, hb⟩)) q.1.2.1 q.2.2.2.2.2.1 q.2.2.2.2.2.2 (hT.later (HB.out ⟨W, hb⟩))
  have HB0 : Hid (Below w.heap.size w W0) := HB.out ⟨W0, Below.refl _ _⟩
  have HF : Hid ((sharedL r s f t).filter (alikeB r s) = alikeL r s f t) := same_final r s f t
  have HLn : Hid ((sharedL r s f t).length ≤ 1000) := shared_len r s f t
  clear e0 hG h hU g ht gt hE hT hS HR HZ HB
  have HPn : Hid (∀ n, alikeB r s n = likeB (rdgOn r n) (rdgOn s n)) := fun n => rfl
  generalize sharedL r s f t = ds at *
  generalize alikeL r s f t = res at *
  generalize alikeB r s = P at *
  go_enter Tryz.func15, Tryz.ntmps15
  go_wp2_with fail
  rw [← E0.out]
  refine (KP ⟨W0, Below.refl _ _⟩).mono ?_
  rintro e w1 ⟨o, rfl, hI⟩
  have hM := (hI.done (Below.refl _ _)).1.row
  obtain ⟨x1, rfl⟩ := Later.of hI.below
  obtain ⟨ad, cap, rfl, hc⟩ := hM
  have HC := hideP hc
  clear hI hc KP
  go_wp2_with fail
  go_loopw [9, 11, 12, 13, 20] (fun o _ _ _ i wr => ∃ k : Nat, k ≤ ds.length ∧ i = .int .i64 (k : Int) ∧ ISt x1.w o ((ds.take k).filter P) wr) (fun _ _ _ _ i _ => ((ds.length : Int) - intOf i).toNat)
  case atStart => exact ⟨0, Nat.zero_le _, rfl, ISt.nil _⟩
  case round =>
    obtain ⟨k, hk, rfl, hSt⟩ := hrel
    have Z := hideP hSt
    have hb1 := x1.on hSt.below
    obtain ⟨y, rfl⟩ : ∃ y : Later W0, wr = y.w := ⟨⟨wr, hb1⟩, rfl⟩
    clear hSt hb1
    by_cases hlt : (k : Int) < (ds.length : Int)
    case neg =>
      have HE : Hid ((ds.take k).filter P = res) := by
        unfold Hid
        rw [List.take_of_length_le (by omega)]
        exact HF.out
      go_wp2
      go_ret
      rw [← HE.out]
      exact ⟨_, rfl, Z.out.done (HB0.out.trans (x1.below.mono HB0.out.size))⟩
    have hkn : k < ds.length := by omega
    obtain ⟨gg, rfl, hgg, hcc⟩ := HC.out k hkn
    have hcw : y.w.cell? ⟨gg, k, none⟩ = some (.int .i64 (ds.getD k 0)) := Later.at hcc ⟨y.w, Z.out.below⟩
    have hmem : ds.getD k 0 ∈ ds := by simp only [List.getD, List.getElem?_eq_getElem hkn, Option.getD_some]; exact List.getElem_mem hkn
    have KA1 := KA.out _ hmem
    have KB1 := KB.out _ hmem
    have HT := hideP (take_snoc_filter ds P k hkn)
    have HPk := hideP (HPn.out (ds.getD k 0))
    have hzl : ((ds.take k).filter P).length ≤ 1000 := Nat.le_trans (List.length_filter_le ..) (by rw [List.length_take]; have := HLn.out; omega)
    clear hmem hcc HC KA KB
    generalize ds.getD k 0 = n at *
    generalize P n = pn at *
    generalize rdgOn r n = x at *
    generalize rdgOn s n = z at *
    obtain ⟨xc, xy, xs, xm, xd⟩ := x
    obtain ⟨zc, zy, zq, zm, zd⟩ := z
    have KE : Hid (∀ w', Below W0.heap.size W0 w' → w'.cell? ⟨w.heap.size, 0, none⟩ = some (.string r.name) ∧ w'.cell? ⟨w.heap.size, 1, none⟩ = some (.int .i64 r.fr) ∧ w'.cell? ⟨w.heap.size, 2, none⟩ = some (.int .i64 r.to) ∧ w'.cell? ⟨w.heap.size, 3, none⟩ = some (.slice a1 r.segs.length c1) ∧ w'.cell? ⟨w.heap.size, 4, none⟩ = some (.slice a2 r.pats.length c2) ∧ w'.cell? ⟨w.heap.size, 5, none⟩ = some (.slice a3 r.rgns.length c3) ∧ w'.cell? ⟨w.heap.size, 6, none⟩ = some (.int .i64 r.rule) ∧ w'.cell? ⟨w.heap.size + 1, 0, none⟩ = some (.string s.name) ∧ w'.cell? ⟨w.heap.size + 1, 1, none⟩ = some (.int .i64 s.fr) ∧ w'.cell? ⟨w.heap.size + 1, 2, none⟩ = some (.int .i64 s.to) ∧ w'.cell? ⟨w.heap.size + 1, 3, none⟩ = some (.slice b1 s.segs.length d1) ∧ w'.cell? ⟨w.heap.size + 1, 4, none⟩ = some (.slice b2 s.pats.length d2) ∧ w'.cell? ⟨w.heap.size + 1, 5, none⟩ = some (.slice b3 s.rgns.length d3) ∧ w'.cell? ⟨w.heap.size + 1, 6, none⟩ = some (.int .i64 s.rule)) := fun w' q => ⟨r0 ⟨w', q⟩, r1 ⟨w', q⟩, r2 ⟨w', q⟩, r3 ⟨w', q⟩, r4 ⟨w', q⟩, r5 ⟨w', q⟩, r6 ⟨w', q⟩, u0 ⟨w', q⟩, u1 ⟨w', q⟩, u2 ⟨w', q⟩, u3 ⟨w', q⟩, u4 ⟨w', q⟩, u5 ⟨w', q⟩, u6 ⟨w', q⟩⟩
    have B0 : Hid (Below W0.heap.size W0 y.w.drew) := y.below.drew
    have hds := HLn.out
    have KYe : Hid (∀ w', Below y.w.heap.size y.w w' → Below W0.heap.size W0 w') := fun w' q => y.on q
    have KEy : Hid (∀ w', Below y.w.drew.heap.size y.w.drew w' → w'.cell? ⟨w.heap.size, 0, none⟩ = some (.string r.name) ∧ w'.cell? ⟨w.heap.size, 1, none⟩ = some (.int .i64 r.fr) ∧ w'.cell? ⟨w.heap.size, 2, none⟩ = some (.int .i64 r.to) ∧ w'.cell? ⟨w.heap.size, 3, none⟩ = some (.slice a1 r.segs.length c1) ∧ w'.cell? ⟨w.heap.size, 4, none⟩ = some (.slice a2 r.pats.length c2) ∧ w'.cell? ⟨w.heap.size, 5, none⟩ = some (.slice a3 r.rgns.length c3) ∧ w'.cell? ⟨w.heap.size, 6, none⟩ = some (.int .i64 r.rule) ∧ w'.cell? ⟨w.heap.size + 1, 0, none⟩ = some (.string s.name) ∧ w'.cell? ⟨w.heap.size + 1, 1, none⟩ = some (.int .i64 s.fr) ∧ w'.cell? ⟨w.heap.size + 1, 2, none⟩ = some (.int .i64 s.to) ∧ w'.cell? ⟨w.heap.size + 1, 3, none⟩ = some (.slice b1 s.segs.length d1) ∧ w'.cell? ⟨w.heap.size + 1, 4, none⟩ = some (.slice b2 s.pats.length d2) ∧ w'.cell? ⟨w.heap.size + 1, 5, none⟩ = some (.slice b3 s.rgns.length d3) ∧ w'.cell? ⟨w.heap.size + 1, 6, none⟩ = some (.int .i64 s.rule)) := fun w' q => KE.out w' (y.on ((Below.refl _ _).drew.trans q))
    go_upto_region 5 with fail
    refine wp_region_held_drew (S := (fun V => V.cell? ⟨w.heap.size, 0, none⟩ = some (.string r.name) ∧ V.cell? ⟨w.heap.size, 1, none⟩ = some (.int .i64 r.fr) ∧ V.cell? ⟨w.heap.size, 2, none⟩ = some (.int .i64 r.to) ∧ V.cell? ⟨w.heap.size, 3, none⟩ = some (.slice a1 r.segs.length c1) ∧ V.cell? ⟨w.heap.size, 4, none⟩ = some (.slice a2 r.pats.length c2) ∧ V.cell? ⟨w.heap.size, 5, none⟩ = some (.slice a3 r.rgns.length c3) ∧ V.cell? ⟨w.heap.size, 6, none⟩ = some (.int .i64 r.rule) ∧ V.cell? ⟨w.heap.size + 1, 0, none⟩ = some (.string s.name) ∧ V.cell? ⟨w.heap.size + 1, 1, none⟩ = some (.int .i64 s.fr) ∧ V.cell? ⟨w.heap.size + 1, 2, none⟩ = some (.int .i64 s.to) ∧ V.cell? ⟨w.heap.size + 1, 3, none⟩ = some (.slice b1 s.segs.length d1) ∧ V.cell? ⟨w.heap.size + 1, 4, none⟩ = some (.slice b2 s.pats.length d2) ∧ V.cell? ⟨w.heap.size + 1, 5, none⟩ = some (.slice b3 s.rgns.length d3) ∧ V.cell? ⟨w.heap.size + 1, 6, none⟩ = some (.int .i64 s.rule))) (by kernel_rfl) (KEy.out _ (Below.refl _ _)) (fun hHeld => ?_)
    refine held_take (i := 0) (d := 24) (v := ?_) rfl rfl (by kernel_rfl) (by decide +kernel) (by decide +kernel) (fun _ _ _ h => h) (by rfl) ?_ (by assumption) ?_
    rotate_left
    · intro wq hSw
      obtain ⟨q0, q1, q2, q3, q4, q5, q6, q7, q8, q9, q10, q11, q12, q13⟩ := hSw
      go_simp
      (try rfl)
    simp only [Act.put, List.setIfInBounds_toArray, List.set_cons_zero, List.set_cons_succ]
    refine held_take (i := 1) (d := 25) (v := ?_) rfl rfl (by kernel_rfl) (by decide +kernel) (by decide +kernel) (fun _ _ _ h => h) (by rfl) ?_ (by assumption) ?_
    rotate_left
    · intro wq hSw
      obtain ⟨q0, q1, q2, q3, q4, q5, q6, q7, q8, q9, q10, q11, q12, q13⟩ := hSw
      go_simp
      (try rfl)
    simp only [Act.put, List.setIfInBounds_toArray, List.set_cons_zero, List.set_cons_succ]
    refine held_take (i := 3) (d := 27) (v := ?_) rfl rfl (by kernel_rfl) (by decide +kernel) (by decide +kernel) (fun _ _ _ h => h) (by rfl) ?_ (by assumption) ?_
    rotate_left
    · intro wq hSw
      obtain ⟨q0, q1, q2, q3, q4, q5, q6, q7, q8, q9, q10, q11, q12, q13⟩ := hSw
      go_simp
      (try rfl)
    simp only [Act.put, List.setIfInBounds_toArray, List.set_cons_zero, List.set_cons_succ]
    refine held_take (i := 4) (d := 28) (v := ?_) rfl rfl (by kernel_rfl) (by decide +kernel) (by decide +kernel) (fun _ _ _ h => h) (by rfl) ?_ (by assumption) ?_
    rotate_left
    · intro wq hSw
      obtain ⟨q0, q1, q2, q3, q4, q5, q6, q7, q8, q9, q10, q11, q12, q13⟩ := hSw
      go_simp
      (try rfl)
    simp only [Act.put, List.setIfInBounds_toArray, List.set_cons_zero, List.set_cons_succ]
    refine held_mix (B := y.w.drew) (f := 2) (E := #[true, true, true, true, true, true, true, true, false, false]) (fun _ => []) [] [26, 29, 12, 13] [⟨2, 26, .agg #[.int .i64 xc, .int .i64 xy, .int .i64 xs, .int .i64 xm, .int .i64 xd]⟩, ⟨5, 29, .agg #[.int .i64 zc, .int .i64 zy, .int .i64 zq, .int .i64 zm, .int .i64 zd]⟩] [⟨6, 12, #[.int .i64 0, .int .i64 0, .int .i64 0, .int .i64 0, .int .i64 0], 76⟩, ⟨7, 13, #[.int .i64 0, .int .i64 0, .int .i64 0, .int .i64 0, .int .i64 0], 76⟩] KEy.out (by simp) (by simp) (by simp) (by simp) (by simp) (by simp) (by simp) (by decide +kernel) (fun _ _ _ _ _ h => h) (fun _ _ h => by simp at h) ?call ?make ?fin 4 [2, 5] [6, 7] _ _ _ (fun _ => 0) (by decide +kernel) (by decide) (by decide) (by simp) (by simp) ⟨rfl, rfl, fun _ _ => rfl⟩ (by simp) (by simp) (by simp) (Below.refl _ _)
    case call =>
      intro c hmem _ a' w' K hA hc hb hK
      simp only [List.mem_cons, List.not_mem_nil, or_false] at hmem
      rcases hmem with rfl | rfl
      · refine op_call (args := #[.agg #[.string r.name, .int .i64 r.fr, .int .i64 r.to, .slice a1 r.segs.length c1, .slice a2 r.pats.length c2, .slice a3 r.rgns.length c3, .int .i64 r.rule], .int .i64 n]) (T := fun u w'' => u = (.agg #[.int .i64 xc, .int .i64 xy, .int .i64 xs, .int .i64 xm, .int .i64 xd]) ∧ Below w'.heap.size w' w'') rfl rfl rfl (by rfl) (by simp only [List.map_toArray, List.map_cons, List.map_nil]; rw [hA.eval (j := 24) (by decide), hA.eval (j := 25) (by decide)]; rfl) (enters_of Tryz.func50 (by kernel_rfl) rfl) ((KA1 w' (KYe.out w' ((Below.refl _ _).drew.trans hb))).mono ?_) ?_
        · rintro e V ⟨rfl, h⟩
          exact ⟨_, rfl, rfl, h⟩
        · rintro u w'' ⟨rfl, h⟩
          exact hK _ h
      · refine op_call (args := #[.agg #[.string s.name, .int .i64 s.fr, .int .i64 s.to, .slice b1 s.segs.length d1, .slice b2 s.pats.length d2, .slice b3 s.rgns.length d3, .int .i64 s.rule], .int .i64 n]) (T := fun u w'' => u = (.agg #[.int .i64 zc, .int .i64 zy, .int .i64 zq, .int .i64 zm, .int .i64 zd]) ∧ Below w'.heap.size w' w'') rfl rfl rfl (by rfl) (by simp only [List.map_toArray, List.map_cons, List.map_nil]; rw [hA.eval (j := 27) (by decide), hA.eval (j := 28) (by decide)]; rfl) (enters_of Tryz.func50 (by kernel_rfl) rfl) ((KB1 w' (KYe.out w' ((Below.refl _ _).drew.trans hb))).mono ?_) ?_
        · rintro e V ⟨rfl, h⟩
          exact ⟨_, rfl, rfl, h⟩
        · rintro u w'' ⟨rfl, h⟩
          exact hK _ h
    case make =>
      intro m hm a' w' K hK
      simp only [List.mem_cons, List.not_mem_nil, or_false] at hm
      rcases hm with rfl | rfl
      · exact op_any rfl rfl (by rfl) (by simp [execOp, go_sem]; try rfl) hK
      · exact op_any rfl rfl (by rfl) (by simp [execOp, go_sem]; try rfl) hK
    case fin =>
      intro a' w' p hA hc hm hne hb
      obtain rfl := agree_eq [(26, .agg #[.int .i64 xc, .int .i64 xy, .int .i64 xs, .int .i64 xm, .int .i64 xd]), (29, .agg #[.int .i64 zc, .int .i64 zy, .int .i64 zq, .int .i64 zm, .int .i64 zd]), (12, .pointer (some ⟨p 6, 0, none⟩)), (13, .pointer (some ⟨p 7, 0, none⟩))] hA (by simp) (by simp) (by simp) (by
        have h1 := hc ⟨2, 26, .agg #[.int .i64 xc, .int .i64 xy, .int .i64 xs, .int .i64 xm, .int .i64 xd]⟩ (by simp)
        have h2 := hc ⟨5, 29, .agg #[.int .i64 zc, .int .i64 zy, .int .i64 zq, .int .i64 zm, .int .i64 zd]⟩ (by simp)
        have h3 := (hm ⟨6, 12, #[.int .i64 0, .int .i64 0, .int .i64 0, .int .i64 0, .int .i64 0], 76⟩ (by simp)).1
        have h4 := (hm ⟨7, 13, #[.int .i64 0, .int .i64 0, .int .i64 0, .int .i64 0, .int .i64 0], 76⟩ (by simp)).1
        intro x hx
        simp only [List.mem_cons, List.not_mem_nil, or_false] at hx
        rcases hx with rfl | rfl | rfl | rfl
        · exact h1
        · exact h2
        · exact h3
        · exact h4)
      obtain ⟨_, hP, hPb⟩ := hm ⟨6, 12, #[.int .i64 0, .int .i64 0, .int .i64 0, .int .i64 0, .int .i64 0], 76⟩ (by simp)
      obtain ⟨_, hQ, hQb⟩ := hm ⟨7, 13, #[.int .i64 0, .int .i64 0, .int .i64 0, .int .i64 0, .int .i64 0], 76⟩ (by simp)
      have hpq := hne ⟨6, 12, #[.int .i64 0, .int .i64 0, .int .i64 0, .int .i64 0, .int .i64 0], 76⟩ (by simp) ⟨7, 13, #[.int .i64 0, .int .i64 0, .int .i64 0, .int .i64 0, .int .i64 0], 76⟩ (by simp) (by simp)
      dsimp only at hP hPb hQ hQb hpq
      clear hA hc hm hne
      generalize p 6 = pp at *
      generalize p 7 = qq at *
      simp only [List.foldl_cons, List.foldl_nil, Act.put, List.setIfInBounds_toArray, List.set_cons_zero, List.set_cons_succ]
      obtain ⟨pc0, pc1, pc2, pc3, pc4, pt0, pt1, pt2, pt3, pt4⟩ := five_facts hP
      obtain ⟨V1, hV1⟩ : ∃ V1, V1 = put5 w' pp (.int .i64 xc) (.int .i64 xy) (.int .i64 xs) (.int .i64 xm) (.int .i64 xd) := ⟨_, rfl⟩
      have P1 : Blk V1 pp #[.int .i64 xc, .int .i64 xy, .int .i64 xs, .int .i64 xm, .int .i64 xd] 76 := by rw [hV1]; exact blk_put5 hP
      have Q1 : Blk V1 qq #[.int .i64 0, .int .i64 0, .int .i64 0, .int .i64 0, .int .i64 0] 76 := by rw [hV1]; exact blk_put5' hQ hpq
      have b1 : Below y.w.drew.heap.size y.w.drew V1 := by rw [hV1]; exact below_put5 hb hPb
      refine held_one (i := 8) (by decide +kernel) (op_skip (w' := V1) rfl rfl (by rfl) (by rw [hV1]; simp [execOp, go_sem, pc0, pc1, pc2, pc3, pc4, pt0, pt1, pt2, pt3, pt4, put5]) ?_)
      refine ⟨KEy.out _ b1, ?_⟩
      clear hV1 pc0 pc1 pc2 pc3 pc4 pt0 pt1 pt2 pt3 pt4
      obtain ⟨pc0, pc1, pc2, pc3, pc4, pt0, pt1, pt2, pt3, pt4⟩ := five_facts Q1
      obtain ⟨V2, hV2⟩ : ∃ V2, V2 = put5 V1 qq (.int .i64 zc) (.int .i64 zy) (.int .i64 zq) (.int .i64 zm) (.int .i64 zd) := ⟨_, rfl⟩
      have P2 : Blk V2 pp #[.int .i64 xc, .int .i64 xy, .int .i64 xs, .int .i64 xm, .int .i64 xd] 76 := by rw [hV2]; exact blk_put5' P1 hpq.symm
      have Q2 : Blk V2 qq #[.int .i64 zc, .int .i64 zy, .int .i64 zq, .int .i64 zm, .int .i64 zd] 76 := by rw [hV2]; exact blk_put5 Q1
      have b2 : Below y.w.drew.heap.size y.w.drew V2 := by rw [hV2]; exact below_put5 b1 hQb
      refine held_one (i := 9) (by decide +kernel) (op_skip (w' := V2) rfl rfl (by rfl) (by rw [hV2]; simp [execOp, go_sem, pc0, pc1, pc2, pc3, pc4, pt0, pt1, pt2, pt3, pt4, put5]) ?_)
      refine ⟨KEy.out _ b2, ?_⟩
      have Z2 := hideP (Z.out.later ((Below.refl _ _).drew.trans b2))
      clear hV2 pc0 pc1 pc2 pc3 pc4 pt0 pt1 pt2 pt3 pt4 hP hQ P1 Q1 b1 hb hPb hQb hpq
      refine wpAnyH_done (by decide +kernel) ?_ _
      obtain ⟨a0', a1', a2', a3', a4', _⟩ := five_facts P2
      obtain ⟨z0', z1', z2', z3', z4', _⟩ := five_facts Q2
      clear P2 Q2 b2 KEy KYe B0 KE hHeld
      have HPn : Hid (pn = likeB ⟨xc, xy, xs, xm, xd⟩ ⟨zc, zy, zq, zm, zd⟩) := HPk.out
      unfold likeB at HPn
      dsimp only at HPn
      clear HPk KA1 KB1
      have HX : Hid (pn = true → (ds.take (k + 1)).filter P = (ds.take k).filter P ++ [n]) := fun q => by rw [HT.out, q]; rfl
      have HY : Hid (pn = false → (ds.take (k + 1)).filter P = (ds.take k).filter P) := fun q => by rw [HT.out, q]; rfl
      clear HT
      generalize hfl : (ds.take k).filter P = fl at *
      have HFL := hideP hfl
      clear hfl
      by_cases c1 : xm = zm
      case neg =>
        have c1' : (xm == zm) = false := by simpa using c1
        have HD := hideP (HY.out (by rw [HPn.out]; simp [*]))
        clear HPn HX HY
        go_wp2
        exact ⟨⟨k + 1, by omega, by apply congrArg (Value.int .i64); omega, by rw [HD.out]; exact Z2.out⟩, by simp [intOf]; omega⟩
      by_cases c2 : xd = zd
      case neg =>
        have c2' : (xd == zd) = false := by simpa using c2
        have c1' : (xm == zm) = true := by simpa using c1
        have HD := hideP (HY.out (by rw [HPn.out]; simp [*]))
        clear HPn HX HY
        go_wp2
        exact ⟨⟨k + 1, by omega, by apply congrArg (Value.int .i64); omega, by rw [HD.out]; exact Z2.out⟩, by simp [intOf]; omega⟩
      by_cases c3 : xy = zy
      case neg =>
        have c3' : (xy == zy) = false := by simpa using c3
        have c1' : (xm == zm) = true := by simpa using c1
        have c2' : (xd == zd) = true := by simpa using c2
        have HD := hideP (HY.out (by rw [HPn.out]; simp [*]))
        clear HPn HX HY
        go_wp2
        exact ⟨⟨k + 1, by omega, by apply congrArg (Value.int .i64); omega, by rw [HD.out]; exact Z2.out⟩, by simp [intOf]; omega⟩
      have c1' : (xm == zm) = true := by simpa using c1
      have c2' : (xd == zd) = true := by simpa using c2
      have c3' : (xy == zy) = true := by simpa using c3
      have HD := hideP (HX.out (by rw [HPn.out, c1', c2', c3']; rfl))
      clear HPn HX HY c1 c2 c3
      go_wp2_with (at_builtin; refine wpList_append_own _ rfl _ _ 50 rfl x1.w.heap.size 3 i0 (.int .i64 0) 1 8 Tryz.underlying50 hi hz0 hz1 hz2 rfl (by decide) _ _ _ rfl (Z2.out.row.alloc _) ⟨V2.heap.size, 0, none⟩ 1 1 [.int .i64 n] rfl rfl (cell_one_new _ _ _) (by simp [Value.oneCell']) (by unfold maxLen; omega) (by omega) (by have := Z2.out.below.size; rw [inew]; omega) ?_; intro v' w9 hown' hgrow _)
      exact ⟨⟨k + 1, by omega, by apply congrArg (Value.int .i64); omega, by rw [HD.out]; exact Z2.out.app n hown' hgrow⟩, by simp [intOf]; omega⟩
end Go.Proofs.YtdgolaaheakfoaaGreatDoor.ctr
namespace Go.Proofs.YtdgolaaheakfoaaGreatDoor.ctr
open Go.RowKit
set_option maxHeartbeats 2000000 in
theorem markSegz (g cap n z : Nat) (w : World) (hn : n ≤ 1048576) (hz : z ≤ 20000000) (ho : OwnC w g (n * 5)) :
    Calls Tryz.prog 51 #[.slice (some ⟨g, 0, none⟩) n cap, .int .i64 (z : Int)] w fun e w' => e = .returned (.int .i64 ((z + n * 5 : Nat) : Int)) ∧ w.grownBy w' (some g) ∧ OwnC w' g (n * 5) := by
  have HO := hideP ho
  clear ho
  go_enter Tryz.func51, Tryz.ntmps51
  go_wp2
  go_loopw [1, 5] (fun t i wr => ∃ k : Nat, k ≤ n ∧ i = .int .i64 (k : Int) ∧ t = .int .i64 ((z + k * 5 : Nat) : Int) ∧ w.grownBy wr (some g) ∧ OwnC wr g (n * 5)) (fun _ i _ => n - (intOf i).toNat)
  case atStart => exact ⟨0, Nat.zero_le _, rfl, rfl, ⟨rfl, rfl, rfl, Nat.le_refl _, fun _ _ _ => rfl⟩, HO.out⟩
  case round =>
    obtain ⟨k, hk, rfl, rfl, hG, hOw⟩ := hrel
    have HG := hideP hG
    have HW := hideP hOw
    clear hG hOw
    by_cases hlt : k < n
    · obtain ⟨⟨u0, h0⟩, f0⟩ := HW.out (k * 5) (by omega)
      obtain ⟨⟨u1, h1⟩, f1⟩ := HW.out (k * 5 + 1) (by omega)
      obtain ⟨⟨u2, h2⟩, f2⟩ := HW.out (k * 5 + 2) (by omega)
      obtain ⟨⟨u3, h3⟩, f3⟩ := HW.out (k * 5 + 3) (by omega)
      obtain ⟨⟨u4, h4⟩, f4⟩ := HW.out (k * 5 + 4) (by omega)
      go_wp2
      exact ⟨⟨k + 1, by omega, by go_num, by apply congrArg (Value.int .i64); omega, grown_two HG.out (grown_two (grown_two (grown_two (grown_two (grown_set _ _ _ _) (grown_set _ _ _ _)) (grown_set _ _ _ _)) (grown_set _ _ _ _)) (grown_set _ _ _ _)), ownC_set (ownC_set (ownC_set (ownC_set (ownC_set HW.out _ _) _ _) _ _) _ _) _ _⟩, by simp [intOf]; omega⟩
    · have hkn : k = n := by omega
      subst hkn
      go_wp2
      go_ret
      exact ⟨rfl, HG.out, HW.out⟩
set_option maxHeartbeats 2000000 in
theorem markRegimeZ0 (z0 : Nat) (hz0 : 0 < z0) (hzu : z0 ≤ 11534337) (nm : ByteArray) (f t ru : Int) (s1 s3 s5 n1 n2 n3 : Nat) (w : World) (hn1 : n1 ≤ 1048576) (hn2 : n2 ≤ 1048576) (hn3 : n3 ≤ 1048576) (b1 : s1 < w.heap.size) (b3 : s3 < w.heap.size) (b5 : s5 < w.heap.size) (o1 : OwnC w s1 (n1 * 5)) (o3 : OwnC w s3 (n2 * 3)) (o5 : OwnC w s5 (n3 * 3)) (e31 : s3 = s1 → n2 * 3 ≤ n1 * 5) (e51 : s5 = s1 → n3 * 3 ≤ n1 * 5) (e53 : s5 = s3 → n3 * 3 ≤ n2 * 3) :
    Calls Tryz.prog 17 #[.agg #[.string nm, .int .i64 f, .int .i64 t, .slice (some ⟨s1, 0, none⟩) n1 n1, .slice (some ⟨s3, 0, none⟩) n2 n2, .slice (some ⟨s5, 0, none⟩) n3 n3, .int .i64 ru], .int .i64 (z0 : Int)] w fun e w' => ∃ z : Nat, e = .returned (.int .i64 (z : Int)) ∧ (0 < z ∧ z ≤ z0 + 11534336) ∧ Kp (fun k => k = s1 ∨ k = s3 ∨ k = s5) w w' := by
  obtain ⟨W0, hW0, d0, d1, d2, d3, d4, d5, d6, hBl⟩ := seven_box w (.string nm) (.int .i64 f) (.int .i64 t) (.slice (some ⟨s1, 0, none⟩) n1 n1) (.slice (some ⟨s3, 0, none⟩) n2 n2) (.slice (some ⟨s5, 0, none⟩) n3 n3) (.int .i64 ru) 40
  have hb0 := hBl ⟨W0, Below.refl _ _⟩
  have hzw : w.heap.size < W0.heap.size := by rw [hW0]; simp
  have hs0 := hb0.size
  have c4 : W0.cell? ⟨w.heap.size, 4, none⟩ = some (.slice (some ⟨s3, 0, none⟩) n2 n2) := d4 ⟨W0, Below.refl _ _⟩
  have c5 : W0.cell? ⟨w.heap.size, 5, none⟩ = some (.slice (some ⟨s5, 0, none⟩) n3 n3) := d5 ⟨W0, Below.refl _ _⟩
  have K1 := hideP (markSegz s1 n1 n1 z0 W0 hn1 (by omega) (ownC_below o1 hb0 b1))
  have O3 := hideP (ownC_below o3 hb0 b3)
  have O5 := hideP (ownC_below o5 hb0 b5)
  have P0 : Hid (Kp (fun k => k = s1 ∨ k = s3 ∨ k = s5) w W0) := (Kp.refl _ w).later hb0
  have HW0 := hideP hW0
  have HC4 := hideP c4
  have HC5 := hideP c5
  clear hW0 d0 d1 d2 d3 d4 d5 d6 hBl hb0 o1 o3 o5 c4 c5
  go_enter Tryz.func17, Tryz.ntmps17
  go_wp2_with fail
  rw [← HW0.out]
  refine K1.out.mono ?_
  rintro e w1 ⟨rfl, hM, hO⟩
  have G1 := hideP hM
  have P1 := hideP (P0.out.grown G1.out (.inl rfl))
  have c4 : w1.cell? ⟨w.heap.size, 4, none⟩ = some (.slice (some ⟨s3, 0, none⟩) n2 n2) := (World.cell?_of_block (a := ⟨w.heap.size, 4, none⟩) (G1.out.block w.heap.size hzw (fun e => by cases e; omega))).trans HC4.out
  have HC5' : Hid (w1.cell? ⟨w.heap.size, 5, none⟩ = some (.slice (some ⟨s5, 0, none⟩) n3 n3)) := (World.cell?_of_block (a := ⟨w.heap.size, 5, none⟩) (G1.out.block w.heap.size hzw (fun e => by cases e; omega))).trans HC5.out
  have K3 := hideP (markPats s3 n2 n2 (z0 + n1 * 5) w1 hn2 (by omega) (ownC_any O3.out G1.out (by omega) hO e31))
  have O5' := hideP (ownC_any O5.out G1.out (by omega) hO e51)
  have hs1 := G1.out.size
  clear hM hO
  go_wp2_with fail
  first | refine K3.out.mono ?_ | (rw [show ((z0 : Int) + (n1 : Int) * 5) = ((z0 + n1 * 5 : Nat) : Int) from by omega]; refine K3.out.mono ?_)
  rintro e w2 ⟨rfl, g2, g4⟩
  have G2 := hideP g2
  have P2 := hideP (P1.out.grown G2.out (.inr (.inl rfl)))
  have c5 : w2.cell? ⟨w.heap.size, 5, none⟩ = some (.slice (some ⟨s5, 0, none⟩) n3 n3) := (World.cell?_of_block (a := ⟨w.heap.size, 5, none⟩) (G2.out.block w.heap.size (by omega) (fun e => by cases e; omega))).trans HC5'.out
  have hs2 := G2.out.size
  have K5 := hideP (markRgnz s5 n3 n3 (z0 + n1 * 5 + n2 * 3) w2 hn3 (by omega) (by omega) (by omega) (ownC_any O5'.out G2.out (by omega) g4 e53))
  clear g2 g4 c4
  go_wp2_with fail
  first | refine K5.out.mono ?_ | (rw [show ((z0 : Int) + (n1 : Int) * 5 + (n2 : Int) * 3) = ((z0 + n1 * 5 + n2 * 3 : Nat) : Int) from by omega]; refine K5.out.mono ?_)
  rintro e w3 ⟨rfl, g3⟩
  have P3 := hideP (P2.out.grown g3 (.inr (.inr rfl)))
  clear g3
  go_wp2_with fail
  go_ret
  exact ⟨z0 + n1 * 5 + n2 * 3 + n3 * 3, rfl, ⟨by omega, by omega⟩, P3.out⟩
theorem markRegimeZ (z0 : Nat) (hz0 : 0 < z0) (hzu : z0 ≤ 11534337) (r : Rgm) (s1 s3 s5 : Nat) (t1 t3 t5 : TypeId) (w : World) (ho : GOk r) (k1 : Blk w s1 (iA segK r.segs) t1) (k3 : Blk w s3 (iA patK r.pats) t3) (k5 : Blk w s5 (rA r.rgns) t5) :
    Calls Tryz.prog 17 #[.agg #[.string r.name, .int .i64 r.fr, .int .i64 r.to, .slice (some ⟨s1, 0, none⟩) r.segs.length r.segs.length, .slice (some ⟨s3, 0, none⟩) r.pats.length r.pats.length, .slice (some ⟨s5, 0, none⟩) r.rgns.length r.rgns.length, .int .i64 r.rule], .int .i64 (z0 : Int)] w fun e w' => ∃ z : Nat, e = .returned (.int .i64 (z : Int)) ∧ (0 < z ∧ z ≤ z0 + 11534336) ∧ Kp (fun k => k = s1 ∨ k = s3 ∨ k = s5) w w' := by
  have z1 : (iA segK r.segs).size = r.segs.length * 5 := iA_size _
  have z3 : (iA patK r.pats).size = r.pats.length * 3 := iA_size _
  have z5 := rA_size r.rgns
  refine markRegimeZ0 z0 hz0 hzu _ _ _ _ s1 s3 s5 _ _ _ w ho.2.1 ho.2.2.1 ?_ k1.lt k3.lt k5.lt (ownC_of k1 (by omega)) (ownC_of k3 (by omega)) (ownC_of k5 (by omega)) (fun e => ?_) (fun e => ?_) (fun e => ?_)
  · exact ho.2.2.2.1
  · subst e; have := blk_size k1 k3; omega
  · subst e; have := blk_size k1 k5; omega
  · subst e; have := blk_size k3 k5; omega
end Go.Proofs.YtdgolaaheakfoaaGreatDoor.ctr
namespace Go.Proofs.YtdgolaaheakfoaaGreatDoor.ctr
open Go.RowKit
noncomputable def shB (r : Rgm) (n : Int) : Bool := decide ((regimeB r = true ∧ r.fr ≤ n ∧ n ≤ r.to) ∧ dateOk 1 (rdgOn r n).sol (rdgOn r n).mon (rdgOn r n).day = true)
noncomputable def shI (r : Rgm) (n : Int) : Int := if shB r n = true then dayOf 1 (rdgOn r n).sol (rdgOn r n).mon (rdgOn r n).day - n else 0
theorem shift_eq (r : Rgm) (n : Int) : shiftR r n = .tuple #[.int .i64 (shI r n), .bool (shB r n)] := by
  unfold shiftR shI shB
  by_cases h : (regimeB r = true ∧ r.fr ≤ n ∧ n ≤ r.to) ∧ dateOk 1 (rdgOn r n).sol (rdgOn r n).mon (rdgOn r n).day = true
  · rw [if_pos h, decide_eq_true h, if_pos rfl]
  · rw [if_neg h, decide_eq_false h, if_neg (by simp)]
noncomputable def runB (r s : Rgm) (n : Int) : Bool := shB r n && shB s n
noncomputable def runQ (r s : Rgm) (n : Int) : Qd := ⟨n, n, shI r n, shI s n⟩
def joinB (p q : Qd) : Bool := q.a == p.b + 1 && (q.c == p.c && q.d == p.d)
def joinQ (p q : Qd) : Qd := ⟨p.a, q.b, p.c, p.d⟩
def runStep (L : List Qd) (q : Qd) : List Qd := if 0 < L.length ∧ joinB (L.getD (L.length - 1) ⟨0, 0, 0, 0⟩) q = true then L.set (L.length - 1) (joinQ (L.getD (L.length - 1) ⟨0, 0, 0, 0⟩) q) else L ++ [q]
theorem step_join {L : List Qd} {q : Qd} (h0 : 0 < L.length) (h : joinB (L.getD (L.length - 1) ⟨0, 0, 0, 0⟩) q = true) : runStep L q = L.set (L.length - 1) (joinQ (L.getD (L.length - 1) ⟨0, 0, 0, 0⟩) q) := by unfold runStep; rw [if_pos ⟨h0, h⟩]
theorem step_new {L : List Qd} {q : Qd} (h : 0 < L.length → joinB (L.getD (L.length - 1) ⟨0, 0, 0, 0⟩) q = false) : runStep L q = L ++ [q] := by
  unfold runStep
  rw [if_neg]
  rintro ⟨h0, h1⟩
  rw [h h0] at h1
  cases h1
def foldQ (l : List Qd) : List Qd := l.foldl runStep []
theorem foldQ_snoc (l : List Qd) (q : Qd) : foldQ (l ++ [q]) = runStep (foldQ l) q := by unfold foldQ; rw [List.foldl_append]; rfl
theorem step_len (L : List Qd) (q : Qd) : (runStep L q).length ≤ L.length + 1 := by
  unfold runStep
  split
  · rw [List.length_set]; exact Nat.le_succ _
  · simp
theorem snoc_ind {α : Type} {P : List α → Prop} (nil : P []) (snoc : ∀ l q, P l → P (l ++ [q])) (l : List α) : P l := by
  have h : ∀ m : List α, P m.reverse := by
    intro m
    induction m with
    | nil => exact nil
    | cons q m ih => rw [List.reverse_cons]; exact snoc _ _ ih
  rw [← List.reverse_reverse l]
  exact h _
theorem foldQ_len (l : List Qd) : (foldQ l).length ≤ l.length := by
  induction l using snoc_ind with
  | nil => exact Nat.le_refl _
  | snoc l q ih =>
    rw [foldQ_snoc, List.length_append]
    exact Nat.le_trans (step_len _ _) (by simpa using ih)
def EndsIn (a b : Int) (L : List Qd) : Prop := ∀ p ∈ L, a ≤ p.b ∧ p.b ≤ b
theorem step_ends {a b : Int} {L : List Qd} {q : Qd} (h : EndsIn a b L) (hq : a ≤ q.b ∧ q.b ≤ b) : EndsIn a b (runStep L q) := by
  unfold runStep
  split
  · intro p hp
    rcases List.mem_or_eq_of_mem_set hp with h1 | rfl
    · exact h p h1
    · exact hq
  · intro p hp
    rcases List.mem_append.1 hp with h1 | h1
    · exact h p h1
    · rw [List.mem_singleton.1 h1]; exact hq
theorem last_ends {a b : Int} {L : List Qd} (h : EndsIn a b L) (h0 : 0 < L.length) : a ≤ (L.getD (L.length - 1) ⟨0, 0, 0, 0⟩).b ∧ (L.getD (L.length - 1) ⟨0, 0, 0, 0⟩).b ≤ b := by
  have hl : L.length - 1 < L.length := by omega
  refine h _ ?_
  rw [List.getD, List.getElem?_eq_getElem hl]
  exact List.getElem_mem hl
noncomputable def runsL (r s : Rgm) (f t : Int) : List Qd := if regimeB r = true ∧ regimeB s = true ∧ spanB f t = true then foldQ ((daysWhere f t (runB r s)).map (runQ r s)) else []
theorem run_days (r s : Rgm) (f t : Int) : foldQ (((sharedL r s f t).filter (runB r s)).map (runQ r s)) = runsL r s f t := by
  have hS := shared_set r s f t
  unfold runsL
  by_cases h : regimeB r = true ∧ regimeB s = true ∧ spanB f t = true
  · rw [if_pos h]
    congr 2
    refine DSet.eq (P := fun z => z ∈ (sharedL r s f t).filter (runB r s)) ⟨List.Pairwise.filter _ hS.1, fun z => Iff.rfl⟩ ((daysWhere_set f t (runB r s)).imp (fun z => ?_))
    rw [List.mem_filter, hS.2]
    refine ⟨fun q => ⟨⟨h, q.1, q.2.1, ?_⟩, q.2.2⟩, fun q => ⟨q.1.2.1, q.1.2.2.1, q.2⟩⟩
    have k := q.2.2
    unfold runB shB at k
    simp only [Bool.and_eq_true, decide_eq_true_eq] at k
    exact ⟨k.1.1.2.1, k.1.1.2.2, k.2.1.2.1, k.2.1.2.2⟩
  · rw [if_neg h]
    have : (sharedL r s f t).filter (runB r s) = [] := List.filter_eq_nil_iff.2 (fun z hz => absurd ((hS.2 z).1 hz).1 h)
    rw [this]
    rfl
theorem runs_len (r s : Rgm) (f t : Int) : (runsL r s f t).length ≤ 1000 := by
  rw [← run_days]
  refine Nat.le_trans (foldQ_len _) ?_
  rw [List.length_map]
  exact Nat.le_trans (List.length_filter_le ..) (shared_len r s f t)
def put4 (w : World) (g k : Nat) (x : Qd) : World := (((w.setCell ⟨g, k * 4, none⟩ (.int .i64 x.a)).setCell ⟨g, k * 4 + 1, none⟩ (.int .i64 x.b)).setCell ⟨g, k * 4 + 2, none⟩ (.int .i64 x.c)).setCell ⟨g, k * 4 + 3, none⟩ (.int .i64 x.d)
theorem set_past {α : Type} (l m : List α) (k : Nat) (v : α) : (l ++ m).set (l.length + k) v = l ++ m.set k v := by
  rw [List.set_append_right _ _ (by omega)]
  congr 2
  omega
theorem icells_set : ∀ (L : List Qd) (k : Nat) (x : Qd), k < L.length → icells qdK (L.set k x) = ((((icells qdK L).set (k * 4) (.int .i64 x.a)).set (k * 4 + 1) (.int .i64 x.b)).set (k * 4 + 2) (.int .i64 x.c)).set (k * 4 + 3) (.int .i64 x.d)
  | [], k, x, h => by simp at h
  | p :: L, 0, x, _ => rfl
  | p :: L, k + 1, x, h => by
    have ih := icells_set L k x (by simpa using h)
    have hl : (icell qdK p).length = 4 := rfl
    rw [List.set_cons_succ, icells, icells, ih, show (k + 1) * 4 = (icell qdK p).length + k * 4 by rw [hl]; omega, set_past, Nat.add_assoc, set_past, Nat.add_assoc, set_past, Nat.add_assoc, set_past]
theorem QSt.at {ty : TypeId} {w : World} {g n cap : Nat} {xs : List Qd} {W : World} (h : QSt ty w (.slice (some ⟨g, 0, none⟩) n cap) xs W) : w.heap.size ≤ g ∧ ∃ cur, W.heap[g]? = some (.cells cur ty) ∧ xs.length ≤ cap ∧ cap ≤ maxLen ∧ cur.size = cap * 4 ∧ cur.toList.take (xs.length * 4) = icells qdK xs := by
  rcases h.row.2 with ⟨hv, _⟩ | ⟨g', cap', cur, hv, hg, hh, h1, h2, h3, h4⟩
  · cases hv
  · cases hv
    exact ⟨hg, cur, hh, h1, h2, h3, h4⟩
theorem QSt.val {ty : TypeId} {w : World} {o : Value} {xs : List Qd} {W : World} (h : QSt ty w o xs W) : ∃ ad cap, o = .slice ad xs.length cap := by
  rcases h.row.2 with ⟨hv, h0⟩ | ⟨g, cap, cur, hv, _⟩
  · exact ⟨none, 0, by rw [hv, h0]⟩
  · exact ⟨_, cap, hv⟩
theorem QSt.form {ty : TypeId} {w : World} {o : Value} {xs : List Qd} {W : World} (h : QSt ty w o xs W) (h0 : 0 < xs.length) : ∃ g cap, o = .slice (some ⟨g, 0, none⟩) xs.length cap := by
  rcases h.row.2 with ⟨_, h1⟩ | ⟨g, cap, cur, hv, _⟩
  · omega
  · exact ⟨g, cap, hv⟩
theorem info_run : (Tryz.prog.info? 103).map (fun i => (i.zero, i.size, i.bytes)) = some (some (.agg #[.int .i64 0, .int .i64 0, .int .i64 0, .int .i64 0]), 4, 32) := by kernel_rfl
theorem QSt.cellA {ty : TypeId} {w : World} {g n cap : Nat} {xs : List Qd} {W : World} (h : QSt ty w (.slice (some ⟨g, 0, none⟩) n cap) xs W) {k : Nat} (hk : k < xs.length) : IAt qdK W g k (atK qdK xs k) ∧ ∀ j, W.frozen? ⟨g, j, none⟩ = false := by
  obtain ⟨_, cur, hh, _, _, hs, ht⟩ := h.at
  refine ⟨fun j z e => ?_, fun j => by simp [World.frozen?, hh]⟩
  have hj : j < 4 := by have := (List.getElem?_eq_some_iff.1 e).1; simpa [qdK] using this
  have h1 : (icells qdK xs)[k * 4 + j]? = some (.int .i64 z) := icells_at xs k j z hk e
  rw [← ht, List.getElem?_take, if_pos (by omega)] at h1
  have h2 : cur[k * 4 + j]? = some (.int .i64 z) := by rw [← h1]; simp
  show W.cell? ⟨g, k * 4 + j, none⟩ = _
  simp [World.cell?, hh, h2]
theorem QSt.set {ty : TypeId} {w : World} {g n cap : Nat} {xs : List Qd} {W : World} (h : QSt ty w (.slice (some ⟨g, 0, none⟩) n cap) xs W) {k : Nat} (hk : k < xs.length) (x : Qd) : QSt ty w (.slice (some ⟨g, 0, none⟩) n cap) (xs.set k x) (put4 W g k x) := by
  obtain ⟨hg, cur, hh, h1, h2, h3, h4⟩ := h.at
  have hn : n = xs.length := by
    rcases h.row.2 with ⟨hv, _⟩ | ⟨g', cap', cur', hv, _⟩
    · cases hv
    · cases hv; rfl
  have hB : Blk W g cur ty := hh
  have hB' : Blk (put4 W g k x) g ((((cur.setIfInBounds (k * 4) (.int .i64 x.a)).setIfInBounds (k * 4 + 1) (.int .i64 x.b)).setIfInBounds (k * 4 + 2) (.int .i64 x.c)).setIfInBounds (k * 4 + 3) (.int .i64 x.d)) ty := (((hB.set _ _).set _ _).set _ _).set _ _
  refine ⟨⟨?_, .inr ⟨g, cap, _, by rw [List.length_set, hn], hg, hB', by rw [List.length_set]; exact h1, h2, by simp [h3], ?_⟩⟩, below_store (below_store (below_store (below_store h.below _ hg) _ hg) _ hg) _ hg⟩
  · rw [icells_len, List.length_set]
    rfl
  · rw [List.length_set, icells_set xs k x hk, ← h4]
    simp only [Array.toList_setIfInBounds, List.take_set]
theorem icells_setB : ∀ (L : List Qd) (k : Nat) (z : Int), k < L.length → icells qdK (L.set k ⟨(L.getD k ⟨0, 0, 0, 0⟩).a, z, (L.getD k ⟨0, 0, 0, 0⟩).c, (L.getD k ⟨0, 0, 0, 0⟩).d⟩) = (icells qdK L).set (k * 4 + 1) (.int .i64 z)
  | [], k, z, h => by simp at h
  | p :: L, 0, z, _ => rfl
  | p :: L, k + 1, z, h => by
    have ih := icells_setB L k z (by simpa using h)
    have hl : (icell qdK p).length = 4 := rfl
    rw [List.set_cons_succ, icells, icells, List.getD_cons_succ, ih, show (k + 1) * 4 + 1 = (icell qdK p).length + (k * 4 + 1) by rw [hl]; omega, set_past]
theorem QSt.setB {ty : TypeId} {w : World} {g n cap : Nat} {xs : List Qd} {W : World} (h : QSt ty w (.slice (some ⟨g, 0, none⟩) n cap) xs W) {k : Nat} (hk : k < xs.length) (z : Int) : QSt ty w (.slice (some ⟨g, 0, none⟩) n cap) (xs.set k ⟨(xs.getD k ⟨0, 0, 0, 0⟩).a, z, (xs.getD k ⟨0, 0, 0, 0⟩).c, (xs.getD k ⟨0, 0, 0, 0⟩).d⟩) (W.setCell ⟨g, k * 4 + 1, none⟩ (.int .i64 z)) := by
  obtain ⟨hg, cur, hh, h1, h2, h3, h4⟩ := h.at
  have hn : n = xs.length := by
    rcases h.row.2 with ⟨hv, _⟩ | ⟨g', cap', cur', hv, _⟩
    · cases hv
    · cases hv; rfl
  have hB : Blk W g cur ty := hh
  have hB' : Blk (W.setCell ⟨g, k * 4 + 1, none⟩ (.int .i64 z)) g (cur.setIfInBounds (k * 4 + 1) (.int .i64 z)) ty := hB.set _ _
  refine ⟨⟨?_, .inr ⟨g, cap, _, by rw [List.length_set, hn], hg, hB', by rw [List.length_set]; exact h1, h2, by simp [h3], ?_⟩⟩, below_store h.below _ hg⟩
  · rw [icells_len, List.length_set]
    rfl
  · rw [List.length_set, icells_setB xs k z hk, ← h4]
    simp only [Array.toList_setIfInBounds, List.take_set]
end Go.Proofs.YtdgolaaheakfoaaGreatDoor.ctr
