/- The program's Concord: the runs of days that two regimes have with one shift each, in a row of their own. Contracts of the laws' helpers over lists of runs (eqRun, eqRunS, markRunS, heldRunS): two lists alike are told alike; marks are written into a list's own row, and found there again; nothing else turns. -/
import Derived.Test.YtdgolaaheakfoaaGreatDoorJnRbk
import Derived.Test.YtdgolaaheakfoaaGreatDoorJnRbm
import Derived.Deep.DeepCutAuto
import Derived.Test.YtdgolaaheakfoaaGreatDoorJnRbh
import Derived.Deep.RegionWith
namespace Go.Proofs.YtdgolaaheakfoaaGreatDoor.ctr
open Go.RowKit
set_option maxRecDepth 100000 in
set_option maxHeartbeats 8000000 in
theorem implConcord (v u : Value) (r s : Rgm) (f t : Int) (a : Addr) (w : World) (h : GRow w v r) (g : GRow w u s) (ht : r.to ≤ 9223372036854775807) (gt : s.to ≤ 9223372036854775807) (hE : ErrT w) (hT : Tab w) (hS : Sent w a) : Calls Tryz.prog 26 #[v, u, .int .i64 f, .int .i64 t] w fun e w' => ∃ o, e = .returned o ∧ QMov w w' o (runsL r s f t) ∧ Below w.heap.size w w' := by
  obtain ⟨i0, hi, hz0, hz1, hz2⟩ := info_parts info_run
  have hG := h
  have hU := g
  obtain ⟨a1, c1, a2, c2, a3, c3, rfl⟩ := h.parts
  obtain ⟨b1, d1, b2, d2, b3, d3, rfl⟩ := g.parts
  obtain ⟨W0, e0, HR, HZ, HB⟩ := boxR w #[.string r.name, .int .i64 r.fr, .int .i64 r.to, .slice a1 r.segs.length c1, .slice a2 r.pats.length c2, .slice a3 r.rgns.length c3, .int .i64 r.rule] 40 #[.string s.name, .int .i64 s.fr, .int .i64 s.to, .slice b1 s.segs.length d1, .slice b2 s.pats.length d2, .slice b3 s.rgns.length d3, .int .i64 s.rule] 40
  obtain ⟨r0, r1, r2, r3, r4, r5, r6⟩ := sevenL HR.out
  obtain ⟨u0, u1, u2, u3, u4, u5, u6⟩ := sevenL HZ.out
  have E0 := hideP e0
  have KP : ∀ y : Later W0, Calls Tryz.prog 49 #[.agg #[.string r.name, .int .i64 r.fr, .int .i64 r.to, .slice a1 r.segs.length c1, .slice a2 r.pats.length c2, .slice a3 r.rgns.length c3, .int .i64 r.rule], .agg #[.string s.name, .int .i64 s.fr, .int .i64 s.to, .slice b1 s.segs.length d1, .slice b2 s.pats.length d2, .slice b3 s.rgns.length d3, .int .i64 s.rule], .int .i64 f, .int .i64 t] y.w fun e w' => ∃ o, e = .returned o ∧ ISt y.w o (sharedL r s f t) w' := fun y => implSharedDays _ _ r s f t a y.w (hG.below (HB.out y)) (hU.below (HB.out y)) ht gt (hE.below (HB.out y)) (hT.later (HB.out y)) (hS.later (HB.out y))
  have KA : Hid (∀ n, n ∈ sharedL r s f t → ∀ W, Below W0.heap.size W0 W → Calls Tryz.prog 64 #[.agg #[.string r.name, .int .i64 r.fr, .int .i64 r.to, .slice a1 r.segs.length c1, .slice a2 r.pats.length c2, .slice a3 r.rgns.length c3, .int .i64 r.rule], .agg #[.string s.name, .int .i64 s.fr, .int .i64 s.to, .slice b1 s.segs.length d1, .slice b2 s.pats.length d2, .slice b3 s.rgns.length d3, .int .i64 s.rule], .int .i64 n] W fun e w' => e = .returned (.tuple #[qdV (runQ r s n), .bool (runB r s n)]) ∧ Below W.heap.size W w') := fun n q W hb => by
    have q := ((shared_set r s f t).2 n).1 q
    exact implRunOn _ _ r s n W (hG.below (HB.out ⟨W, hb⟩)) (hU.below (HB.out ⟨W, hb⟩)) q.1.1 q.1.2.1 q.2.2.2.1 q.2.2.2.2.1 q.2.2.2.2.2.1 q.2.2.2.2.2.2 (hT.later (HB.out ⟨W, hb⟩))
  have HDay : Hid (∀ n, n ∈ sharedL r s f t → 400 ≤ n ∧ n ≤ 1090000) := fun n q => by
    have q := ((shared_set r s f t).2 n).1 q
    have := span_nums q.1.2.2
    omega
  have HB0 : Hid (Below w.heap.size w W0) := HB.out ⟨W0, Below.refl _ _⟩
  have HF : Hid (foldQ (((sharedL r s f t).filter (runB r s)).map (runQ r s)) = runsL r s f t) := run_days r s f t
  have HLn : Hid ((sharedL r s f t).length ≤ 1000) := shared_len r s f t
  clear e0 hG h hU g ht gt hE hT hS HR HZ HB
  have HQb : Hid (∀ n, (runQ r s n).b = n) := fun n => rfl
  generalize sharedL r s f t = ds at *
  generalize runsL r s f t = res at *
  generalize runB r s = P at *
  generalize runQ r s = Q at *
  go_enter Tryz.func26, Tryz.ntmps26
  go_wp2_with fail
  rw [← E0.out]
  refine (KP ⟨W0, Below.refl _ _⟩).mono ?_
  rintro e w1 ⟨o, rfl, hI⟩
  have hM := (hI.done (Below.refl _ _)).1.row
  obtain ⟨x1, rfl⟩ := Later.of hI.below
  obtain ⟨ad, cap, rfl, hc⟩ := hM
  have HC := hideP hc
  clear hI hc KP
  go_wp2_with fail
  go_loopw [9, 11, 12, 13, 20] (fun o _ _ _ i wr => ∃ k : Nat, k ≤ ds.length ∧ i = .int .i64 (k : Int) ∧ QSt 103 x1.w o (((ds.take k).filter P).map Q) wr) (fun _ _ _ _ i _ => ((ds.length : Int) - intOf i).toNat)
  case atStart => exact ⟨0, Nat.zero_le _, rfl, QSt.nil _ _⟩
  case round =>
    obtain ⟨k, hk, rfl, hSt⟩ := hrel
    have Z := hideP hSt
    have hb1 := x1.on hSt.below
    obtain ⟨y, rfl⟩ : ∃ y : Later W0, wr = y.w := ⟨⟨wr, hb1⟩, rfl⟩
    clear hSt hb1
    by_cases hlt : (k : Int) < (ds.length : Int)
    case neg =>
      have HE : Hid ((ds.take k).filter P = ds.filter P) := by
        unfold Hid
        rw [List.take_of_length_le (by omega)]
      have hen : EndsIn (-1000000) 2000000 (((ds.take k).filter P).map Q) := fun p hp => by
        obtain ⟨n, hn, rfl⟩ := List.mem_map.1 hp
        have := HDay.out n (List.mem_of_mem_take (List.mem_filter.1 hn).1)
        rw [HQb.out]
        omega
      have hle : (((ds.take k).filter P).map Q).length ≤ 2000 := by
        rw [List.length_map]
        exact Nat.le_trans (List.length_filter_le ..) (by rw [List.length_take]; have := HLn.out; omega)
      have KJ := implJoined u9 _ y.w (Z.out.done (Below.refl _ _)).1.row hle hen
      rw [HE.out, HF.out] at KJ
      clear hen hle
      go_wp2_with fail
      refine KJ.mono ?_
      rintro e w9 ⟨o9, rfl, hm, hb⟩
      have HM := hideP hm
      have HB9 : Hid (Below w.heap.size w w9) := (HB0.out.trans ((x1.below.trans (Z.out.below.mono x1.below.size)).mono HB0.out.size)).trans (hb.mono (HB0.out.trans ((x1.below.trans (Z.out.below.mono x1.below.size)).mono HB0.out.size)).size)
      have hsz : w.heap.size ≤ y.w.heap.size := (HB0.out.trans ((x1.below.trans (Z.out.below.mono x1.below.size)).mono HB0.out.size)).size
      clear hm hb
      go_wp2
      go_ret
      exact ⟨_, rfl, HM.out.mono hsz, HB9.out⟩
    have hkn : k < ds.length := by omega
    obtain ⟨gg, rfl, hgg, hcc⟩ := HC.out k hkn
    have hcw : y.w.cell? ⟨gg, k, none⟩ = some (.int .i64 (ds.getD k 0)) := Later.at hcc ⟨y.w, Z.out.below⟩
    have hds := HLn.out
    have hmem : ds.getD k 0 ∈ ds := by simp only [List.getD, List.getElem?_eq_getElem hkn, Option.getD_some]; exact List.getElem_mem hkn
    have KA1 := KA.out _ hmem y.w y.below
    have HT := hideP (take_snoc_filter ds P k hkn)
    have hzl : (((ds.take k).filter P).map Q).length ≤ 1000 := by
      rw [List.length_map]
      exact Nat.le_trans (List.length_filter_le ..) (by rw [List.length_take]; have := HLn.out; omega)
    clear hmem hcc HC KA HDay HQb HF
    generalize ds.getD k 0 = n at *
    have HX : Hid (P n = true → ((ds.take (k + 1)).filter P).map Q = ((ds.take k).filter P).map Q ++ [Q n]) := fun q => by rw [HT.out, q, if_pos rfl, List.map_append]; rfl
    have HY : Hid (P n = false → ((ds.take (k + 1)).filter P).map Q = ((ds.take k).filter P).map Q) := fun q => by rw [HT.out, q]; rfl
    clear HT
    generalize P n = pn at *
    generalize Q n = q at *
    generalize ((ds.take k).filter P).map Q = L at *
    obtain ⟨qa, qb, qc, qd⟩ := q
    go_wp2_with fail
    refine KA1.mono ?_
    rintro e w2 ⟨rfl, hb⟩
    have Z1 := hideP (Z.out.later hb)
    clear hb KA1 Z
    cases pn
    · have HE := hideP (HY.out rfl)
      clear HX HY
      have Z2 := hideP (Z1.out.later ((Below.refl _ w2).alloc (Nat.le_refl _) (.cells #[.int .i64 qa, .int .i64 qb, .int .i64 qc, .int .i64 qd] 103)))
      go_wp2
      exact ⟨⟨k + 1, by omega, by apply congrArg (Value.int .i64); omega, by rw [HE.out]; exact Z2.out⟩, by simp [intOf]; omega⟩
    · have HE := hideP (HX.out rfl)
      clear HX HY
      have Z2 := hideP (Z1.out.later ((Below.refl _ w2).alloc (Nat.le_refl _) (.cells #[.int .i64 qa, .int .i64 qb, .int .i64 qc, .int .i64 qd] 103)))
      go_wp2_with (at_builtin; refine wpList_append_own _ rfl _ _ 61 rfl x1.w.heap.size 103 i0 (.agg #[.int .i64 0, .int .i64 0, .int .i64 0, .int .i64 0]) 4 32 Tryz.underlying61 hi hz0 hz1 hz2 rfl (by decide) _ _ _ rfl (Z2.out.row.alloc _) ⟨w2.heap.size + 1, 0, none⟩ 1 1 [.int .i64 qa, .int .i64 qb, .int .i64 qc, .int .i64 qd] rfl rfl (cells_quad _ _ _ _ _ _ (inew _ _).symm) (by simp [Value.oneCell']) (by unfold maxLen; omega) (by omega) (by have := Z2.out.below.size; rw [inew]; omega) ?_; intro v' w9 hown' hgrow _)
      exact ⟨⟨k + 1, by omega, by apply congrArg (Value.int .i64); omega, by rw [HE.out]; exact Z2.out.app ⟨qa, qb, qc, qd⟩ hown' hgrow⟩, by simp [intOf]; omega⟩
end Go.Proofs.YtdgolaaheakfoaaGreatDoor.ctr
namespace Go.Proofs.YtdgolaaheakfoaaGreatDoor.ctr
open Go.RowKit
theorem eqRun1 (a0 a1 a2 a3 : Int) (w : World) : Calls Tryz.prog 67 #[.agg #[.int .i64 a0, .int .i64 a1, .int .i64 a2, .int .i64 a3], .agg #[.int .i64 a0, .int .i64 a1, .int .i64 a2, .int .i64 a3]] w fun e w' => e = .returned (.bool true) ∧ Below w.heap.size w w' := by
  go_enter Tryz.func67, Tryz.ntmps67
  go_wp2
  go_ret
  exact ⟨rfl, ((Below.refl _ _).alloc (Nat.le_refl _) _).alloc (by rw [World.size_alloc]; omega) _⟩
set_option maxHeartbeats 1000000 in
theorem eqRunS (v1 v2 : Value) (l : List Qd) (w : World) (hl : l.length ≤ 2000000) (h1 : QRow w v1 l) (h2 : QRow w v2 l) : Calls Tryz.prog 27 #[v1, v2] w fun e w' => e = .returned (.bool true) ∧ Below w.heap.size w w' := by
  obtain ⟨a1, c1, rfl, H1⟩ := h1
  obtain ⟨a2, c2, rfl, H2⟩ := h2
  have K1 := hideP H1
  have K2 := hideP H2
  clear H1 H2
  go_enter Tryz.func27, Tryz.ntmps27
  go_wp2
  go_loopw [5] (fun i wr => ∃ k : Nat, k ≤ l.length ∧ i = .int .i64 (k : Int) ∧ Below w.heap.size w wr) (fun i _ => l.length - (intOf i).toNat)
  case atStart => exact ⟨0, Nat.zero_le _, rfl, Below.refl _ _⟩
  case round =>
    obtain ⟨k, hk, rfl, hB⟩ := hrel
    have HB := hideP hB
    clear hB
    by_cases hlt : k < l.length
    · obtain ⟨g1, rfl, hg1, x1⟩ := K1.out k hlt
      obtain ⟨g2, rfl, hg2, x2⟩ := K2.out k hlt
      obtain ⟨a0, a1, a2, a3⟩ := (x1.below HB.out hg1).quad
      obtain ⟨b0, b1, b2, b3⟩ := (x2.below HB.out hg2).quad
      clear x1 x2
      generalize atK qdK l k = r at *
      go_wp2
      go_region_with (go_at_call 67; refine (eqRun1 _ _ _ _ _).mono ?_; rintro e w2 ⟨rfl, hb2⟩; have HB2 : Hid (Below w.heap.size w w2) := HB.out.trans ⟨hb2.os, hb2.tape, hb2.output, Nat.le_trans (Nat.le_refl _) hb2.size, fun j hj => hb2.block j (Nat.lt_of_lt_of_le hj HB.out.size)⟩; clear hb2)
      all_goals go_wp2
      all_goals exact ⟨⟨k + 1, by omega, by go_num, HB2.out⟩, by simp [intOf]; omega⟩
    · go_wp2
      go_ret
      exact ⟨rfl, HB.out⟩
set_option maxHeartbeats 2000000 in
theorem markRuns (g cap n : Nat) (w : World) (hn : n ≤ 1048576) (ho : OwnC w g (n * 4)) :
    Calls Tryz.prog 28 #[.slice (some ⟨g, 0, none⟩) n cap, .int .i64 1] w fun e w' => e = .returned (.int .i64 ((n : Int) * 4 + 1)) ∧ QMst w g n (n * 4) w' := by
  have S0 : Hid (QMst w g n 0 w) := ⟨ho, fun j hj => by omega, ⟨rfl, rfl, rfl, Nat.le_refl _, fun _ _ _ => rfl⟩⟩
  clear ho
  go_enter Tryz.func28, Tryz.ntmps28
  go_wp2
  go_loopw [1, 5] (fun t i wr => ∃ k : Nat, k ≤ n ∧ i = .int .i64 (k : Int) ∧ t = .int .i64 ((k : Int) * 4 + 1) ∧ QMst w g n (k * 4) wr) (fun _ i _ => n - (intOf i).toNat)
  case atStart => exact ⟨0, Nat.zero_le _, rfl, rfl, S0.out⟩
  case round =>
    obtain ⟨k, hk, rfl, rfl, hM⟩ := hrel
    have HM := hideP hM
    clear hM S0
    by_cases hlt : k < n
    · obtain ⟨⟨u0, h0⟩, f0⟩ := HM.out.own (k * 4) (by omega)
      obtain ⟨⟨u1, h1⟩, f1⟩ := HM.out.own (k * 4 + 1) (by omega)
      obtain ⟨⟨u2, h2⟩, f2⟩ := HM.out.own (k * 4 + 2) (by omega)
      obtain ⟨⟨u3, h3⟩, f3⟩ := HM.out.own (k * 4 + 3) (by omega)
      have HN := hideP (HM.out.four hlt)
      go_wp2
      exact ⟨⟨k + 1, by omega, by go_num, by apply congrArg (Value.int .i64); omega, HN.out⟩, by simp [intOf]; omega⟩
    · obtain rfl : k = n := by omega
      go_wp2
      go_ret
      exact ⟨rfl, HM.out⟩
set_option maxHeartbeats 1000000 in
theorem markRunNone (a : Option Addr) (cap : Nat) (w : World) : Calls Tryz.prog 28 #[.slice a 0 cap, .int .i64 1] w fun e w' => e = .returned (.int .i64 1) ∧ w' = w := by
  go_enter Tryz.func28, Tryz.ntmps28
  go_wp2
  go_loopw [1, 5] (fun u i wr => i = .int .i64 0 ∧ u = .int .i64 1 ∧ wr = w) (fun _ _ _ => 0)
  case atStart => exact ⟨rfl, rfl, rfl⟩
  case round =>
    obtain ⟨rfl, rfl, rfl⟩ := hrel
    go_wp2
    go_ret
    exact ⟨rfl, rfl⟩
theorem markRunRow (W w : World) (v : Value) (xs : List Qd) (hn : xs.length ≤ 1048576) (h : QMov W w v xs) (hW : Below W.heap.size W w) :
    Calls Tryz.prog 28 #[v, .int .i64 1] w fun e w' => e = .returned (.int .i64 ((xs.length : Int) * 4 + 1)) ∧ Below W.heap.size W w' ∧ QMark w' v xs.length := by
  obtain ⟨ad, cap, rfl, h | ⟨g, t, zs, rfl, hg, hB⟩⟩ := h
  · subst h
    exact (markRunNone ad cap w).mono fun e w' ⟨he, hw⟩ => ⟨he, by rw [hw]; exact hW, ⟨ad, cap, rfl, fun j hj => by simp at hj⟩⟩
  · have ho : OwnC w g (xs.length * 4) := ownC_of hB (by rw [Array.size_append, iA_size]; exact Nat.le_add_right _ _)
    refine (markRuns g cap xs.length w hn ho).mono ?_
    rintro e w' ⟨he, hM⟩
    exact ⟨he, hW.trans ⟨hM.grown.os, hM.grown.tape, hM.grown.output, Nat.le_trans (Nat.le_refl _) hM.grown.size, fun k hk => hM.grown.block k (Nat.lt_of_lt_of_le hk hW.size) (fun e => by have := Option.some.inj e; omega)⟩, ⟨_, cap, rfl, fun j hj => ⟨g, rfl, Nat.lt_of_lt_of_le hB.lt hM.grown.size, hM.mark j hj⟩⟩⟩
set_option maxHeartbeats 2000000 in
theorem heldRuns (v : Value) (n : Nat) (w : World) (hn : n ≤ 1048576) (h : QMark w v n) :
    Calls Tryz.prog 29 #[v, .int .i64 1] w fun e w' => e = .returned (.int .i64 ((n : Int) * 4 + 1)) ∧ w' = w := by
  obtain ⟨ad, cap, rfl, H⟩ := h
  have HO := hideP H
  clear H
  go_enter Tryz.func29, Tryz.ntmps29
  go_wp2
  go_loopw [1, 5] (fun t i wr => ∃ k : Nat, k ≤ n ∧ i = .int .i64 (k : Int) ∧ t = .int .i64 ((k : Int) * 4 + 1) ∧ wr = w) (fun _ i _ => n - (intOf i).toNat)
  case atStart => exact ⟨0, Nat.zero_le _, rfl, rfl, rfl⟩
  case round =>
    obtain ⟨k, hk, rfl, rfl, rfl⟩ := hrel
    by_cases hlt : k < n
    · obtain ⟨g, rfl, _, x0⟩ := HO.out (k * 4) (by omega)
      have up : ∀ j, j < n * 4 → wr.cell? ⟨g, j, none⟩ = some (.int .i64 ((1 + j : Nat) : Int)) := fun j hj => by
        obtain ⟨g', e, _, x⟩ := HO.out j hj
        cases e
        exact x
      have e0 : wr.cell? ⟨g, k * 4, none⟩ = some (.int .i64 ((k : Int) * 4 + 1)) := by rw [up (k * 4) (by omega)]; congr 2; omega
      have e1 : wr.cell? ⟨g, k * 4 + 1, none⟩ = some (.int .i64 ((k : Int) * 4 + 1 + 1)) := by rw [up (k * 4 + 1) (by omega)]; congr 2; omega
      have e2 : wr.cell? ⟨g, k * 4 + 2, none⟩ = some (.int .i64 ((k : Int) * 4 + 1 + 1 + 1)) := by rw [up (k * 4 + 2) (by omega)]; congr 2; omega
      have e3 : wr.cell? ⟨g, k * 4 + 3, none⟩ = some (.int .i64 ((k : Int) * 4 + 1 + 1 + 1 + 1)) := by rw [up (k * 4 + 3) (by omega)]; congr 2; omega
      clear up x0
      go_wp2
      exact ⟨⟨k + 1, by omega, by go_num, by apply congrArg (Value.int .i64); omega, by first | rfl | trivial⟩, by simp [intOf]; omega⟩
    · obtain rfl : k = n := by omega
      go_wp2
      go_ret
      exact ⟨rfl, rfl⟩
end Go.Proofs.YtdgolaaheakfoaaGreatDoor.ctr
