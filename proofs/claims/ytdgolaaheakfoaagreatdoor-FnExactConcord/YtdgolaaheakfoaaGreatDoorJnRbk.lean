/- Days that a condition holds at, from one day up to another: a loop's state; what two regimes name alike. Plain, of no program. The program's sharedDays: the days from one to another that two regimes have, ascending, in a row of its own. The model's Same: the days from one to another that two regimes name alike, ascending, in a row of its own. -/
import Derived.Test.YtdgolaaheakfoaaGreatDoorJnRbj
import Derived.Test.YtdgolaaheakfoaaGreatDoorJnRaw
namespace Go.Proofs.YtdgolaaheakfoaaGreatDoor.ctr
open Go.RowKit
def Upto (f : Int) (P : Int → Bool) (n z : Int) : Prop := f ≤ z ∧ z < n ∧ P z = true
theorem upto_open (f : Int) (P : Int → Bool) : DSet [] (Upto f P f) := dset_nil (fun z h => by have := h.1; have := h.2.1; omega)
theorem upto_hit {f n : Int} {P : Int → Bool} {zs : List Int} (hn : f ≤ n) (hp : P n = true) (h : DSet zs (Upto f P n)) : DSet (zs ++ [n]) (Upto f P (n + 1)) := by
  refine h.snoc (fun z q => q.2.1) (fun z => ⟨fun q => ?_, fun q => ?_⟩)
  · by_cases e : z = n
    · exact .inr e
    · exact .inl ⟨q.1, by have := q.2.1; omega, q.2.2⟩
  · rcases q with q | rfl
    · exact ⟨q.1, by have := q.2.1; omega, q.2.2⟩
    · exact ⟨hn, by omega, hp⟩
theorem upto_miss {f n : Int} {P : Int → Bool} {zs : List Int} (hp : P n = false) (h : DSet zs (Upto f P n)) : DSet zs (Upto f P (n + 1)) := by
  refine h.imp (fun z => ⟨fun q => ⟨q.1, by have := q.2.1; omega, q.2.2⟩, fun q => ⟨q.1, ?_, q.2.2⟩⟩)
  obtain ⟨_, h1, h2⟩ := q
  by_cases e : z = n
  · rw [e, hp] at h2
    cases h2
  · omega
theorem upto_close {f t n : Int} {P : Int → Bool} {zs : List Int} (h : DSet zs (Upto f P n)) (h1 : t < n) (h2 : n ≤ t + 1 ∨ n = f) : zs = daysWhere f t P :=
  DSet.eq h ((daysWhere_set f t P).imp (fun z => ⟨fun q => ⟨q.1, by omega, q.2.2⟩, fun q => ⟨q.1, by have := q.1; have := q.2.1; omega, q.2.2⟩⟩))
theorem upto_len {f n : Int} {P : Int → Bool} {zs : List Int} (h : DSet zs (Upto f P n)) : zs.length ≤ (n - f).toNat := by
  have := dset_len (a := f) (b := n - 1) h (fun z q => ⟨q.1, by have := q.2.1; omega⟩)
  omega
def spanB (f t : Int) : Bool := dayB f && dayB t && decide (t - f < 1000)
theorem span_nums {f t : Int} (h : spanB f t = true) : 400 ≤ f ∧ f ≤ 1090000 ∧ 400 ≤ t ∧ t ≤ 1090000 ∧ t - f < 1000 := by
  unfold spanB dayB at h
  simp only [Bool.and_eq_true, decide_eq_true_eq] at h
  have a := of_inB h.1.1
  have b := of_inB h.1.2
  omega
noncomputable def sharedL (r s : Rgm) (f t : Int) : List Int := if spanB f t = true then daysWhere (max f (meetF r s)) (min t (meetL r s)) (fun _ => true) else []
theorem shared_set (r s : Rgm) (f t : Int) : DSet (sharedL r s f t) (fun z => (regimeB r = true ∧ regimeB s = true ∧ spanB f t = true) ∧ f ≤ z ∧ z ≤ t ∧ r.fr ≤ z ∧ z ≤ r.to ∧ s.fr ≤ z ∧ z ≤ s.to) := by
  unfold sharedL
  by_cases hs : spanB f t = true
  · rw [if_pos hs]
    have hn := span_nums hs
    refine (daysWhere_set _ _ _).imp (fun z => ?_)
    unfold meetF meetL
    by_cases hm : meetB r s = true
    · rw [if_pos hm, if_pos hm]
      unfold meetB at hm
      simp only [Bool.and_eq_true, decide_eq_true_eq] at hm
      exact ⟨fun q => ⟨⟨hm.1.1, hm.1.2, hs⟩, by omega⟩, fun q => ⟨by omega, by omega, rfl⟩⟩
    · rw [if_neg hm, if_neg hm]
      refine ⟨fun q => by omega, fun q => absurd ?_ hm⟩
      unfold meetB
      simp only [Bool.and_eq_true, decide_eq_true_eq]
      exact ⟨⟨q.1.1, q.1.2.1⟩, by omega⟩
  · rw [if_neg hs]
    exact dset_nil (fun z q => hs q.1.2.2)
noncomputable def alikeB (r s : Rgm) (n : Int) : Bool := (rdgOn r n).mon == (rdgOn s n).mon && ((rdgOn r n).day == (rdgOn s n).day && (rdgOn r n).year == (rdgOn s n).year)
noncomputable def bothD (r s : Rgm) (n : Int) : Bool := decide (r.fr ≤ n ∧ n ≤ r.to) && (decide (s.fr ≤ n ∧ n ≤ s.to) && alikeB r s n)
noncomputable def alikeL (r s : Rgm) (f t : Int) : List Int := if regimeB r = true ∧ regimeB s = true ∧ spanB f t = true then daysWhere f t (bothD r s) else []
theorem same_final (r s : Rgm) (f t : Int) : (sharedL r s f t).filter (alikeB r s) = alikeL r s f t := by
  have hS := shared_set r s f t
  unfold alikeL
  by_cases h : regimeB r = true ∧ regimeB s = true ∧ spanB f t = true
  · rw [if_pos h]
    refine DSet.eq (P := fun z => z ∈ (sharedL r s f t).filter (alikeB r s)) ⟨List.Pairwise.filter _ hS.1, fun z => Iff.rfl⟩ ((daysWhere_set f t (bothD r s)).imp (fun z => ?_))
    rw [List.mem_filter, hS.2]
    unfold bothD
    simp only [Bool.and_eq_true, decide_eq_true_eq]
    exact ⟨fun q => ⟨⟨h, q.1, q.2.1, q.2.2.1.1, q.2.2.1.2, q.2.2.2.1⟩, q.2.2.2.2⟩, fun q => ⟨q.1.2.1, q.1.2.2.1, ⟨q.1.2.2.2.1, q.1.2.2.2.2.1⟩, q.1.2.2.2.2.2, q.2⟩⟩
  · rw [if_neg h]
    refine List.filter_eq_nil_iff.2 (fun z hz => ?_)
    exact absurd ((hS.2 z).1 hz).1 h
theorem shared_len (r s : Rgm) (f t : Int) : (sharedL r s f t).length ≤ 1000 := by
  have hS := shared_set r s f t
  by_cases h : spanB f t = true
  · have hn := span_nums h
    have := dset_len (a := f) (b := t) hS (fun z q => ⟨q.2.1, q.2.2.1⟩)
    omega
  · unfold sharedL
    rw [if_neg h]
    exact Nat.zero_le _
theorem alike_len (r s : Rgm) (f t : Int) : (alikeL r s f t).length ≤ 1000 := by
  rw [← same_final]
  exact Nat.le_trans (List.length_filter_le ..) (shared_len r s f t)
theorem take_snoc_filter (l : List Int) (p : Int → Bool) (k : Nat) (hk : k < l.length) : (l.take (k + 1)).filter p = if p (l.getD k 0) = true then (l.take k).filter p ++ [l.getD k 0] else (l.take k).filter p := by
  have e : l.take (k + 1) = l.take k ++ [l.getD k 0] := by
    rw [List.take_add_one, List.getElem?_eq_getElem hk]
    simp [List.getD, hk]
  rw [e, List.filter_append]
  generalize l.getD k 0 = x
  by_cases hp : p x = true
  · rw [if_pos hp, List.filter_cons_of_pos hp, List.filter_nil]
  · rw [if_neg hp, List.filter_cons_of_neg hp, List.filter_nil, List.append_nil]
end Go.Proofs.YtdgolaaheakfoaaGreatDoor.ctr
namespace Go.Proofs.YtdgolaaheakfoaaGreatDoor.ctr
open Go.RowKit
set_option maxRecDepth 100000 in
set_option maxHeartbeats 8000000 in
theorem implSharedDays (v u : Value) (r s : Rgm) (f t : Int) (a : Addr) (w : World) (h : GRow w v r) (g : GRow w u s) (ht : r.to ≤ 9223372036854775807) (gt : s.to ≤ 9223372036854775807) (hE : ErrT w) (hT : Tab w) (hS : Sent w a) : Calls Tryz.prog 49 #[v, u, .int .i64 f, .int .i64 t] w fun e w' => ∃ o, e = .returned o ∧ ISt w o (sharedL r s f t) w' := by
  obtain ⟨i0, hi, hz0, hz1, hz2⟩ := info_parts info_int
  have hG := h
  have hU := g
  obtain ⟨a1, c1, a2, c2, a3, c3, rfl⟩ := h.parts
  obtain ⟨b1, d1, b2, d2, b3, d3, rfl⟩ := g.parts
  obtain ⟨W0, e0, HR, HZ, HB⟩ := boxR w #[.string r.name, .int .i64 r.fr, .int .i64 r.to, .slice a1 r.segs.length c1, .slice a2 r.pats.length c2, .slice a3 r.rgns.length c3, .int .i64 r.rule] 40 #[.string s.name, .int .i64 s.fr, .int .i64 s.to, .slice b1 s.segs.length d1, .slice b2 s.pats.length d2, .slice b3 s.rgns.length d3, .int .i64 s.rule] 40
  obtain ⟨r0, r1, r2, r3, r4, r5, r6⟩ := sevenL HR.out
  obtain ⟨u0, u1, u2, u3, u4, u5, u6⟩ := sevenL HZ.out
  have E0 := hideP e0
  have K1 : ∀ y : Later W0, Calls Tryz.prog 93 #[.int .i64 f] y.w fun e w' => e = .returned (.bool (dayB f)) ∧ Below y.w.heap.size y.w w' := fun y => (implOnLine f y.w).mono fun _ _ h => ⟨h.1, same_bel h.2⟩
  have K2 : ∀ y : Later W0, Calls Tryz.prog 93 #[.int .i64 t] y.w fun e w' => e = .returned (.bool (dayB t)) ∧ Below y.w.heap.size y.w w' := fun y => (implOnLine t y.w).mono fun _ _ h => ⟨h.1, same_bel h.2⟩
  have KM : ∀ y : Later W0, Calls Tryz.prog 94 #[.agg #[.string r.name, .int .i64 r.fr, .int .i64 r.to, .slice a1 r.segs.length c1, .slice a2 r.pats.length c2, .slice a3 r.rgns.length c3, .int .i64 r.rule], .agg #[.string s.name, .int .i64 s.fr, .int .i64 s.to, .slice b1 s.segs.length d1, .slice b2 s.pats.length d2, .slice b3 s.rgns.length d3, .int .i64 s.rule]] y.w fun e w' => e = .returned (.tuple #[.int .i64 (meetF r s), .int .i64 (meetL r s)]) ∧ Below y.w.heap.size y.w w' := fun y => implMeet _ _ r s a y.w (hG.below (HB.out y)) (hU.below (HB.out y)) ht gt (hE.below (HB.out y)) (hT.later (HB.out y)) (hS.later (HB.out y))
  have hsp : spanB f t = true → 400 ≤ f ∧ f ≤ 1090000 ∧ 400 ≤ t ∧ t ≤ 1090000 ∧ t - f < 1000 := span_nums
  have hdb : dayB f = true → dayB t = true → 400 ≤ f ∧ f ≤ 1090000 ∧ 400 ≤ t ∧ t ≤ 1090000 := fun p q => by
    have := of_inB p
    have := of_inB q
    omega
  have Bnil : Hid (∀ x : Later W0, ISt w (.slice none 0 0) [] x.w) := fun x => (ISt.nil w).later (HB.out x)
  clear e0 hG h hU g ht gt hT hE hS HR HZ
  unfold sharedL
  by_cases hsB : spanB f t = true
  case neg =>
    rw [if_neg hsB]
    unfold spanB at hsB
    clear hsp KM
    cases q1 : dayB f
    · rw [q1] at K1
      clear hsB hdb q1 K2
      go_enter Tryz.func49, Tryz.ntmps49
      go_wp2_with fail
      rw [← E0.out]
      refine (K1 ⟨W0, Below.refl _ _⟩).mono ?_
      rintro e w1 ⟨rfl, hb⟩
      obtain ⟨x1, rfl⟩ := Later.of hb
      clear hb
      go_wp2
      go_ret
      exact ⟨_, rfl, Bnil.out x1⟩
    cases q2 : dayB t
    · rw [q1] at K1
      rw [q2] at K2
      clear hsB hdb q1 q2
      go_enter Tryz.func49, Tryz.ntmps49
      go_wp2_with fail
      rw [← E0.out]
      refine (K1 ⟨W0, Below.refl _ _⟩).mono ?_
      rintro e w1 ⟨rfl, hb⟩
      obtain ⟨x1, rfl⟩ := Later.of hb
      clear hb
      go_wp2_with fail
      refine (K2 x1).mono ?_
      rintro e w2 ⟨rfl, hb⟩
      obtain ⟨x2, rfl⟩ := x1.next hb
      clear hb
      go_wp2
      go_ret
      exact ⟨_, rfl, Bnil.out x2⟩
    have hb := hdb q1 q2
    rw [q1, q2] at hsB
    simp only [Bool.true_and, decide_eq_true_eq] at hsB
    rw [q1] at K1
    rw [q2] at K2
    have hd : decide (1000 ≤ t - f) = true := decide_eq_true (by omega)
    clear hdb q1 q2
    go_enter Tryz.func49, Tryz.ntmps49
    go_wp2_with fail
    rw [← E0.out]
    refine (K1 ⟨W0, Below.refl _ _⟩).mono ?_
    rintro e w1 ⟨rfl, hb⟩
    obtain ⟨x1, rfl⟩ := Later.of hb
    clear hb
    go_wp2_with fail
    refine (K2 x1).mono ?_
    rintro e w2 ⟨rfl, hb⟩
    obtain ⟨x2, rfl⟩ := x1.next hb
    clear hb
    go_wp2
    go_ret
    exact ⟨_, rfl, Bnil.out x2⟩
  rw [if_pos hsB]
  have hn := hsp hsB
  unfold spanB at hsB
  simp only [Bool.and_eq_true, decide_eq_true_eq] at hsB
  rw [hsB.1.1] at K1
  rw [hsB.1.2] at K2
  have hd : decide (1000 ≤ t - f) = false := decide_eq_false (by omega)
  clear hdb hsp hsB
  generalize meetF r s = mF at *
  generalize meetL r s = mL at *
  have HL : Hid (∀ n : Int, max f mF ≤ n → n ≤ min t mL → 400 ≤ n ∧ n ≤ 1090000) := fun n p q => by omega
  have HC : Hid (∀ (zs : List Int) (n : Int), DSet zs (Upto (max f mF) (fun _ => true) n) → min t mL < n → (n ≤ min t mL + 1 ∨ n = max f mF) → zs = daysWhere (max f mF) (min t mL) (fun _ => true)) := fun zs n p q q2 => upto_close p q q2
  have HN : Hid (∀ (zs : List Int) (n : Int), DSet zs (Upto (max f mF) (fun _ => true) n) → n ≤ min t mL → zs.length ≤ 1000) := fun zs n p q => by have := upto_len p; omega
  have HO : Hid (DSet [] (Upto (max f mF) (fun _ => true) (max f mF))) := upto_open _ _
  have HH : Hid (∀ (zs : List Int) (n : Int), max f mF ≤ n → DSet zs (Upto (max f mF) (fun _ => true) n) → DSet (zs ++ [n]) (Upto (max f mF) (fun _ => true) (n + 1))) := fun zs n p q => upto_hit p rfl q
  obtain ⟨F, hF⟩ : ∃ F, F = max f mF := ⟨_, rfl⟩
  obtain ⟨L, hL⟩ : ∃ L, L = min t mL := ⟨_, rfl⟩
  have HF := hideP hF
  have HLe := hideP hL
  rw [← hF] at HL HC HN HO HH ⊢
  rw [← hL] at HL HC HN ⊢
  clear hF hL
  go_enter Tryz.func49, Tryz.ntmps49
  go_wp2_with fail
  rw [← E0.out]
  refine (K1 ⟨W0, Below.refl _ _⟩).mono ?_
  rintro e w1 ⟨rfl, hb⟩
  obtain ⟨x1, rfl⟩ := Later.of hb
  clear hb
  go_wp2_with fail
  refine (K2 x1).mono ?_
  rintro e w2 ⟨rfl, hb⟩
  obtain ⟨x2, rfl⟩ := x1.next hb
  clear hb
  go_wp2_with fail
  refine (KM x2).mono ?_
  rintro e w3 ⟨rfl, hb⟩
  obtain ⟨x3, rfl⟩ := x2.next hb
  clear hb
  go_wp2_with fail
  rw [← HF.out]
  go_loopw [11, 12] (fun o i wr => ∃ (n : Int) (zs : List Int), i = .int .i64 n ∧ F ≤ n ∧ Hid (n ≤ L + 1 ∨ n = F) ∧ Hid (DSet zs (Upto F (fun _ => true) n)) ∧ ISt W0 o zs wr) (fun _ i _ => (L - intOf i + 1).toNat)
  case atStart => exact ⟨F, [], rfl, Int.le_refl _, .inr rfl, HO.out, (ISt.nil W0).later x3.below⟩
  case round =>
    obtain ⟨n, zs, rfl, hn1, hn2, hDZ, hSt⟩ := hrel
    have Z := hideP hSt
    clear hSt
    by_cases hle : n ≤ min t mL
    case neg =>
      have HE : Hid (zs = daysWhere F L (fun _ => true)) := HC.out zs n hDZ.out (by rw [HLe.out]; omega) hn2.out
      have hd2 : decide (n ≤ min t mL) = false := decide_eq_false hle
      clear hDZ
      go_wp2
      go_ret
      rw [← HE.out]
      exact ⟨_, rfl, ⟨own_mono1 Z.out.row (HB.out ⟨W0, Below.refl _ _⟩).size, (HB.out ⟨W0, Below.refl _ _⟩).trans (Z.out.below.mono (HB.out ⟨W0, Below.refl _ _⟩).size)⟩⟩
    have hnb := HL.out n hn1 (by rw [HLe.out]; omega)
    have hzl := HN.out zs n hDZ.out (by rw [HLe.out]; omega)
    have HX := hideP (HH.out zs n hn1 hDZ.out)
    have HLn : Hid (n + 1 ≤ L + 1) := by unfold Hid; rw [HLe.out]; omega
    have hd2 : decide (n ≤ min t mL) = true := decide_eq_true hle
    clear hDZ hn2
    go_wp2_with (at_builtin; refine wpList_append_own _ rfl _ _ 50 rfl W0.heap.size 3 i0 (.int .i64 0) 1 8 Tryz.underlying50 hi hz0 hz1 hz2 rfl (by decide) _ _ _ rfl (Z.out.row.alloc _) ⟨wr.heap.size, 0, none⟩ 1 1 [.int .i64 n] rfl rfl (cell_one_new _ _ _) (by simp [Value.oneCell']) (by unfold maxLen; omega) (by omega) (by have := Z.out.below.size; rw [inew]; omega) ?_; intro v' w9 hown' hgrow _)
    exact ⟨⟨n + 1, zs ++ [n], rfl, by omega, .inl HLn.out, HX.out, Z.out.app n hown' hgrow⟩, by have := HLn.out; simp [intOf]; omega⟩
set_option maxHeartbeats 4000000 in
theorem specSpan14 (v u : Value) (r s : Rgm) (f t : Int) (w : World) (h : GRow w v r) (g : GRow w u s) (hf : -9223372036854775808 ≤ r.fr) (ht : r.to ≤ 9223372036854775807) (gf : -9223372036854775808 ≤ s.fr) (gt : s.to ≤ 9223372036854775807) : Calls Tryz.prog 47 #[v, u, .int .i64 f, .int .i64 t] w fun e w' => e = .returned (.bool (regimeB r && (regimeB s && spanB f t))) ∧ Below w.heap.size w w' := by
  have hG := h
  have hU := g
  obtain ⟨a1, c1, a2, c2, a3, c3, rfl⟩ := h.parts
  obtain ⟨b1, d1, b2, d2, b3, d3, rfl⟩ := g.parts
  obtain ⟨W0, e0, HR, HZ, HB⟩ := boxR w #[.string r.name, .int .i64 r.fr, .int .i64 r.to, .slice a1 r.segs.length c1, .slice a2 r.pats.length c2, .slice a3 r.rgns.length c3, .int .i64 r.rule] 40 #[.string s.name, .int .i64 s.fr, .int .i64 s.to, .slice b1 s.segs.length d1, .slice b2 s.pats.length d2, .slice b3 s.rgns.length d3, .int .i64 s.rule] 40
  obtain ⟨r0, r1, r2, r3, r4, r5, r6⟩ := sevenL HR.out
  obtain ⟨u0, u1, u2, u3, u4, u5, u6⟩ := sevenL HZ.out
  have E0 := hideP e0
  obtain ⟨ok1, ok1e⟩ : ∃ b, b = regimeB r := ⟨_, rfl⟩
  obtain ⟨ok2, ok2e⟩ : ∃ b, b = regimeB s := ⟨_, rfl⟩
  have K1 : ∀ y : Later W0, Calls Tryz.prog 34 #[.agg #[.string r.name, .int .i64 r.fr, .int .i64 r.to, .slice a1 r.segs.length c1, .slice a2 r.pats.length c2, .slice a3 r.rgns.length c3, .int .i64 r.rule]] y.w fun e w' => e = .returned (.bool ok1) ∧ Below y.w.heap.size y.w w' := fun y => by rw [ok1e]; exact specRegimeOk _ r y.w (hG.below (HB.out y)) hf ht
  have K2 : ∀ y : Later W0, Calls Tryz.prog 34 #[.agg #[.string s.name, .int .i64 s.fr, .int .i64 s.to, .slice b1 s.segs.length d1, .slice b2 s.pats.length d2, .slice b3 s.rgns.length d3, .int .i64 s.rule]] y.w fun e w' => e = .returned (.bool ok2) ∧ Below y.w.heap.size y.w w' := fun y => by rw [ok2e]; exact specRegimeOk _ s y.w (hU.below (HB.out y)) gf gt
  have K3 : ∀ y : Later W0, Calls Tryz.prog 70 #[.int .i64 f] y.w fun e w' => e = .returned (.bool (dayB f)) ∧ Below y.w.heap.size y.w w' := fun y => (specDay9 f y.w).mono fun _ _ h => ⟨h.1, same_bel h.2⟩
  have K4 : ∀ y : Later W0, Calls Tryz.prog 70 #[.int .i64 t] y.w fun e w' => e = .returned (.bool (dayB t)) ∧ Below y.w.heap.size y.w w' := fun y => (specDay9 t y.w).mono fun _ _ h => ⟨h.1, same_bel h.2⟩
  have hdb : dayB f = true → dayB t = true → 400 ≤ f ∧ f ≤ 1090000 ∧ 400 ≤ t ∧ t ≤ 1090000 := fun p q => by
    have := of_inB p
    have := of_inB q
    omega
  rw [← ok1e, ← ok2e]
  unfold spanB
  clear e0 hG h hU g ht gt hf gf HR HZ ok1e ok2e
  cases ok1
  · simp only [Bool.false_and]
    go_enter Tryz.func47, Tryz.ntmps47
    go_wp2_with fail
    rw [← E0.out]
    refine (K1 ⟨W0, Below.refl _ _⟩).mono ?_
    rintro e w1 ⟨rfl, hb⟩
    obtain ⟨x1, rfl⟩ := Later.of hb
    clear hb
    go_wp2
    go_returns
    exact ⟨rfl, HB.out x1⟩
  cases ok2
  · simp only [Bool.false_and, Bool.and_false]
    go_enter Tryz.func47, Tryz.ntmps47
    go_wp2_with fail
    rw [← E0.out]
    refine (K1 ⟨W0, Below.refl _ _⟩).mono ?_
    rintro e w1 ⟨rfl, hb⟩
    obtain ⟨x1, rfl⟩ := Later.of hb
    clear hb
    go_wp2_with fail
    refine (K2 x1).mono ?_
    rintro e w2 ⟨rfl, hb⟩
    obtain ⟨x2, rfl⟩ := x1.next hb
    clear hb
    go_wp2
    go_returns
    exact ⟨rfl, HB.out x2⟩
  cases q1 : dayB f
  · rw [q1] at K3
    simp only [Bool.false_and, Bool.and_false]
    clear hdb q1
    go_enter Tryz.func47, Tryz.ntmps47
    go_wp2_with fail
    rw [← E0.out]
    refine (K1 ⟨W0, Below.refl _ _⟩).mono ?_
    rintro e w1 ⟨rfl, hb⟩
    obtain ⟨x1, rfl⟩ := Later.of hb
    clear hb
    go_wp2_with fail
    refine (K2 x1).mono ?_
    rintro e w2 ⟨rfl, hb⟩
    obtain ⟨x2, rfl⟩ := x1.next hb
    clear hb
    go_wp2_with fail
    refine (K3 x2).mono ?_
    rintro e w3 ⟨rfl, hb⟩
    obtain ⟨x3, rfl⟩ := x2.next hb
    clear hb
    go_wp2
    go_returns
    exact ⟨rfl, HB.out x3⟩
  cases q2 : dayB t
  · rw [q1] at K3
    rw [q2] at K4
    simp only [Bool.false_and, Bool.and_false]
    clear hdb q1 q2
    go_enter Tryz.func47, Tryz.ntmps47
    go_wp2_with fail
    rw [← E0.out]
    refine (K1 ⟨W0, Below.refl _ _⟩).mono ?_
    rintro e w1 ⟨rfl, hb⟩
    obtain ⟨x1, rfl⟩ := Later.of hb
    clear hb
    go_wp2_with fail
    refine (K2 x1).mono ?_
    rintro e w2 ⟨rfl, hb⟩
    obtain ⟨x2, rfl⟩ := x1.next hb
    clear hb
    go_wp2_with fail
    refine (K3 x2).mono ?_
    rintro e w3 ⟨rfl, hb⟩
    obtain ⟨x3, rfl⟩ := x2.next hb
    clear hb
    go_wp2_with fail
    refine (K4 x3).mono ?_
    rintro e w4 ⟨rfl, hb⟩
    obtain ⟨x4, rfl⟩ := x3.next hb
    clear hb
    go_wp2
    go_returns
    exact ⟨rfl, HB.out x4⟩
  have hb := hdb q1 q2
  rw [q1] at K3
  rw [q2] at K4
  simp only [Bool.true_and]
  clear hdb q1 q2
  go_enter Tryz.func47, Tryz.ntmps47
  go_wp2_with fail
  rw [← E0.out]
  refine (K1 ⟨W0, Below.refl _ _⟩).mono ?_
  rintro e w1 ⟨rfl, hb⟩
  obtain ⟨x1, rfl⟩ := Later.of hb
  clear hb
  go_wp2_with fail
  refine (K2 x1).mono ?_
  rintro e w2 ⟨rfl, hb⟩
  obtain ⟨x2, rfl⟩ := x1.next hb
  clear hb
  go_wp2_with fail
  refine (K3 x2).mono ?_
  rintro e w3 ⟨rfl, hb⟩
  obtain ⟨x3, rfl⟩ := x2.next hb
  clear hb
  go_wp2_with fail
  refine (K4 x3).mono ?_
  rintro e w4 ⟨rfl, hb⟩
  obtain ⟨x4, rfl⟩ := x3.next hb
  clear hb
  go_wp2
  go_returns
  exact ⟨rfl, HB.out x4⟩
end Go.Proofs.YtdgolaaheakfoaaGreatDoor.ctr
namespace Go.Proofs.YtdgolaaheakfoaaGreatDoor.ctr
open Go.RowKit
noncomputable def rdgX (r : Rgm) (n : Int) : Rdg := if r.fr ≤ n ∧ n ≤ r.to then rdgOn r n else rdg0
theorem specReadX (v : Value) (r : Rgm) (n : Int) (w : World) (h : GRow w v r) (hr : regimeB r = true) : Calls Tryz.prog 48 #[v, .int .i64 n] w fun e w' => e = .returned (.tuple #[rdgV (rdgX r n), .bool (decide (r.fr ≤ n ∧ n ≤ r.to))]) ∧ Below w.heap.size w w' := by
  unfold rdgX
  by_cases hn : r.fr ≤ n ∧ n ≤ r.to
  · rw [if_pos hn, decide_eq_true hn]
    exact specRead v r n w h hr hn.1 hn.2
  · rw [if_neg hn, decide_eq_false hn]
    refine specReadNo v r n w h ?_
    rcases segAt_cases r.segs n with ⟨k, _⟩ | ⟨j, _, k, _⟩
    · exact k
    · exact absurd ((seg_fact hr n).1 (by omega)) hn
noncomputable def likeB (x y : Rdg) : Bool := x.mon == y.mon && (x.day == y.day && x.year == y.year)
theorem both_like {r s : Rgm} (n : Int) : bothD r s n = (decide (r.fr ≤ n ∧ n ≤ r.to) && (decide (s.fr ≤ n ∧ n ≤ s.to) && likeB (rdgX r n) (rdgX s n))) := by
  unfold bothD rdgX likeB alikeB
  by_cases h1 : r.fr ≤ n ∧ n ≤ r.to
  · by_cases h2 : s.fr ≤ n ∧ n ≤ s.to
    · rw [if_pos h1, if_pos h2]
    · rw [decide_eq_false h2, Bool.false_and, Bool.false_and]
  · rw [decide_eq_false h1, Bool.false_and, Bool.false_and]
set_option maxRecDepth 100000 in
set_option maxHeartbeats 8000000 in
theorem specSame14 (v u : Value) (r s : Rgm) (f t : Int) (w : World) (h : GRow w v r) (g : GRow w u s) (hf : -9223372036854775808 ≤ r.fr) (ht : r.to ≤ 9223372036854775807) (gf : -9223372036854775808 ≤ s.fr) (gt : s.to ≤ 9223372036854775807) : Calls Tryz.prog 14 #[v, u, .int .i64 f, .int .i64 t] w fun e w' => ∃ o, e = .returned o ∧ MovRow w w' o (alikeL r s f t) ∧ Below w.heap.size w w' := by
  obtain ⟨i0, hi, hz0, hz1, hz2⟩ := info_parts info_int
  have hG := h
  have hU := g
  obtain ⟨a1, c1, a2, c2, a3, c3, rfl⟩ := h.parts
  obtain ⟨b1, d1, b2, d2, b3, d3, rfl⟩ := g.parts
  obtain ⟨W0, e0, HR, HZ, HB⟩ := boxR w #[.string r.name, .int .i64 r.fr, .int .i64 r.to, .slice a1 r.segs.length c1, .slice a2 r.pats.length c2, .slice a3 r.rgns.length c3, .int .i64 r.rule] 40 #[.string s.name, .int .i64 s.fr, .int .i64 s.to, .slice b1 s.segs.length d1, .slice b2 s.pats.length d2, .slice b3 s.rgns.length d3, .int .i64 s.rule] 40
  obtain ⟨r0, r1, r2, r3, r4, r5, r6⟩ := sevenL HR.out
  obtain ⟨u0, u1, u2, u3, u4, u5, u6⟩ := sevenL HZ.out
  have E0 := hideP e0
  have KP : ∀ y : Later W0, Calls Tryz.prog 47 #[.agg #[.string r.name, .int .i64 r.fr, .int .i64 r.to, .slice a1 r.segs.length c1, .slice a2 r.pats.length c2, .slice a3 r.rgns.length c3, .int .i64 r.rule], .agg #[.string s.name, .int .i64 s.fr, .int .i64 s.to, .slice b1 s.segs.length d1, .slice b2 s.pats.length d2, .slice b3 s.rgns.length d3, .int .i64 s.rule], .int .i64 f, .int .i64 t] y.w fun e w' => e = .returned (.bool (regimeB r && (regimeB s && spanB f t))) ∧ Below y.w.heap.size y.w w' := fun y => specSpan14 _ _ r s f t y.w (hG.below (HB.out y)) (hU.below (HB.out y)) hf ht gf gt
  have KA : regimeB r = true → ∀ (n : Int) W, Below W0.heap.size W0 W → Calls Tryz.prog 48 #[.agg #[.string r.name, .int .i64 r.fr, .int .i64 r.to, .slice a1 r.segs.length c1, .slice a2 r.pats.length c2, .slice a3 r.rgns.length c3, .int .i64 r.rule], .int .i64 n] W fun e w' => e = .returned (.tuple #[rdgV (rdgX r n), .bool (decide (r.fr ≤ n ∧ n ≤ r.to))]) ∧ Below W.heap.size W w' := fun q n W hb => specReadX _ r n W (hG.below (HB.out ⟨W, hb⟩)) q
  have KB : regimeB s = true → ∀ (n : Int) W, Below W0.heap.size W0 W → Calls Tryz.prog 48 #[.agg #[.string s.name, .int .i64 s.fr, .int .i64 s.to, .slice b1 s.segs.length d1, .slice b2 s.pats.length d2, .slice b3 s.rgns.length d3, .int .i64 s.rule], .int .i64 n] W fun e w' => e = .returned (.tuple #[rdgV (rdgX s n), .bool (decide (s.fr ≤ n ∧ n ≤ s.to))]) ∧ Below W.heap.size W w' := fun q n W hb => specReadX _ s n W (hU.below (HB.out ⟨W, hb⟩)) q
  have HB0 : Hid (Below w.heap.size w W0) := HB.out ⟨W0, Below.refl _ _⟩
  have S0 : Hid (ISt W0 (.slice (some ⟨W0.heap.size, 0, none⟩) 0 0) [] (W0.alloc (.cells #[] 3))) := ⟨iown_empty W0 _, (Below.refl _ _).alloc (Nat.le_refl _) _⟩
  obtain ⟨xE, hxE⟩ : ∃ xE : Later W0, W0.alloc (.cells #[] 3) = xE.w := ⟨⟨_, S0.out.below⟩, rfl⟩
  have HxE := hideP hxE
  rw [hxE] at S0
  clear hxE
  have HSz : Hid (w.heap.size + 1 + 1 = W0.heap.size) := by unfold Hid; rw [E0.out, World.size_alloc, World.size_alloc]
  clear e0 hG h hU g ht gt hf gf HR HZ
  by_cases hsp : regimeB r = true ∧ regimeB s = true ∧ spanB f t = true
  case neg =>
    have hno : (regimeB r && (regimeB s && spanB f t)) = false := by
      cases q1 : regimeB r
      · rfl
      · cases q2 : regimeB s
        · rfl
        · cases q3 : spanB f t
          · rfl
          · exact absurd ⟨q1, q2, q3⟩ hsp
    rw [hno] at KP
    rw [show alikeL r s f t = [] by unfold alikeL; rw [if_neg hsp]]
    clear KA KB hsp hno
    go_enter Tryz.func14, Tryz.ntmps14
    go_upto_region 2 with fail
    rw [← E0.out, HxE.out]
    rw [HSz.out]
    go_wp2_with fail
    refine (KP xE).mono ?_
    rintro e w1 ⟨rfl, hb⟩
    have S1 := hideP (S0.out.later hb)
    clear hb
    go_wp2
    go_ret
    exact ⟨_, rfl, S1.out.done HB0.out⟩
  have hno : (regimeB r && (regimeB s && spanB f t)) = true := by rw [hsp.1, hsp.2.1, hsp.2.2]; rfl
  rw [hno] at KP
  rw [show alikeL r s f t = daysWhere f t (bothD r s) by unfold alikeL; rw [if_pos hsp]]
  have KA := KA hsp.1
  have KB := KB hsp.2.1
  obtain ⟨n1, n2, n3, n4, n5⟩ := span_nums hsp.2.2
  have HBo : Hid (∀ n, bothD r s n = (decide (r.fr ≤ n ∧ n ≤ r.to) && (decide (s.fr ≤ n ∧ n ≤ s.to) && likeB (rdgX r n) (rdgX s n)))) := fun n => both_like n
  clear hno hsp
  generalize bothD r s = P at *
  have HC : Hid (∀ (zs : List Int) (n : Int), DSet zs (Upto f P n) → t < n → (n ≤ t + 1 ∨ n = f) → zs = daysWhere f t P) := fun zs n p q q2 => upto_close p q q2
  have HO : Hid (DSet [] (Upto f P f)) := upto_open _ _
  have HH : Hid (∀ (zs : List Int) (n : Int), f ≤ n → P n = true → DSet zs (Upto f P n) → DSet (zs ++ [n]) (Upto f P (n + 1))) := fun zs n p p2 q => upto_hit p p2 q
  have HM : Hid (∀ (zs : List Int) (n : Int), P n = false → DSet zs (Upto f P n) → DSet zs (Upto f P (n + 1))) := fun zs n p q => upto_miss p q
  have HN : Hid (∀ (zs : List Int) (n : Int), DSet zs (Upto f P n) → n ≤ t → zs.length ≤ 1000) := fun zs n p q => by have := upto_len p; omega
  go_enter Tryz.func14, Tryz.ntmps14
  go_upto_region 2 with fail
  rw [← E0.out, HxE.out]
  rw [HSz.out]
  go_wp2_with fail
  refine (KP xE).mono ?_
  rintro e w1 ⟨rfl, hb⟩
  have S1 := hideP (S0.out.later hb)
  clear hb KP
  go_wp2_with fail
  go_loopw [9, 10, 11, 12, 13, 14] (fun o i _ _ _ _ wr => ∃ (n : Int) (zs : List Int), i = .int .i64 n ∧ f ≤ n ∧ Hid (n ≤ t + 1 ∨ n = f) ∧ Hid (DSet zs (Upto f P n)) ∧ ISt W0 o zs wr) (fun _ i _ _ _ _ _ => (t - intOf i + 1).toNat)
  case atStart => exact ⟨f, [], rfl, Int.le_refl _, .inr rfl, HO.out, S1.out⟩
  case round =>
    obtain ⟨n, zs, rfl, hn1, hn2, hDZ, hSt⟩ := hrel
    have Z := hideP hSt
    obtain ⟨y, rfl⟩ : ∃ y : Later W0, wr = y.w := ⟨⟨wr, hSt.below⟩, rfl⟩
    clear hSt S0 S1
    by_cases hle : n ≤ t
    case neg =>
      have HE : Hid (zs = daysWhere f t P) := HC.out zs n hDZ.out (by omega) hn2.out
      clear hDZ
      go_wp2
      go_ret
      rw [← HE.out]
      exact ⟨_, rfl, Z.out.done HB0.out⟩
    have hzl := HN.out zs n hDZ.out hle
    have HX : Hid (P n = true → DSet (zs ++ [n]) (Upto f P (n + 1))) := fun q => HH.out zs n hn1 q hDZ.out
    have HY : Hid (P n = false → DSet zs (Upto f P (n + 1))) := fun q => HM.out zs n q hDZ.out
    have HPn := hideP (HBo.out n)
    have K1 := KA n _ y.below
    have K2 := KB n
    clear KA KB hDZ hn2 HBo HC HO HH HM HN
    generalize P n = pn at *
    generalize decide (r.fr ≤ n ∧ n ≤ r.to) = o1 at *
    generalize decide (s.fr ≤ n ∧ n ≤ s.to) = o2 at *
    generalize rdgX r n = x at *
    generalize rdgX s n = z at *
    obtain ⟨xc, xy, xs, xm, xd⟩ := x
    obtain ⟨zc, zy, zq, zm, zd⟩ := z
    go_wp2_with fail
    refine K1.mono ?_
    rintro e w2 ⟨rfl, hb⟩
    obtain ⟨y1, rfl⟩ := y.next hb
    have Z1 := hideP (Z.out.later hb)
    clear hb K1 Z
    go_upto_region 8 with fail
    obtain ⟨y2, hy2⟩ : ∃ y2 : Later W0, y1.w.alloc (.cells #[.int .i64 xc, .int .i64 xy, .int .i64 xs, .int .i64 xm, .int .i64 xd] 76) = y2.w := ⟨⟨_, y1.below.alloc y1.below.size _⟩, rfl⟩
    have X2 : Hid (Blk y2.w y1.w.heap.size #[.int .i64 xc, .int .i64 xy, .int .i64 xs, .int .i64 xm, .int .i64 xd] 76) := by unfold Hid; rw [← hy2]; exact Blk.new _ _ _
    have qz := Z1.out.later ((Below.refl _ _).alloc (Nat.le_refl _) (.cells #[.int .i64 xc, .int .i64 xy, .int .i64 xs, .int .i64 xm, .int .i64 xd] 76))
    rw [hy2] at qz
    have Z2 := hideP qz
    rw [hy2]
    clear hy2 Z1 qz
    go_wp2_with fail
    refine (K2 _ y2.below).mono ?_
    rintro e w3 ⟨rfl, hb⟩
    have Z3 := hideP (Z2.out.later hb)
    have X3 : Hid (Blk w3 y1.w.heap.size #[.int .i64 xc, .int .i64 xy, .int .i64 xs, .int .i64 xm, .int .i64 xd] 76) := X2.out.below hb X2.out.lt
    clear hb K2 Z2 X2
    go_upto_region 9 with fail
    obtain ⟨W9, e9⟩ : ∃ W9, W9 = w3.alloc (.cells #[.int .i64 zc, .int .i64 zy, .int .i64 zq, .int .i64 zm, .int .i64 zd] 76) := ⟨_, rfl⟩
    have qz := Z3.out.later ((Below.refl _ _).alloc (Nat.le_refl _) (.cells #[.int .i64 zc, .int .i64 zy, .int .i64 zq, .int .i64 zm, .int .i64 zd] 76))
    rw [← e9] at qz
    have Z9 := hideP qz
    clear qz
    have X9 : Blk W9 y1.w.heap.size #[.int .i64 xc, .int .i64 xy, .int .i64 xs, .int .i64 xm, .int .i64 xd] 76 := by rw [e9]; exact X3.out.alloc _
    have Y9 : Blk W9 w3.heap.size #[.int .i64 zc, .int .i64 zy, .int .i64 zq, .int .i64 zm, .int .i64 zd] 76 := by rw [e9]; exact Blk.new _ _ _
    have a1' := X9.cell 1 rfl
    have a3' := X9.cell 3 rfl
    have a4' := X9.cell 4 rfl
    have z1' := Y9.cell 1 rfl
    have z3' := Y9.cell 3 rfl
    have z4' := Y9.cell 4 rfl
    rw [← e9]
    clear e9 X9 Y9 Z3 X3
    unfold likeB at HPn
    dsimp only at HPn
    have miss : Hid (pn = false → DSet zs (Upto f P (n + 1))) := HY
    cases o1
    · have HD := hideP (HY.out (by rw [HPn.out]; simp [*]))
      clear HPn HX HY miss
      go_wp2
      exact ⟨⟨n + 1, zs, rfl, by omega, .inl (by omega), HD.out, Z9.out⟩, by simp [intOf]; omega⟩
    cases o2
    · have HD := hideP (HY.out (by rw [HPn.out]; simp [*]))
      clear HPn HX HY miss
      go_wp2
      exact ⟨⟨n + 1, zs, rfl, by omega, .inl (by omega), HD.out, Z9.out⟩, by simp [intOf]; omega⟩
    by_cases c1 : xm = zm
    case neg =>
      have c1' : (xm == zm) = false := by simpa using c1
      have HD := hideP (HY.out (by rw [HPn.out]; simp [*]))
      clear HPn HX HY miss
      go_wp2
      exact ⟨⟨n + 1, zs, rfl, by omega, .inl (by omega), HD.out, Z9.out⟩, by simp [intOf]; omega⟩
    by_cases c2 : xd = zd
    case neg =>
      have c2' : (xd == zd) = false := by simpa using c2
      have c1' : (xm == zm) = true := by simpa using c1
      have HD := hideP (HY.out (by rw [HPn.out]; simp [*]))
      clear HPn HX HY miss
      go_wp2
      exact ⟨⟨n + 1, zs, rfl, by omega, .inl (by omega), HD.out, Z9.out⟩, by simp [intOf]; omega⟩
    by_cases c3 : xy = zy
    case neg =>
      have c3' : (xy == zy) = false := by simpa using c3
      have c1' : (xm == zm) = true := by simpa using c1
      have c2' : (xd == zd) = true := by simpa using c2
      have HD := hideP (HY.out (by rw [HPn.out]; simp [*]))
      clear HPn HX HY miss
      go_wp2
      exact ⟨⟨n + 1, zs, rfl, by omega, .inl (by omega), HD.out, Z9.out⟩, by simp [intOf]; omega⟩
    have c1' : (xm == zm) = true := by simpa using c1
    have c2' : (xd == zd) = true := by simpa using c2
    have c3' : (xy == zy) = true := by simpa using c3
    have HD := hideP (HX.out (by rw [HPn.out, c1', c2', c3']; rfl))
    clear HPn HX HY miss c1 c2 c3
    go_wp2_with (at_builtin; refine wpList_append_own _ rfl _ _ 50 rfl W0.heap.size 3 i0 (.int .i64 0) 1 8 Tryz.underlying50 hi hz0 hz1 hz2 rfl (by decide) _ _ _ rfl (Z9.out.row.alloc _) ⟨W9.heap.size, 0, none⟩ 1 1 [.int .i64 n] rfl rfl (cell_one_new _ _ _) (by simp [Value.oneCell']) (by unfold maxLen; omega) (by omega) (by have := Z9.out.below.size; rw [inew]; omega) ?_; intro v' w9 hown' hgrow _)
    exact ⟨⟨n + 1, zs ++ [n], rfl, by omega, .inl (by omega), HD.out, Z9.out.app n hown' hgrow⟩, by simp [intOf]; omega⟩
end Go.Proofs.YtdgolaaheakfoaaGreatDoor.ctr
