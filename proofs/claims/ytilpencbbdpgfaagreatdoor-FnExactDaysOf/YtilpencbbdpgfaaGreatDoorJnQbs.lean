/- The model's l11Put: a day put into its place in a row of its own, where it is not there yet. The model's DaysOf: the days of a reading, ascending, in a row of its own. -/
import Derived.Test.YtilpencbbdpgfaaGreatDoorJnQbp
import Derived.Test.YtilpencbbdpgfaaGreatDoorJnQbm
import Derived.Test.YtilpencbbdpgfaaGreatDoorJnQan
import Derived.Test.YtilpencbbdpgfaaGreatDoorJnQas
import Derived.Deep.RegionHeldLaw
import Derived.Deep.RegionLaw
import Derived.Test.YtilpencbbdpgfaaGreatDoorJnQbr
import Derived.Test.YtilpencbbdpgfaaGreatDoorJnQay
import Derived.Deep.RegionHeld
import Derived.Deep.DeepCutAuto
namespace Go.Proofs.YtilpencbbdpgfaaGreatDoor.ctr
open Go.RowKit
def SubI (w : World) (v : Value) (M : List Int) : Prop := ∃ ad c, v = .slice (some ad) M.length c ∧ ad.block < w.heap.size ∧ ∀ j u, (M.map (Value.int .i64))[j]? = some u → w.cell? (ad.add j) = some u
theorem SubI.below {X Y : World} {v : Value} {L : List Int} (h : SubI X v L) (hb : Below X.heap.size X Y) : SubI Y v L := by
  obtain ⟨ad, c, e, hl, h⟩ := h
  refine ⟨ad, c, e, Nat.lt_of_lt_of_le hl hb.size, fun j u hj => ?_⟩
  exact Later.at (h j u hj) ⟨Y, hb⟩
theorem SubI.dr {X : World} {v : Value} {L : List Int} (h : SubI X v L) : SubI X.drew v L := h
theorem addI_block (ad : Addr) (j : Nat) : (ad.add j).block = ad.block := by unfold Addr.add; split <;> rfl
theorem SubI.grown {X Y : World} {v : Value} {L : List Int} {r : Option Nat} (h : SubI X v L) (hg : X.grownBy Y r) (hr : ∀ ad n c, v = .slice (some ad) n c → some ad.block ≠ r) : SubI Y v L := by
  obtain ⟨ad, c, e, hl, h⟩ := h
  refine ⟨ad, c, e, Nat.lt_of_lt_of_le hl hg.size, fun j u hj => ?_⟩
  exact hg.cell (h j u hj) (by rw [addI_block]; exact hr ad _ _ e)
theorem subI_one {X : World} {N : Nat} (hN : X.heap.size = N) (z : Int) : SubI (X.alloc (.cells #[.int .i64 z] 3)) (.slice (some ⟨N, 0, none⟩) 1 1) [z] := by
  subst hN
  refine ⟨⟨X.heap.size, 0, none⟩, 1, rfl, by rw [World.size_alloc]; exact Nat.lt_succ_self _, fun j u hj => ?_⟩
  exact cell_one_new X _ _ j u (by simpa using hj)
theorem ISt.al {W X : World} {v : Value} {L : List Int} (h : ISt W v L X) (o : Obj) : ISt W v L (X.alloc o) := h.later ((Below.refl _ _).alloc (Nat.le_refl _) _)
theorem ISt.dr {W X : World} {v : Value} {L : List Int} (h : ISt W v L X) : ISt W v L X.drew := h.later (Below.refl _ _).drew
theorem ist_new {W X : World} {N : Nat} (hN : X.heap.size = N) (hb : Below W.heap.size W X) : ISt W (.slice (some ⟨N, 0, none⟩) 0 0) [] (X.alloc (.cells #[] 3)) := by
  subst hN
  exact ⟨own_mono1 (iown_empty X _) hb.size, hb.alloc hb.size _⟩
theorem step_appI {ops : Array Oper} {o : Oper} {a : Act} {K : Act → World → Prop} {Q : Exit → Act → World → Prop} {E : Prop} {W w : World} (hgd : o.guard = none) (s x : Operand)
    (ho : o.op = .call { callee := .builtin .append, args := #[s, x], argTypes := #[42, 42] }) (L M : List Int) (hs : ISt W (a.eval s) L w) (hx : SubI w (a.eval x) M) (hl : L.length + M.length ≤ 1048577)
    (h : ∀ v' w', ISt W v' (L ++ M) w' → w.grownBy w' (a.eval s).ownBlock → K (a.put o.dst v') w') : if Region.wanted o (yielded ops a.tmps) = true then Oper.wp Tryz.prog o a w K Q else E := by
  obtain ⟨i0, hi, hz0, hz1, hz2⟩ := info_parts info_int
  rw [if_pos (by simp [Region.wanted, hgd])]
  obtain ⟨ad, c, e2, _, hM⟩ := hx
  refine wp_append_own w s x 42 ho W.heap.size 3 i0 (.int .i64 0) 1 8 Tryz.underlying42 hi hz0 hz1 hz2 rfl (by decide) _ L.length (L.map (Value.int .i64)) rfl hs.row ad M.length c (M.map (Value.int .i64)) e2 (by simp) hM (fun z hz => by obtain ⟨q, _, rfl⟩ := List.mem_map.1 hz; rfl) (by unfold maxLen; omega) (by omega) hs.below.size ?_
  intro v' w' h1 h2 _
  exact h v' w' ⟨by rw [List.length_append, List.map_append]; exact h1, hs.below.grown h2 hs.below.size (ibase hs.row)⟩ h2
def PSt (W : World) (v : Value) (xs : List Int) (w : World) : Prop := ISt W v xs w ∧ ∃ g cap, v = .slice (some ⟨g, 0, none⟩) xs.length cap
theorem PSt.later {W : World} {v : Value} {xs : List Int} {w w' : World} (h : PSt W v xs w) (hb : Below w.heap.size w w') : PSt W v xs w' := ⟨h.1.later hb, h.2⟩
theorem pst_some {W : World} {v : Value} {xs : List Int} {w : World} (h : ISt W v xs w) (hn : 0 < xs.length) : PSt W v xs w := by
  refine ⟨h, ?_⟩
  rcases own_rowI (own_mono1 h.row (Nat.le_refl _)) with ⟨q, _⟩ | ⟨g, cap, q, _⟩
  · rw [q] at hn
    cases hn
  · exact ⟨g, cap, q⟩
theorem subI_take {w : World} {g cap a : Nat} {xs : List Int} (h : RowI w g xs) (ha : a ≤ xs.length) : SubI w (.slice (some ⟨g, 0, none⟩) a cap) (xs.take a) := by
  refine ⟨⟨g, 0, none⟩, cap, by rw [List.length_take, Nat.min_eq_left ha], h.lt, fun j u hj => ?_⟩
  have hj' : j < a := by
    have := List.getElem?_eq_some_iff.1 hj
    obtain ⟨q, _⟩ := this
    rw [List.length_map, List.length_take] at q
    omega
  rw [List.getElem?_map, List.getElem?_take, if_pos hj'] at hj
  have hc := h.cell (j := j) (by omega)
  have e : (⟨g, 0, none⟩ : Addr).add j = ⟨g, j, none⟩ := by unfold Addr.add; split <;> simp_all
  rw [e, hc]
  rw [List.getElem?_eq_getElem (by omega : j < xs.length)] at hj
  simpa [List.getD, show j < xs.length by omega] using hj
theorem subI_drop {w : World} {g cap a : Nat} {xs : List Int} (h : RowI w g xs) (ha : a ≤ xs.length) (hcap : xs.length ≤ cap) : ∃ A : Addr, (if cap = a then some (⟨g, 0, none⟩ : Addr) else some ⟨g, a, none⟩) = some A ∧ SubI w (.slice (some A) (xs.length - a) (cap - a)) (xs.drop a) := by
  by_cases hc : cap = a
  · refine ⟨⟨g, 0, none⟩, by rw [if_pos hc], ⟨g, 0, none⟩, cap - a, by rw [List.length_drop], h.lt, fun j u hj => ?_⟩
    rw [List.drop_of_length_le (by omega)] at hj
    simp at hj
  · refine ⟨⟨g, a, none⟩, by rw [if_neg hc], ⟨g, a, none⟩, cap - a, by rw [List.length_drop], h.lt, fun j u hj => ?_⟩
    rw [List.getElem?_map, List.getElem?_drop] at hj
    have hj' : a + j < xs.length := by
      by_cases q : a + j < xs.length
      · exact q
      · rw [List.getElem?_eq_none (by omega)] at hj
        cases hj
    have hc := h.cell (j := a + j) hj'
    have e : (⟨g, a, none⟩ : Addr).add j = ⟨g, a + j, none⟩ := by unfold Addr.add; split <;> simp_all
    rw [e, hc]
    rw [List.getElem?_eq_getElem hj'] at hj
    simpa [List.getD, hj'] using hj
theorem put_set {xs : List Int} {n : Int} {a : Nat} (hx : xs.Pairwise (· < ·)) (ha : a ≤ xs.length) (hu : ∀ j, a ≤ j → j < xs.length → n < xs.getD j 0) (hl : ∀ j, j < a → xs.getD j 0 < n) : DSet ((([] ++ xs.take a) ++ [n]) ++ xs.drop a) (fun z => z ∈ xs ∨ z = n) := by
  have hxs : xs = xs.take a ++ xs.drop a := (List.take_append_drop a xs).symm
  have ht : ∀ z ∈ xs.take a, z < n := fun z hz => by
    obtain ⟨j, hj, rfl⟩ := List.getElem_of_mem hz
    rw [List.length_take] at hj
    have := hl j (by omega)
    simpa [List.getD, show j < xs.length by omega] using this
  have hd : ∀ z ∈ xs.drop a, n < z := fun z hz => by
    obtain ⟨j, hj, rfl⟩ := List.getElem_of_mem hz
    rw [List.length_drop] at hj
    have := hu (a + j) (by omega) (by omega)
    simpa [List.getD, show a + j < xs.length by omega] using this
  have hp := hx
  rw [hxs] at hp
  obtain ⟨p1, p2, p3⟩ := List.pairwise_append.1 hp
  refine ⟨?_, fun z => ?_⟩
  · rw [List.nil_append]
    refine List.pairwise_append.2 ⟨List.pairwise_append.2 ⟨p1, List.pairwise_singleton _ _, fun x hx y hy => by rw [List.mem_singleton.1 hy]; exact ht x hx⟩, p2, fun x hx y hy => ?_⟩
    rcases List.mem_append.1 hx with q | q
    · exact p3 x q y hy
    · rw [List.mem_singleton.1 q]; exact hd y hy
  · rw [List.nil_append, List.mem_append, List.mem_append, List.mem_singleton]
    constructor
    · rintro ((q | q) | q)
      · exact .inl (List.mem_of_mem_take q)
      · exact .inr q
      · exact .inl (List.mem_of_mem_drop q)
    · rintro (q | q)
      · rw [hxs] at q
        rcases List.mem_append.1 q with q | q
        · exact .inl (.inl q)
        · exact .inr q
      · exact .inl (.inr q)
set_option maxRecDepth 100000 in
set_option maxHeartbeats 8000000 in
theorem specPut (W : World) (v : Value) (xs : List Int) (n : Int) (w : World) (h : PSt W v xs w) (hx : xs.Pairwise (· < ·)) (hl : xs.length ≤ 1000) : Calls Tryz.prog 68 #[v, .int .i64 n] w fun e w' => ∃ o ys, e = .returned o ∧ PSt W o ys w' ∧ DSet ys (fun z => z ∈ xs ∨ z = n) ∧ ys.length ≤ xs.length + 1 ∧ Below w.heap.size w w' := by
  obtain ⟨hI, g, cap, rfl⟩ := h
  have hS := hideP hI
  have hrow : xs.length ≤ cap ∧ cap ≤ maxLen ∧ W.heap.size ≤ g ∧ RowI w g xs := by
    have hc : cap ≤ maxLen := by
      rcases hI.row.2 with ⟨q, _⟩ | ⟨g', cap', cur, q, _, _, _, q2, _⟩
      · cases q
      · cases q
        exact q2
    rcases own_rowI (own_mono1 hI.row (Nat.le_refl _)) with ⟨_, q⟩ | ⟨g', cap', q, q1, q2, q3⟩
    · cases q
    · cases q
      exact ⟨q1, hc, q2, q3⟩
  obtain ⟨hc1, hc2, hg, hR⟩ := hrow
  unfold maxLen at hc2
  have HR := hideP hR
  have HX := hideP hx
  clear hI hR hx
  go_enter Tryz.func68, Tryz.ntmps68
  go_wp2
  go_loopw [5] (fun i wr => ∃ a : Nat, a ≤ xs.length ∧ i = .int .i64 (a : Int) ∧ Hid (∀ j, a ≤ j → j < xs.length → n < xs.getD j 0) ∧ wr = w) (fun i _ => (intOf i).toNat)
  case atStart => exact ⟨xs.length, Nat.le_refl _, rfl, fun j p q => absurd q (by omega), rfl⟩
  case round =>
    obtain ⟨a, ha, rfl, HU, rfl⟩ := hrel
    by_cases h0 : 0 < a
    case neg =>
      obtain rfl : a = 0 := by omega
      have HDS : Hid (DSet ((([] ++ xs.take 0) ++ [n]) ++ xs.drop 0) (fun z => z ∈ xs ∨ z = n)) := put_set HX.out (Nat.zero_le _) HU.out (fun j q => by omega)
      clear h0
      go_upto_region 6 with fail
      have HA : Hid (SubI wr (.slice (some ⟨g, 0, none⟩) (0) cap) (xs.take (0))) := subI_take HR.out (by omega)
      have hB : SubI wr (.slice (some ⟨g, 0, none⟩) xs.length cap) (xs.drop 0) := by
        have q := subI_take (cap := cap) HR.out (Nat.le_refl xs.length)
        rw [List.take_length] at q
        exact q
      have HB := hideP hB
      have hac : 0 ≤ cap := by omega
      have HQ1 : Hid (([] : List Int).length + (xs.take (0)).length ≤ 1048577) := by unfold Hid; first | (simp; done) | (simp; omega)
      have HQ2 : Hid (([] ++ xs.take (0)).length + [n].length ≤ 1048577) := by unfold Hid; first | (simp; done) | (simp; omega)
      have HQ3 : Hid (([] ++ xs.take (0) ++ [n]).length + (xs.drop (0)).length ≤ 1048577) := by unfold Hid; first | (simp; done) | (simp; omega)
      clear hB
      go_region_law ((first | (refine step_appI (W := wr) (by rfl) (.tmp 33) (.tmp 36) (by rfl) [] (xs.take (0)) (by first | exact (ist_new rfl (Below.refl _ _)).dr | exact ((ist_new rfl (Below.refl _ _)).al _).dr | exact (ist_new (X := wr.alloc _) (by rw [World.size_alloc]) ((Below.refl _ _).alloc (Nat.le_refl _) _)).dr) (by first | exact (HA.out.below ((Below.refl _ _).alloc (Nat.le_refl _) _)).dr | exact ((HA.out.below ((Below.refl _ _).alloc (Nat.le_refl _) _)).below ((Below.refl _ _).alloc (Nat.le_refl _) _)).dr) HQ1.out ?_; intro v1 w1 O1 G1) | (refine step_appI (W := wr) (by rfl) (.tmp 37) (.tmp 39) (by rfl) ([] ++ xs.take (0)) [n] (by first | exact O1 | exact O1.al _) (by first | exact subI_one rfl n | exact ((subI_one (X := wr.alloc _) (by rw [World.size_alloc]) n).dr).grown G1 (fun ad n c e => by cases e; simp [Act.eval, Value.ownBlock]) | exact (((subI_one (X := wr) rfl n).below ((Below.refl _ _).alloc (Nat.le_refl _) _)).dr).grown G1 (fun ad n c e => by cases e; simp [Act.eval, Value.ownBlock])) HQ2.out ?_; intro v2 w2 O2 G2) | (refine step_appI (W := wr) (by rfl) (.tmp 40) (.tmp 43) (by rfl) ([] ++ xs.take (0) ++ [n]) (xs.drop (0)) (by exact O2) (by exact HB.out.below O2.below) HQ3.out ?_; intro v3 w3 O3 G3)))
      all_goals
        have P3 : Hid (ISt W v3 (([] ++ xs.take (0) ++ [n]) ++ xs.drop (0)) w3) := ⟨own_mono1 O3.row hS.out.below.size, hS.out.below.trans (O3.below.mono hS.out.below.size)⟩
        have hpl : (([] ++ xs.take (0) ++ [n]) ++ xs.drop (0)).length = xs.length + 1 := by first | (simp; done) | (simp; omega)
        have HP := hideP (pst_some P3.out (by omega))
        have HPl := hideP hpl
        have HBw := hideP O3.below
        clear O1 O2 O3 G1 G2 G3 hpl P3
        go_wp2_with fail
        go_ret
        exact ⟨_, _, rfl, HP.out, HDS.out, by rw [HPl.out]; exact Nat.le_refl _, HBw.out⟩
    obtain ⟨b, hba⟩ : ∃ b, a = b + 1 := ⟨a - 1, by omega⟩
    have hb1 : (a : Int) - 1 = (b : Int) := by omega
    have hbx : b < xs.length := by omega
    have hc := HR.out.cell (j := b) hbx
    have hp : decide ((0 : Int) < (a : Int)) = true := decide_eq_true (by omega)
    have HLow : Hid (∀ j, j < b → xs.getD j 0 < xs.getD b 0) := fun j hj => by
      have := List.pairwise_iff_getElem.1 HX.out j b (by omega) (by omega) hj
      simpa [List.getD, show j < xs.length by omega, hbx] using this
    have HMem : Hid (xs.getD b 0 ∈ xs) := by unfold Hid; simp only [List.getD, List.getElem?_eq_getElem hbx, Option.getD_some]; exact List.getElem_mem _
    have Hba := hideP hba
    clear hba
    by_cases h1 : n < xs.getD b 0
    · have HU2 : Hid (∀ j, b ≤ j → j < xs.length → n < xs.getD j 0) := fun j p q => by
        by_cases e : j = b
        · rw [e]; exact h1
        · exact HU.out j (by have := Hba.out; omega) q
      have hd : decide (n < xs.getD b 0) = true := decide_eq_true h1
      clear HU HLow HMem h1
      generalize xs.getD b 0 = z at *
      go_wp2
      exact ⟨⟨b, by omega, by first | rfl | go_num, HU2.out, by first | rfl | trivial⟩, by have := Hba.out; first | (simp [intOf]; done) | (simp [intOf]; omega)⟩
    have hd : decide (n < xs.getD b 0) = false := decide_eq_false h1
    by_cases h2 : xs.getD b 0 = n
    · have hd2 : (xs.getD b 0 == n) = true := by simpa using h2
      have HD : Hid (DSet xs (fun z => z ∈ xs ∨ z = n)) := ⟨HX.out, fun z => ⟨.inl, fun q => by
        rcases q with q | q
        · exact q
        · rw [q, ← h2]; exact HMem.out⟩⟩
      clear HU HLow HMem h1 h2
      generalize xs.getD b 0 = z at *
      go_wp2
      go_ret
      exact ⟨_, xs, rfl, ⟨hS.out, _, _, rfl⟩, HD.out, by omega, Below.refl _ _⟩
    have hd2 : (xs.getD b 0 == n) = false := by simpa using h2
    have HDS : Hid (DSet ((([] ++ xs.take a) ++ [n]) ++ xs.drop a) (fun z => z ∈ xs ∨ z = n)) := put_set HX.out ha HU.out (fun j q => by
      have := Hba.out
      by_cases e : j = b
      · rw [e]; omega
      · have := HLow.out j (by omega); omega)
    clear HU HLow HMem h1 h2
    generalize xs.getD b 0 = z at *
    go_upto_region 6 with fail
    have HA : Hid (SubI wr (.slice (some ⟨g, 0, none⟩) (a) cap) (xs.take (a))) := subI_take HR.out (by omega)
    obtain ⟨AD, hAD, hB⟩ := subI_drop (cap := cap) (a := a) HR.out (by omega) hc1
    have HB := hideP hB
    have hac : a ≤ cap := by omega
    have HQ1 : Hid (([] : List Int).length + (xs.take (a)).length ≤ 1048577) := by unfold Hid; first | (simp; done) | (simp; omega)
    have HQ2 : Hid (([] ++ xs.take (a)).length + [n].length ≤ 1048577) := by unfold Hid; first | (simp; done) | (simp; omega)
    have HQ3 : Hid (([] ++ xs.take (a) ++ [n]).length + (xs.drop (a)).length ≤ 1048577) := by unfold Hid; first | (simp; done) | (simp; omega)
    clear hB
    go_region_law ((first | (refine step_appI (W := wr) (by rfl) (.tmp 33) (.tmp 36) (by rfl) [] (xs.take (a)) (by first | exact (ist_new rfl (Below.refl _ _)).dr | exact ((ist_new rfl (Below.refl _ _)).al _).dr | exact (ist_new (X := wr.alloc _) (by rw [World.size_alloc]) ((Below.refl _ _).alloc (Nat.le_refl _) _)).dr) (by first | exact (HA.out.below ((Below.refl _ _).alloc (Nat.le_refl _) _)).dr | exact ((HA.out.below ((Below.refl _ _).alloc (Nat.le_refl _) _)).below ((Below.refl _ _).alloc (Nat.le_refl _) _)).dr) HQ1.out ?_; intro v1 w1 O1 G1) | (refine step_appI (W := wr) (by rfl) (.tmp 37) (.tmp 39) (by rfl) ([] ++ xs.take (a)) [n] (by first | exact O1 | exact O1.al _) (by first | exact subI_one rfl n | exact ((subI_one (X := wr.alloc _) (by rw [World.size_alloc]) n).dr).grown G1 (fun ad n c e => by cases e; simp [Act.eval, Value.ownBlock]) | exact (((subI_one (X := wr) rfl n).below ((Below.refl _ _).alloc (Nat.le_refl _) _)).dr).grown G1 (fun ad n c e => by cases e; simp [Act.eval, Value.ownBlock])) HQ2.out ?_; intro v2 w2 O2 G2) | (refine step_appI (W := wr) (by rfl) (.tmp 40) (.tmp 43) (by rfl) ([] ++ xs.take (a) ++ [n]) (xs.drop (a)) (by exact O2) (by exact HB.out.below O2.below) HQ3.out ?_; intro v3 w3 O3 G3)))
    all_goals
      have P3 : Hid (ISt W v3 (([] ++ xs.take (a) ++ [n]) ++ xs.drop (a)) w3) := ⟨own_mono1 O3.row hS.out.below.size, hS.out.below.trans (O3.below.mono hS.out.below.size)⟩
      have hpl : (([] ++ xs.take (a) ++ [n]) ++ xs.drop (a)).length = xs.length + 1 := by first | (simp; done) | (simp; omega)
      have HP := hideP (pst_some P3.out (by omega))
      have HPl := hideP hpl
      have HBw := hideP O3.below
      clear O1 O2 O3 G1 G2 G3 hpl P3
      go_wp2_with fail
      go_ret
      exact ⟨_, _, rfl, HP.out, HDS.out, by rw [HPl.out]; exact Nat.le_refl _, HBw.out⟩
end Go.Proofs.YtilpencbbdpgfaaGreatDoor.ctr
namespace Go.Proofs.YtilpencbbdpgfaaGreatDoor.ctr
open Go.RowKit
set_option linter.unusedSimpArgs false
theorem rdg_ne {zc zy zs zm zd xc xy xs xm xd : Int} (h : ¬ (zc = xc ∧ zy = xy ∧ zs = xs ∧ zm = xm ∧ zd = xd)) : ¬ (⟨zc, zy, zs, zm, zd⟩ : Rdg) = ⟨xc, xy, xs, xm, xd⟩ := fun q => h (by injection q with q1 q2 q3 q4 q5; exact ⟨q1, q2, q3, q4, q5⟩)
theorem blkZ {w : World} {b : Nat} {u0 u1 u2 u3 u4 v0 v1 v2 v3 v4 : Value} {t : TypeId} (h : Blk w b #[u0, u1, u2, u3, u4] t) : Blk (((((w.setCell ⟨b, 0, none⟩ v0).setCell ⟨b, 1, none⟩ v1).setCell ⟨b, 2, none⟩ v2).setCell ⟨b, 3, none⟩ v3).setCell ⟨b, 4, none⟩ v4) b #[v0, v1, v2, v3, v4] t := ((((h.set 0 v0).set 1 v1).set 2 v2).set 3 v3).set 4 v4
theorem factsZ {w : World} {b : Nat} {u0 u1 u2 u3 u4 : Value} {t : TypeId} (h : Blk w b #[u0, u1, u2, u3, u4] t) : w.cell? ⟨b, 0, none⟩ = some u0 ∧ w.cell? ⟨b, 1, none⟩ = some u1 ∧ w.cell? ⟨b, 2, none⟩ = some u2 ∧ w.cell? ⟨b, 3, none⟩ = some u3 ∧ w.cell? ⟨b, 4, none⟩ = some u4 ∧ w.frozen? ⟨b, 0, none⟩ = false ∧ w.frozen? ⟨b, 1, none⟩ = false ∧ w.frozen? ⟨b, 2, none⟩ = false ∧ w.frozen? ⟨b, 3, none⟩ = false ∧ w.frozen? ⟨b, 4, none⟩ = false :=
  ⟨h.cell 0 rfl, h.cell 1 rfl, h.cell 2 rfl, h.cell 3 rfl, h.cell 4 rfl, h.thaw 0, h.thaw 1, h.thaw 2, h.thaw 3, h.thaw 4⟩
set_option maxRecDepth 100000 in
set_option maxHeartbeats 16000000 in
theorem specDaysOf (v : Value) (r : Rgm) (x : Rdg) (w : World) (h : GRow w v r) (hf : -9223372036854775808 ≤ r.fr) (ht : r.to ≤ 9223372036854775807) : Calls Tryz.prog 21 #[v, rdgV x] w fun e w' => ∃ o, e = .returned o ∧ MovRow w w' o (daysOfR r x) ∧ Below w.heap.size w w' := by
  have hG := h
  obtain ⟨v1, v2, v3, rfl, _, x1, x2, x3⟩ := h
  obtain ⟨a1, c1, rfl, _, _, hcS⟩ := x1
  obtain ⟨a2, c2, rfl, _, _, hcP⟩ := x2
  obtain ⟨a3, c3, rfl, _⟩ := x3
  obtain ⟨xc, xy, xs, xm, xd⟩ := x
  obtain ⟨W0, e0, HR, HZ, HB⟩ := boxR w #[.string r.name, .int .i64 r.fr, .int .i64 r.to, .slice a1 r.segs.length c1, .slice a2 r.pats.length c2, .slice a3 r.rgns.length c3, .int .i64 r.rule] 36 #[.int .i64 xc, .int .i64 xy, .int .i64 xs, .int .i64 xm, .int .i64 xd] 29
  obtain ⟨r0, r1, r2, r3, r4, r5, r6⟩ := sevenL HR.out
  obtain ⟨u0, u1, u2, u3, u4⟩ := fiveL HZ.out
  have E0 := hideP e0
  have HB0 : Hid (Below w.heap.size w W0) := HB.out ⟨W0, Below.refl _ _⟩
  have HKS : Hid (∀ (V : World), Below W0.heap.size W0 V → ∀ k, k < r.segs.length → ∃ g, a1 = some ⟨g, 0, none⟩ ∧ IAt segK V g k (atK segK r.segs k)) := fun V hb k hk => by
    obtain ⟨g, e, hg, x⟩ := hcS k hk
    exact ⟨g, e, x.below (HB.out ⟨V, hb⟩) hg⟩
  have HKP : Hid (∀ (V : World), Below W0.heap.size W0 V → ∀ k, k < r.pats.length → ∃ g, a2 = some ⟨g, 0, none⟩ ∧ IAt patK V g k (atK patK r.pats k)) := fun V hb k hk => by
    obtain ⟨g, e, hg, x⟩ := hcP k hk
    exact ⟨g, e, x.below (HB.out ⟨V, hb⟩) hg⟩
  have KO : ∀ y : Later W0, Calls Tryz.prog 56 #[.agg #[.string r.name, .int .i64 r.fr, .int .i64 r.to, .slice a1 r.segs.length c1, .slice a2 r.pats.length c2, .slice a3 r.rgns.length c3, .int .i64 r.rule]] y.w fun e w' => e = .returned (.bool (regimeB r)) ∧ Below y.w.heap.size y.w w' := fun y => specRegimeOk _ r y.w (hG.below (HB.out y)) hf ht
  have KA : Hid (regimeB r = true → ∀ (n : Int) W, Below W0.heap.size W0 W → Calls Tryz.prog 57 #[.agg #[.string r.name, .int .i64 r.fr, .int .i64 r.to, .slice a1 r.segs.length c1, .slice a2 r.pats.length c2, .slice a3 r.rgns.length c3, .int .i64 r.rule], .int .i64 n] W fun e w' => e = .returned (.tuple #[rdgV (rdgX r n), .bool (decide (r.fr ≤ n ∧ n ≤ r.to))]) ∧ Below W.heap.size W w') := fun q n W hb => specReadX _ r n W (hG.below (HB.out ⟨W, hb⟩)) q
  have KD : Hid (∀ W, Calls Tryz.prog 66 #[.agg #[.int .i64 xc, .int .i64 xs, .int .i64 xm, .int .i64 xd]] W fun e w' => e = .returned (.int .i64 (dayOf xc xs xm xd)) ∧ Below W.heap.size W w') := fun W => specDayOf xc xs xm xd W
  have KK : Hid (∀ W, Calls Tryz.prog 67 #[.agg #[.int .i64 xc, .int .i64 xs, .int .i64 xm, .int .i64 xd]] W fun e w' => e = .returned (.bool (dateOk xc xs xm xd)) ∧ Below W.heap.size W w') := fun W => specDateOk xc xs xm xd W
  have KU : Hid (∀ o zs n W, PSt W0 o zs W → zs.Pairwise (· < ·) → zs.length ≤ 1000 → Calls Tryz.prog 68 #[o, .int .i64 n] W fun e w' => ∃ o' ys, e = .returned o' ∧ PSt W0 o' ys w' ∧ DSet ys (fun z => z ∈ zs ∨ z = n) ∧ ys.length ≤ zs.length + 1 ∧ Below W.heap.size W w') := fun o zs n W p q l => specPut W0 o zs n W p q l
  have S0 : Hid (PSt W0 (.slice (some ⟨W0.heap.size, 0, none⟩) 0 0) [] (W0.alloc (.cells #[] 3))) := ⟨⟨iown_empty W0 _, (Below.refl _ _).alloc (Nat.le_refl _) _⟩, _, _, rfl⟩
  obtain ⟨xE, hxE⟩ : ∃ xE : Later W0, W0.alloc (.cells #[] 3) = xE.w := ⟨⟨_, S0.out.1.below⟩, rfl⟩
  have HxE := hideP hxE
  rw [hxE] at S0
  clear hxE
  have HSz : Hid (w.heap.size + 1 + 1 = W0.heap.size) := by unfold Hid; rw [E0.out, World.size_alloc, World.size_alloc]
  have hDb := dayOf_bound xc xs xm xd
  clear e0 hG hf ht hcS hcP HR HZ HB
  cases hO : regimeB r
  · rw [show daysOfR r ⟨xc, xy, xs, xm, xd⟩ = [] by unfold daysOfR; rw [if_neg (by rw [hO]; simp)]]
    rw [hO] at KO
    clear KA KD KK KU HKS HKP hO hDb
    go_enter Tryz.func21, Tryz.ntmps21
    go_upto_region 2 with fail
    rw [← E0.out, HxE.out]
    rw [HSz.out]
    go_upto_region 3 with fail
    obtain ⟨y2, hy2⟩ : ∃ y2 : Later W0, xE.w.alloc (.cells #[.int .i64 xc, .int .i64 xs, .int .i64 xm, .int .i64 xd] 92) = y2.w := ⟨⟨_, xE.below.alloc xE.below.size _⟩, rfl⟩
    have q2 := S0.out.later (show Below xE.w.heap.size xE.w (xE.w.alloc (.cells #[.int .i64 xc, .int .i64 xs, .int .i64 xm, .int .i64 xd] 92)) from (Below.refl _ _).alloc (Nat.le_refl _) _)
    rw [hy2] at q2 ⊢
    have S2 := hideP q2
    clear q2 hy2
    go_wp2_with fail
    refine (KO y2).mono ?_
    rintro e w3 ⟨rfl, hb⟩
    have S3 := hideP (S2.out.later hb)
    clear hb
    go_wp2
    go_ret
    exact ⟨_, rfl, S3.out.1.done HB0.out⟩
  rw [hO] at KO
  have KA := hideP (KA.out hO)
  have hsl := right_segs hO
  have hpl := right_pats hO
  have hsg : Hid (∀ k, k < r.segs.length → segOkB (atK segK r.segs k) = true) := fun k hk => (right_seg hO hk).1
  have HAll : Hid (∀ zs, DSet zs (Got2 r ⟨xc, xy, xs, xm, xd⟩ r.pats.length) → zs = daysOfR r ⟨xc, xy, xs, xm, xd⟩) := fun zs q => got_all hO q
  have H1o : Hid (DSet [] (Got1 r ⟨xc, xy, xs, xm, xd⟩ 0)) := got1_open r ⟨xc, xy, xs, xm, xd⟩
  have H2o : Hid (∀ zs, DSet zs (Got1 r ⟨xc, xy, xs, xm, xd⟩ r.segs.length) → DSet zs (Got2 r ⟨xc, xy, xs, xm, xd⟩ 0)) := fun zs q => got2_open q
  have H1h : Hid (∀ (k : Nat) zs ys, DSet zs (Got1 r ⟨xc, xy, xs, xm, xd⟩ k) → k < r.segs.length → hitB r ⟨xc, xy, xs, xm, xd⟩ (dayOf xc xs xm xd - (atK segK r.segs k).off) = true → dateOk xc xs xm xd = true → DSet ys (fun z => z ∈ zs ∨ z = dayOf xc xs xm xd - (atK segK r.segs k).off) → DSet ys (Got1 r ⟨xc, xy, xs, xm, xd⟩ (k + 1))) := fun k zs ys a b c d e => got1_hit (x := ⟨xc, xy, xs, xm, xd⟩) a b c d e
  have H1m : Hid (∀ (k : Nat) zs, DSet zs (Got1 r ⟨xc, xy, xs, xm, xd⟩ k) → ¬ (hitB r ⟨xc, xy, xs, xm, xd⟩ (dayOf xc xs xm xd - (atK segK r.segs k).off) = true ∧ dateOk xc xs xm xd = true) → DSet zs (Got1 r ⟨xc, xy, xs, xm, xd⟩ (k + 1))) := fun k zs a b => got1_miss (x := ⟨xc, xy, xs, xm, xd⟩) a b
  have H2h : Hid (∀ (k : Nat) zs ys, DSet zs (Got2 r ⟨xc, xy, xs, xm, xd⟩ k) → k < r.pats.length → hitB r ⟨xc, xy, xs, xm, xd⟩ (atK patK r.pats k).day = true → DSet ys (fun z => z ∈ zs ∨ z = (atK patK r.pats k).day) → DSet ys (Got2 r ⟨xc, xy, xs, xm, xd⟩ (k + 1))) := fun k zs ys a b c d => got2_hit a b c d
  have H2m : Hid (∀ (k : Nat) zs, DSet zs (Got2 r ⟨xc, xy, xs, xm, xd⟩ k) → ¬ hitB r ⟨xc, xy, xs, xm, xd⟩ (atK patK r.pats k).day = true → DSet zs (Got2 r ⟨xc, xy, xs, xm, xd⟩ (k + 1))) := fun k zs a b => got2_miss a b
  have HH : Hid (∀ n, hitB r ⟨xc, xy, xs, xm, xd⟩ n = decide ((r.fr ≤ n ∧ n ≤ r.to) ∧ rdgX r n = ⟨xc, xy, xs, xm, xd⟩)) := fun n => rfl
  clear hO
  generalize hitB r ⟨xc, xy, xs, xm, xd⟩ = hit at *
  generalize daysOfR r ⟨xc, xy, xs, xm, xd⟩ = res at *
  generalize Got1 r ⟨xc, xy, xs, xm, xd⟩ = G1 at *
  generalize Got2 r ⟨xc, xy, xs, xm, xd⟩ = G2 at *
  generalize dayOf xc xs xm xd = D at *
  generalize dateOk xc xs xm xd = dok at *
  go_enter Tryz.func21, Tryz.ntmps21
  go_upto_region 2 with fail
  rw [← E0.out, HxE.out]
  rw [HSz.out]
  go_upto_region 3 with fail
  obtain ⟨y2, hy2⟩ : ∃ y2 : Later W0, xE.w.alloc (.cells #[.int .i64 xc, .int .i64 xs, .int .i64 xm, .int .i64 xd] 92) = y2.w := ⟨⟨_, xE.below.alloc xE.below.size _⟩, rfl⟩
  have q2 := S0.out.later (show Below xE.w.heap.size xE.w (xE.w.alloc (.cells #[.int .i64 xc, .int .i64 xs, .int .i64 xm, .int .i64 xd] 92)) from (Below.refl _ _).alloc (Nat.le_refl _) _)
  have b2 : Blk (xE.w.alloc (.cells #[.int .i64 xc, .int .i64 xs, .int .i64 xm, .int .i64 xd] 92)) xE.w.heap.size #[.int .i64 xc, .int .i64 xs, .int .i64 xm, .int .i64 xd] 92 := Blk.new _ _ _
  rw [hy2] at q2 b2 ⊢
  have S2 := hideP q2
  have B2 := hideP b2
  clear q2 hy2 b2 S0 HxE
  generalize xE.w.heap.size = pd at *
  clear xE
  go_wp2_with fail
  refine (KO y2).mono ?_
  rintro e w3 ⟨rfl, hb⟩
  have S3 := hideP (S2.out.later hb)
  have B3 := hideP (B2.out.below hb B2.out.lt)
  clear hb S2 B2 KO
  go_wp2_with fail
  go_loopw [5, 7, 8, 9, 10] (fun o i _ _ _ wr => ∃ (k : Nat) (zs : List Int), k ≤ r.segs.length ∧ i = .int .i64 (k : Int) ∧ PSt W0 o zs wr ∧ Hid (DSet zs (G1 k)) ∧ zs.length ≤ k ∧ Hid (Blk wr pd #[.int .i64 xc, .int .i64 xs, .int .i64 xm, .int .i64 xd] 92)) (fun _ i _ _ _ _ => ((r.segs.length : Int) - intOf i).toNat)
  case atStart => exact ⟨0, [], Nat.zero_le _, rfl, S3.out, H1o.out, Nat.le_refl _, B3.out⟩
  case round =>
    obtain ⟨k, zs, hk, rfl, hP, HDZ, hzl, HX⟩ := hrel
    have SP := hideP hP
    obtain ⟨y, rfl⟩ : ∃ y : Later W0, wr = y.w := ⟨⟨wr, hP.1.below⟩, rfl⟩
    clear hP S3 B3
    by_cases hlt : (k : Int) < (r.segs.length : Int)
    case neg =>
      obtain rfl : k = r.segs.length := by omega
      have HD2 := hideP (H2o.out zs HDZ.out)
      clear HDZ H1o H1h H1m H2o hlt
      go_wp2_with fail
      go_loopw [5, 11, 12, 13] (fun o j _ _ wr => ∃ (k : Nat) (zs : List Int), k ≤ r.pats.length ∧ j = .int .i64 (k : Int) ∧ PSt W0 o zs wr ∧ Hid (DSet zs (G2 k)) ∧ zs.length ≤ 20 + k) (fun _ j _ _ _ => ((r.pats.length : Int) - intOf j).toNat)
      case atStart => exact ⟨0, zs, Nat.zero_le _, rfl, SP.out, HD2.out, by omega⟩
      case round =>
        obtain ⟨k, zs2, hk2, rfl, hP, HDZ, hzl2⟩ := hrel
        have SP2 := hideP hP
        clear SP HX HD2
        obtain ⟨y3, rfl⟩ : ∃ y3 : Later W0, wr = y3.w := ⟨⟨wr, hP.1.below⟩, rfl⟩
        clear hP
        by_cases hlt : (k : Int) < (r.pats.length : Int)
        case neg =>
          obtain rfl : k = r.pats.length := by omega
          have HE := hideP (HAll.out zs2 HDZ.out)
          go_wp2
          go_ret
          have q := SP2.out.1.done HB0.out
          rw [HE.out] at q
          exact ⟨_, rfl, q⟩
        have hkn : k < r.pats.length := by omega
        obtain ⟨g, rfl, xx⟩ := HKP.out y3.w y3.below k hkn
        have HGg : Hid (∀ V, Below W0.heap.size W0 V → V.cell? ⟨g, k * 3, none⟩ = some (.int .i64 (atK patK r.pats k).day)) := fun V hb => by
          obtain ⟨g', e', x'⟩ := HKP.out V hb k hkn
          cases e'
          exact x' 0 _ rfl
        have HHit : Hid (∀ ys, hit (atK patK r.pats k).day = true → DSet ys (fun z => z ∈ zs2 ∨ z = (atK patK r.pats k).day) → DSet ys (G2 (k + 1))) := fun ys p l => H2h.out k zs2 ys HDZ.out hkn p l
        have HMis : Hid (¬ hit (atK patK r.pats k).day = true → DSet zs2 (G2 (k + 1))) := fun p => H2m.out k zs2 HDZ.out p
        have HPw : Hid (zs2.Pairwise (· < ·)) := HDZ.out.1
        have HE := hideP (HH.out (atK patK r.pats k).day)
        clear xx HDZ H2h H2m HAll HH hsg HKS HKP
        generalize (atK patK r.pats k).day = n at *
        obtain ⟨ok1, hok1⟩ : ∃ b, decide (r.fr ≤ n ∧ n ≤ r.to) = b := ⟨_, rfl⟩
        obtain ⟨zr, hzr⟩ : ∃ z, rdgX r n = z := ⟨_, rfl⟩
        have K1 : Hid (∀ W, Below y3.w.heap.size y3.w W → Calls Tryz.prog 57 #[.agg #[.string r.name, .int .i64 r.fr, .int .i64 r.to, .slice a1 r.segs.length c1, .slice (some ⟨g, 0, none⟩) r.pats.length c2, .slice a3 r.rgns.length c3, .int .i64 r.rule], .int .i64 n] W fun e w' => e = .returned (.tuple #[rdgV zr, .bool ok1]) ∧ Below W.heap.size W w') := by
          intro W hb
          rw [← hok1, ← hzr]
          exact KA.out n W (y3.on hb)
        rw [hzr] at HE
        obtain ⟨zc, zy, zs_, zm, zd⟩ := zr
        have HOk := hideP hok1
        have KE : Hid (∀ w', Below y3.w.heap.size y3.w w' → w'.cell? ⟨w.heap.size, 0, none⟩ = some (.string r.name) ∧ w'.cell? ⟨w.heap.size, 1, none⟩ = some (.int .i64 r.fr) ∧ w'.cell? ⟨w.heap.size, 2, none⟩ = some (.int .i64 r.to) ∧ w'.cell? ⟨w.heap.size, 3, none⟩ = some (.slice a1 r.segs.length c1) ∧ w'.cell? ⟨w.heap.size, 4, none⟩ = some (.slice (some ⟨g, 0, none⟩) r.pats.length c2) ∧ w'.cell? ⟨w.heap.size, 5, none⟩ = some (.slice a3 r.rgns.length c3) ∧ w'.cell? ⟨w.heap.size, 6, none⟩ = some (.int .i64 r.rule) ∧ w'.cell? ⟨g, k * 3, none⟩ = some (.int .i64 n)) := fun w' q => ⟨r0 ⟨w', y3.on q⟩, r1 ⟨w', y3.on q⟩, r2 ⟨w', y3.on q⟩, r3 ⟨w', y3.on q⟩, r4 ⟨w', y3.on q⟩, r5 ⟨w', y3.on q⟩, r6 ⟨w', y3.on q⟩, HGg.out w' (y3.on q)⟩
        have KL : Hid (∀ (V : World) (o : Obj), Below y3.w.heap.size y3.w V → Below y3.w.heap.size y3.w (V.alloc o)) := fun V o q => q.alloc q.size o
        have KLd : Hid (∀ (V : World) (o : Obj), Below y3.w.heap.size y3.w V → Below y3.w.heap.size y3.w (V.alloc o).drew) := fun V o q => (q.alloc q.size o).drew
        have KB : Hid (∀ V V', Below y3.w.heap.size y3.w V → Below V.heap.size V V' → Below y3.w.heap.size y3.w V') := fun V V' p q => p.trans (q.mono p.size)
        have KN : Hid (∀ (V V' : World), Below (V.alloc (.cells #[.int .i64 0, .int .i64 0, .int .i64 0, .int .i64 0, .int .i64 0] 29)).heap.size (V.alloc (.cells #[.int .i64 0, .int .i64 0, .int .i64 0, .int .i64 0, .int .i64 0] 29)) V' → Blk V' V.heap.size #[.int .i64 0, .int .i64 0, .int .i64 0, .int .i64 0, .int .i64 0] 29) := fun V V' q => (Blk.new V _ _).below q (by rw [World.size_alloc]; exact Nat.lt_succ_self _)
        have KNd : Hid (∀ (V V' : World), Below (V.alloc (.cells #[.int .i64 0, .int .i64 0, .int .i64 0, .int .i64 0, .int .i64 0] 29)).drew.heap.size (V.alloc (.cells #[.int .i64 0, .int .i64 0, .int .i64 0, .int .i64 0, .int .i64 0] 29)).drew V' → Blk V' V.heap.size #[.int .i64 0, .int .i64 0, .int .i64 0, .int .i64 0, .int .i64 0] 29) := fun V V' q => (Blk.new V _ _).drew.below q (by show V.heap.size < (V.alloc (.cells #[.int .i64 0, .int .i64 0, .int .i64 0, .int .i64 0, .int .i64 0] 29)).heap.size; rw [World.size_alloc]; exact Nat.lt_succ_self _)
        have KS : Hid (∀ (V : World) (b : Nat) (v0 v1 v2 v3 v4 : Value), Below y3.w.heap.size y3.w V → y3.w.heap.size ≤ b → Below y3.w.heap.size y3.w (((((V.setCell ⟨b, 0, none⟩ v0).setCell ⟨b, 1, none⟩ v1).setCell ⟨b, 2, none⟩ v2).setCell ⟨b, 3, none⟩ v3).setCell ⟨b, 4, none⟩ v4)) := fun V b v0 v1 v2 v3 v4 q l => below_store (below_store (below_store (below_store (below_store q _ l) _ l) _ l) _ l) _ l
        have HSP : Hid (∀ V', Below y3.w.heap.size y3.w V' → PSt W0 u5 zs2 V') := fun V' q => SP2.out.later q
        have Byd : Below y3.w.heap.size y3.w y3.w.drew := (Below.refl _ _).drew
        have By : Below y3.w.heap.size y3.w y3.w := Below.refl _ _
        clear hok1 hzr SP2 KA HGg
        go_upto_region 15 with fail
        go_cut [12, 13] from 70 to 80 (fun s12 s13 wx => ∃ p : Nat, s12 = .pointer (some ⟨p, 0, none⟩) ∧ s13 = .bool ok1 ∧ Blk wx p #[.int .i64 zc, .int .i64 zy, .int .i64 zs_, .int .i64 zm, .int .i64 zd] 29 ∧ Below y3.w.heap.size y3.w wx)
        case first =>
          go_region_held (fun w' => w'.cell? ⟨w.heap.size, 0, none⟩ = some (.string r.name) ∧ w'.cell? ⟨w.heap.size, 1, none⟩ = some (.int .i64 r.fr) ∧ w'.cell? ⟨w.heap.size, 2, none⟩ = some (.int .i64 r.to) ∧ w'.cell? ⟨w.heap.size, 3, none⟩ = some (.slice a1 r.segs.length c1) ∧ w'.cell? ⟨w.heap.size, 4, none⟩ = some (.slice (some ⟨g, 0, none⟩) r.pats.length c2) ∧ w'.cell? ⟨w.heap.size, 5, none⟩ = some (.slice a3 r.rgns.length c3) ∧ w'.cell? ⟨w.heap.size, 6, none⟩ = some (.int .i64 r.rule) ∧ w'.cell? ⟨g, k * 3, none⟩ = some (.int .i64 n)) (first | (with_reducible exact KE.out _ (by assumption)) | (with_reducible exact KE.out _ (KL.out _ _ (by assumption))) | (with_reducible exact KE.out _ (KLd.out _ _ (by assumption))) | (with_reducible exact KE.out _ (KS.out _ _ _ _ _ _ _ (by assumption) (Nat.le_refl _)))) ((go_at_call 57; refine (K1.out _ (by first | assumption | (with_reducible exact KL.out _ _ (by assumption)) | (with_reducible exact KLd.out _ _ (by assumption)))).mono ?_; rintro e w4 ⟨rfl, hb4⟩; have B4 := KB.out _ _ (by first | assumption | (with_reducible exact KL.out _ _ (by assumption)) | (with_reducible exact KLd.out _ _ (by assumption))) hb4; try (first | (with_reducible have P1 := KN.out _ _ hb4; obtain ⟨p0, p1, p2, p3, p4, f0, f1, f2, f3, f4⟩ := factsZ P1) | (with_reducible have P1 := KNd.out _ _ hb4; obtain ⟨p0, p1, p2, p3, p4, f0, f1, f2, f3, f4⟩ := factsZ P1))))
          all_goals (go_wp2_with fail; go_meet; first | (with_reducible exact ⟨_, rfl, rfl, Blk.new _ _ _, B4.alloc B4.size _⟩) | (with_reducible exact ⟨_, rfl, rfl, blkZ P1, KS.out _ _ _ _ _ _ _ B4 (Nat.le_refl _)⟩))
        case rest =>
          obtain ⟨p, rfl, rfl, hBz, hbz⟩ := hcut
          have SP5 := hideP (HSP.out wc hbz)
          obtain ⟨y5, rfl⟩ : ∃ y5 : Later W0, wc = y5.w := ⟨⟨wc, y3.on hbz⟩, rfl⟩
          have t0 := hBz.cell 0 rfl
          have t1 := hBz.cell 1 rfl
          have t2 := hBz.cell 2 rfl
          have t3 := hBz.cell 3 rfl
          have t4 := hBz.cell 4 rfl
          have gd := (KE.out y5.w hbz).2.2.2.2.2.2.2
          clear hBz hbz KE KL KLd KB KN KNd KS HSP Byd By K1
          cases ok1
          · have HM := hideP (HMis.out (by rw [HE.out]; rw [decide_eq_false (fun q => of_decide_eq_false HOk.out q.1)]; simp))
            clear HMis HHit HE
            go_wp2
            exact ⟨⟨k + 1, zs2, by omega, by apply congrArg (Value.int .i64); omega, SP5.out, HM.out, by omega⟩, by simp [intOf]; omega⟩
          by_cases ec : zc = xc
          case neg =>
            have gc_ : (zc == xc) = false := beq_eq_false_iff_ne.2 ec
            have HM := hideP (HMis.out (by rw [HE.out]; rw [decide_eq_false (fun q => rdg_ne (fun t => ec t.1) q.2)]; simp))
            clear HMis HHit HE ec
            go_wp2
            exact ⟨⟨k + 1, zs2, by omega, by apply congrArg (Value.int .i64); omega, SP5.out, HM.out, by omega⟩, by simp [intOf]; omega⟩
          have gc_ : (zc == xc) = true := beq_iff_eq.2 ec
          by_cases ey : zy = xy
          case neg =>
            have gy_ : (zy == xy) = false := beq_eq_false_iff_ne.2 ey
            have HM := hideP (HMis.out (by rw [HE.out]; rw [decide_eq_false (fun q => rdg_ne (fun t => ey t.2.1) q.2)]; simp))
            clear HMis HHit HE ey
            go_wp2
            exact ⟨⟨k + 1, zs2, by omega, by apply congrArg (Value.int .i64); omega, SP5.out, HM.out, by omega⟩, by simp [intOf]; omega⟩
          have gy_ : (zy == xy) = true := beq_iff_eq.2 ey
          by_cases es : zs_ = xs
          case neg =>
            have gs_ : (zs_ == xs) = false := beq_eq_false_iff_ne.2 es
            have HM := hideP (HMis.out (by rw [HE.out]; rw [decide_eq_false (fun q => rdg_ne (fun t => es t.2.2.1) q.2)]; simp))
            clear HMis HHit HE es
            go_wp2
            exact ⟨⟨k + 1, zs2, by omega, by apply congrArg (Value.int .i64); omega, SP5.out, HM.out, by omega⟩, by simp [intOf]; omega⟩
          have gs_ : (zs_ == xs) = true := beq_iff_eq.2 es
          by_cases em : zm = xm
          case neg =>
            have gm_ : (zm == xm) = false := beq_eq_false_iff_ne.2 em
            have HM := hideP (HMis.out (by rw [HE.out]; rw [decide_eq_false (fun q => rdg_ne (fun t => em t.2.2.2.1) q.2)]; simp))
            clear HMis HHit HE em
            go_wp2
            exact ⟨⟨k + 1, zs2, by omega, by apply congrArg (Value.int .i64); omega, SP5.out, HM.out, by omega⟩, by simp [intOf]; omega⟩
          have gm_ : (zm == xm) = true := beq_iff_eq.2 em
          by_cases ed : zd = xd
          case neg =>
            have gd_ : (zd == xd) = false := beq_eq_false_iff_ne.2 ed
            have HM := hideP (HMis.out (by rw [HE.out]; rw [decide_eq_false (fun q => rdg_ne (fun t => ed t.2.2.2.2) q.2)]; simp))
            clear HMis HHit HE ed
            go_wp2
            exact ⟨⟨k + 1, zs2, by omega, by apply congrArg (Value.int .i64); omega, SP5.out, HM.out, by omega⟩, by simp [intOf]; omega⟩
          have gd_ : (zd == xd) = true := beq_iff_eq.2 ed
          have hh : hit n = true := by rw [HE.out, ec, ey, es, em, ed]; exact decide_eq_true ⟨of_decide_eq_true HOk.out, rfl⟩
          have HHd : Hid (∀ ys, DSet ys (fun z => z ∈ zs2 ∨ z = n) → DSet ys (G2 (k + 1))) := fun ys l => HHit.out ys hh l
          clear hh HE ec ey es em ed HMis HHit
          go_wp2_with fail
          refine (KU.out _ zs2 n _ SP5.out HPw.out (by omega)).mono ?_
          rintro e w7 ⟨o7, ys, rfl, hP7, hD7, hl7, hb7⟩
          have SP7 := hideP hP7
          have HG7 := hideP (HHd.out ys hD7)
          clear hP7 hD7 hb7 SP5 HHd
          go_wp2
          exact ⟨⟨k + 1, ys, by omega, by apply congrArg (Value.int .i64); omega, SP7.out, HG7.out, by omega⟩, by simp [intOf]; omega⟩
    have hkn : k < r.segs.length := by omega
    obtain ⟨g, rfl, xx⟩ := HKS.out y.w y.below k hkn
    have HA : Hid (IAt segK y.w g k (atK segK r.segs k)) := xx
    have HGg : Hid (∀ V, Below y.w.heap.size y.w V → IAt segK V g k (atK segK r.segs k)) := fun V hb => by
      obtain ⟨g', e', x'⟩ := HKS.out V (y.on hb) k hkn
      cases e'
      exact x'
    obtain ⟨n1, n2, n3, n4, n7, n5, n6⟩ := segOk_nums (hsg.out k hkn)
    have HHit : Hid (∀ ys, hit (D - (atK segK r.segs k).off) = true → dok = true → DSet ys (fun z => z ∈ zs ∨ z = D - (atK segK r.segs k).off) → DSet ys (G1 (k + 1))) := fun ys p q l => H1h.out k zs ys HDZ.out hkn p q l
    have HMis : Hid (¬ (hit (D - (atK segK r.segs k).off) = true ∧ dok = true) → DSet zs (G1 (k + 1))) := fun p => H1m.out k zs HDZ.out p
    have HPw : Hid (zs.Pairwise (· < ·)) := HDZ.out.1
    have HE := hideP (HH.out (D - (atK segK r.segs k).off))
    clear xx HDZ H1o H1h H1m H2o H2h H2m HAll HH hsg
    have hs4 : ∀ z : Later y.w, z.w.cell? ⟨g, k * 5 + 4, none⟩ = some (.int .i64 (atK segK r.segs k).off) := fun z => HGg.out z.w z.below 4 _ rfl
    have hr3 : ∀ z : Later y.w, z.w.cell? ⟨w.heap.size, 3, none⟩ = some (.slice (some ⟨g, 0, none⟩) r.segs.length c1) := fun z => r3 ⟨z.w, y.on z.below⟩
    obtain ⟨d0, d1, d2, d3⟩ := fourL (fun z : Later y.w => HX.out.later z)
    generalize atK segK r.segs k = s at *
    go_upto_region 8 with fail
    refine wp_region_later (W := y.w) (Below.refl _ _) (by kernel_rfl) (by kernel_rfl) ?_
    repeat (go_big_quiet_step (first | (go_at_call 66; exact calls_later (KD.out _)) | fail))
    refine wpQuiet_nil ?_
    intro _ hw'
    obtain ⟨x3, rfl⟩ := hw'
    obtain ⟨y3, hy3⟩ : ∃ y3 : Later W0, x3.w = y3.w := ⟨⟨x3.w, y.on x3.below⟩, rfl⟩
    have SP3 := hideP (SP.out.later x3.below)
    have HX3 := hideP (HX.out.below x3.below HX.out.lt)
    rw [hy3] at SP3 HX3 ⊢
    clear hy3 x3 d0 d1 d2 d3 hs4 hr3 SP HX HGg HA
    have K1 := KA.out (D - s.off) _ y3.below
    obtain ⟨ok1, hok1⟩ : ∃ b, decide (r.fr ≤ D - s.off ∧ D - s.off ≤ r.to) = b := ⟨_, rfl⟩
    obtain ⟨zr, hzr⟩ : ∃ z, rdgX r (D - s.off) = z := ⟨_, rfl⟩
    rw [hok1, hzr] at K1
    rw [hzr] at HE
    obtain ⟨zc, zy, zs_, zm, zd⟩ := zr
    have HOk := hideP hok1
    clear hok1 hzr
    go_wp2_with fail
    refine K1.mono ?_
    rintro e w4 ⟨rfl, hb⟩
    obtain ⟨y4, rfl⟩ := y3.next hb
    have SP4 := hideP (SP3.out.later hb)
    have HX4 := hideP (HX3.out.below hb HX3.out.lt)
    clear hb K1 SP3 HX3
    go_upto_region 10 with fail
    obtain ⟨y5, hy5⟩ : ∃ y5 : Later W0, y4.w.alloc (.cells #[.int .i64 zc, .int .i64 zy, .int .i64 zs_, .int .i64 zm, .int .i64 zd] 29) = y5.w := ⟨⟨_, y4.below.alloc y4.below.size _⟩, rfl⟩
    have q5 := SP4.out.later (show Below y4.w.heap.size y4.w (y4.w.alloc (.cells #[.int .i64 zc, .int .i64 zy, .int .i64 zs_, .int .i64 zm, .int .i64 zd] 29)) from (Below.refl _ _).alloc (Nat.le_refl _) _)
    have b5 := HX4.out.alloc (.cells #[.int .i64 zc, .int .i64 zy, .int .i64 zs_, .int .i64 zm, .int .i64 zd] 29)
    have c5 : Blk (y4.w.alloc (.cells #[.int .i64 zc, .int .i64 zy, .int .i64 zs_, .int .i64 zm, .int .i64 zd] 29)) y4.w.heap.size #[.int .i64 zc, .int .i64 zy, .int .i64 zs_, .int .i64 zm, .int .i64 zd] 29 := Blk.new _ _ _
    rw [hy5] at q5 b5 c5 ⊢
    have SP5 := hideP q5
    have HX5 := hideP b5
    have t0 := c5.cell 0 rfl
    have t1 := c5.cell 1 rfl
    have t2 := c5.cell 2 rfl
    have t3 := c5.cell 3 rfl
    have t4 := c5.cell 4 rfl
    have d0 := b5.cell 0 rfl
    have d1 := b5.cell 1 rfl
    have d2 := b5.cell 2 rfl
    have d3 := b5.cell 3 rfl
    clear q5 b5 c5 hy5 SP4 HX4
    generalize y4.w.heap.size = pz at *
    cases ok1
    · have HM := hideP (HMis.out (by rw [HE.out]; rw [decide_eq_false (fun q => of_decide_eq_false HOk.out q.1)]; simp))
      clear HMis HHit HE
      go_wp2
      exact ⟨⟨k + 1, zs, by omega, by apply congrArg (Value.int .i64); omega, SP5.out, HM.out, by omega, HX5.out⟩, by simp [intOf]; omega⟩
    by_cases ec : zc = xc
    case neg =>
      have gc_ : (zc == xc) = false := beq_eq_false_iff_ne.2 ec
      have HM := hideP (HMis.out (by rw [HE.out]; rw [decide_eq_false (fun q => rdg_ne (fun t => ec t.1) q.2)]; simp))
      clear HMis HHit HE ec
      go_wp2
      exact ⟨⟨k + 1, zs, by omega, by apply congrArg (Value.int .i64); omega, SP5.out, HM.out, by omega, HX5.out⟩, by simp [intOf]; omega⟩
    have gc_ : (zc == xc) = true := beq_iff_eq.2 ec
    by_cases ey : zy = xy
    case neg =>
      have gy_ : (zy == xy) = false := beq_eq_false_iff_ne.2 ey
      have HM := hideP (HMis.out (by rw [HE.out]; rw [decide_eq_false (fun q => rdg_ne (fun t => ey t.2.1) q.2)]; simp))
      clear HMis HHit HE ey
      go_wp2
      exact ⟨⟨k + 1, zs, by omega, by apply congrArg (Value.int .i64); omega, SP5.out, HM.out, by omega, HX5.out⟩, by simp [intOf]; omega⟩
    have gy_ : (zy == xy) = true := beq_iff_eq.2 ey
    by_cases es : zs_ = xs
    case neg =>
      have gs_ : (zs_ == xs) = false := beq_eq_false_iff_ne.2 es
      have HM := hideP (HMis.out (by rw [HE.out]; rw [decide_eq_false (fun q => rdg_ne (fun t => es t.2.2.1) q.2)]; simp))
      clear HMis HHit HE es
      go_wp2
      exact ⟨⟨k + 1, zs, by omega, by apply congrArg (Value.int .i64); omega, SP5.out, HM.out, by omega, HX5.out⟩, by simp [intOf]; omega⟩
    have gs_ : (zs_ == xs) = true := beq_iff_eq.2 es
    by_cases em : zm = xm
    case neg =>
      have gm_ : (zm == xm) = false := beq_eq_false_iff_ne.2 em
      have HM := hideP (HMis.out (by rw [HE.out]; rw [decide_eq_false (fun q => rdg_ne (fun t => em t.2.2.2.1) q.2)]; simp))
      clear HMis HHit HE em
      go_wp2
      exact ⟨⟨k + 1, zs, by omega, by apply congrArg (Value.int .i64); omega, SP5.out, HM.out, by omega, HX5.out⟩, by simp [intOf]; omega⟩
    have gm_ : (zm == xm) = true := beq_iff_eq.2 em
    by_cases ed : zd = xd
    case neg =>
      have gd_ : (zd == xd) = false := beq_eq_false_iff_ne.2 ed
      have HM := hideP (HMis.out (by rw [HE.out]; rw [decide_eq_false (fun q => rdg_ne (fun t => ed t.2.2.2.2) q.2)]; simp))
      clear HMis HHit HE ed
      go_wp2
      exact ⟨⟨k + 1, zs, by omega, by apply congrArg (Value.int .i64); omega, SP5.out, HM.out, by omega, HX5.out⟩, by simp [intOf]; omega⟩
    have gd_ : (zd == xd) = true := beq_iff_eq.2 ed
    have hh : hit (D - s.off) = true := by rw [HE.out, ec, ey, es, em, ed]; exact decide_eq_true ⟨of_decide_eq_true HOk.out, rfl⟩
    have HHt := hideP hh
    clear hh HE ec ey es em ed
    go_wp2_with fail
    refine (KK.out _).mono ?_
    rintro e w6 ⟨rfl, hb⟩
    have SP6 := hideP (SP5.out.later hb)
    have HX6 := hideP (HX5.out.below hb HX5.out.lt)
    clear hb SP5 HX5
    cases dok
    · have HM := hideP (HMis.out (by simp))
      clear HMis HHit
      go_wp2
      exact ⟨⟨k + 1, zs, by omega, by apply congrArg (Value.int .i64); omega, SP6.out, HM.out, by omega, HX6.out⟩, by simp [intOf]; omega⟩
    · have HHd : Hid (∀ ys, DSet ys (fun z => z ∈ zs ∨ z = D - s.off) → DSet ys (G1 (k + 1))) := fun ys l => HHit.out ys HHt.out rfl l
      clear HMis HHit HHt
      go_wp2_with fail
      refine (KU.out _ zs (D - s.off) _ SP6.out HPw.out (by omega)).mono ?_
      rintro e w7 ⟨o7, ys, rfl, hP7, hD7, hl7, hb7⟩
      have SP7 := hideP hP7
      have HX7 := hideP (HX6.out.below hb7 HX6.out.lt)
      have HG7 := hideP (HHd.out ys hD7)
      clear hP7 hD7 hb7 SP6 HX6 HHd
      go_wp2
      exact ⟨⟨k + 1, ys, by omega, by apply congrArg (Value.int .i64); omega, SP7.out, HG7.out, by omega, HX7.out⟩, by simp [intOf]; omega⟩
end Go.Proofs.YtilpencbbdpgfaaGreatDoor.ctr
