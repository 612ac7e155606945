/- Contract of the model's Sorted: a new list that holds the segments put in one by one. Contracts of the model's l09Full and Tiles. Contracts of the model's l09Segs and l09Patches. -/
import Derived.Test.YtdgolaaheakfoaaGreatDoorJnSag
import Derived.Deep.RegionHeldLaw
import Derived.Test.YtdgolaaheakfoaaGreatDoorJnSah
import Derived.Test.YtdgolaaheakfoaaGreatDoorJnSau
namespace Go.Proofs.YtdgolaaheakfoaaGreatDoor.ctr
open Go.RowKit
theorem posS_gt {L : List Seg} {s : Seg} {a : Nat} (h : gtS (sgA L a) s = true) : posS L s (a + 1) = posS L s a := by rw [posS, if_pos h]
theorem posS_no {L : List Seg} {s : Seg} {a : Nat} (h : gtS (sgA L a) s = false) : posS L s (a + 1) = a + 1 := by rw [posS, if_neg (by rw [h]; simp)]
structure Ins1 (w : World) (l : List Seg) (k g cap : Nat) (wr : World) : Prop where
  row : PRow segK 90 wr g cap (sortS (l.take k))
  lo : w.heap.size ≤ g
  below : Below w.heap.size w wr
theorem Ins1.len {l : List Seg} {k : Nat} (hk : k ≤ l.length) : (sortS (l.take k)).length = k := by rw [sortS_len]; simp; omega
theorem snew_new {W X : World} {N : Nat} (hN : X.heap.size = N) (h : W.heap.size ≤ N) : SNew W (X.alloc (.cells #[] 90)) (.slice (some ⟨N, 0, none⟩) 0 0) [] := by
  subst hN
  exact ⟨_, 0, rfl, h, #[], Blk.new _ _ _, rfl, Nat.le_refl _, by unfold maxLen; omega, fun k hk => by simp at hk⟩
theorem SNew.al {W X : World} {v : Value} {L : List Seg} (h : SNew W X v L) (o : Obj) : SNew W (X.alloc o) v L := h.below ((Below.refl _ _).alloc (Nat.le_refl _) _)
theorem SNew.dr {W X : World} {v : Value} {L : List Seg} (h : SNew W X v L) : SNew W X.drew v L := h
def Sub (w : World) (v : Value) (M : List Seg) : Prop := ∃ ad c, v = .slice (some ad) M.length c ∧ ad.block < w.heap.size ∧ ∀ j u, (icells segK M)[j]? = some u → w.cell? (ad.add j) = some u
theorem Sub.dr {X : World} {v : Value} {L : List Seg} (h : Sub X v L) : Sub X.drew v L := h
theorem Sub.below {X Y : World} {v : Value} {L : List Seg} (h : Sub X v L) (hb : Below X.heap.size X Y) : Sub Y v L := by
  obtain ⟨ad, c, e, hl, h⟩ := h
  refine ⟨ad, c, e, Nat.lt_of_lt_of_le hl hb.size, fun j u hj => ?_⟩
  exact Later.at (h j u hj) ⟨Y, hb⟩
theorem add_block (ad : Addr) (j : Nat) : (ad.add j).block = ad.block := by unfold Addr.add; split <;> rfl
theorem Sub.grown {X Y : World} {v : Value} {L : List Seg} {r : Option Nat} (h : Sub X v L) (hg : X.grownBy Y r) (hr : ∀ ad n c, v = .slice (some ad) n c → some ad.block ≠ r) : Sub Y v L := by
  obtain ⟨ad, c, e, hl, h⟩ := h
  refine ⟨ad, c, e, Nat.lt_of_lt_of_le hl hg.size, fun j u hj => ?_⟩
  exact hg.cell (h j u hj) (by rw [add_block]; exact hr ad _ _ e)
theorem sub_one {X : World} {N : Nat} (hN : X.heap.size = N) (s : Seg) : Sub (X.alloc (.cells #[.int .i64 s.fr, .int .i64 s.to, .int .i64 s.cal, .int .i64 s.sty, .int .i64 s.off] 90)) (.slice (some ⟨N, 0, none⟩) 1 1) [s] := by
  subst hN
  refine ⟨⟨X.heap.size, 0, none⟩, 1, rfl, by rw [World.size_alloc]; exact Nat.lt_succ_self _, fun j u hj => ?_⟩
  exact news_seg X s 90 j u (by simpa [icells] using hj)
theorem owns_form {w : World} {base : Nat} {v : Value} {L : List Seg} (h : w.ownsRow base 90 5 v L.length (icells segK L)) (hv : v ≠ .slice none 0 0) : ∃ g cap, v = .slice (some ⟨g, 0, none⟩) L.length cap ∧ base ≤ g ∧ PRow segK 90 w g cap L := by
  obtain ⟨_, ⟨h, _⟩ | ⟨g, cap, cur, rfl, hg, hB, h1, h2, hs, hC⟩⟩ := h
  · exact absurd h hv
  · exact ⟨g, cap, rfl, hg, cur, hB, hs, h1, h2, CIs.of_take hC⟩
theorem step_app {ops : Array Oper} {o : Oper} {a : Act} {K : Act → World → Prop} {Q : Exit → Act → World → Prop} {E : Prop} {W w : World} (hgd : o.guard = none) (s x : Operand)
    (ho : o.op = .call { callee := .builtin .append, args := #[s, x], argTypes := #[36, 36] }) (L M : List Seg) (hs : SNew W w (a.eval s) L) (hx : Sub w (a.eval x) M) (hl : L.length + M.length ≤ 1048577) (hb : Below W.heap.size W w)
    (h : ∀ v' w', SNew W w' v' (L ++ M) → Below W.heap.size W w' → w.grownBy w' (a.eval s).ownBlock → K (a.put o.dst v') w') : if Region.wanted o (yielded ops a.tmps) = true then Oper.wp Tryz.prog o a w K Q else E := by
  obtain ⟨i0, hi, he⟩ := Option.map_eq_some_iff.1 info_seg
  simp only [Prod.mk.injEq] at he
  obtain ⟨hz0, hz1, hz2⟩ := he
  rw [if_pos (by simp [Region.wanted, hgd])]
  obtain ⟨g, cap, e1, hg, hP⟩ := hs
  obtain ⟨ad, c, e2, _, hM⟩ := hx
  have hsz := hb.size
  refine wp_append_own w s x 36 ho W.heap.size 90 i0 (.agg #[.int .i64 0, .int .i64 0, .int .i64 0, .int .i64 0, .int .i64 0]) 5 40 Tryz.underlying36 hi hz0 hz1 hz2 rfl (by decide) _ L.length (icells segK L) e1 (hP.owns (by decide) hg) ad M.length c (icells segK M) e2 (icells_len M) hM icell_one (by unfold maxLen; omega) (by omega) hsz ?_
  intro v' w' h1 h2 h3
  have h1' : w'.ownsRow W.heap.size 90 5 v' (L ++ M).length (icells segK (L ++ M)) := by rw [List.length_append, icells_app]; exact h1
  refine h v' w' (owns_form h1' (fun q => by have := (h3.1 q).1; cases this)) (hb.trans (below_grown2 h2 hsz (fun k e => by
    have e' : g = k := by simpa [Value.ownBlock] using e
    rw [← e']; exact hg))) (by rw [e1]; exact h2)
theorem region_done {w wr : World} {l : List Seg} {k g cap p : Nat} {s : Seg} (h : Ins1 w l k g cap wr) {x : World} (hx : Below wr.heap.size wr x) (hk : k < l.length) (hs : s = sgA l k) (hp : posS (sortS (l.take k)) s k = p) :
    ∀ v w', SNew x w' v ((([] ++ (sortS (l.take k)).take p) ++ [s]) ++ (sortS (l.take k)).drop p) → Below x.heap.size x w' → ∃ g' cap', v = .slice (some ⟨g', 0, none⟩) (k + 1) cap' ∧ Ins1 w l (k + 1) g' cap' w' := by
  intro v w' ⟨g', cap', e, hg, hP⟩ hb
  have hle : (sortS (l.take k)).length = k := Ins1.len (Nat.le_of_lt hk)
  have hh : (([] ++ (sortS (l.take k)).take p) ++ [s]) ++ (sortS (l.take k)).drop p = sortS (l.take (k + 1)) := by
    rw [sortS_snoc hk, ← hs, insS, hle, hp]
    simp
  rw [hh] at hP e
  rw [Ins1.len hk] at e
  have h1 := h.below.size
  have h2 := hx.size
  exact ⟨g', cap', e, hP, by omega, h.below.trans ((hx.mono h.below.size).trans (hb.mono (by omega)))⟩
theorem sub_take {w wr : World} {l : List Seg} {k g cap a : Nat} (h : Ins1 w l k g cap wr) (x : Later wr) (hk : k ≤ l.length) (ha : a ≤ k) : Sub x.w (.slice (some ⟨g, 0, none⟩) a cap) ((sortS (l.take k)).take a) := by
  have hle := Ins1.len hk
  have hr := (h.row.below x.below h.row.lt).shorter a
  have hl : ((sortS (l.take k)).take a).length = a := by simp; omega
  refine ⟨⟨g, 0, none⟩, cap, by rw [hl], hr.lt, fun j u hj => ?_⟩
  have := (hr.owns (base := 0) (by decide) (Nat.zero_le _)).cells (g := g) rfl j u hj
  exact this
theorem sub_none {w wr : World} {l : List Seg} {k g cap a : Nat} (h : Ins1 w l k g cap wr) (x : Later wr) (hk : k ≤ l.length) (ha : a ≤ k) (hc : cap = a) : Sub x.w (.slice (some ⟨g, 0, none⟩) 0 0) ((sortS (l.take k)).drop a) := by
  have hle := Ins1.len hk
  have hr := h.row.below x.below h.row.lt
  have hcap : k ≤ cap := by obtain ⟨_, _, _, q, _⟩ := h.row; rw [hle] at q; exact q
  have e : (sortS (l.take k)).drop a = [] := List.drop_of_length_le (by omega)
  rw [e]
  exact ⟨⟨g, 0, none⟩, 0, rfl, hr.lt, fun j u hj => by simp [icells] at hj⟩
theorem icells_drop {α : Type} {K : IK α} : ∀ (l : List α) (a : Nat), icells K (l.drop a) = (icells K l).drop (a * K.m)
  | l, 0 => by simp
  | [], a + 1 => by simp [icells]
  | b :: l, a + 1 => by
    rw [List.drop_succ_cons, icells_drop l a, icells, Nat.add_mul, Nat.one_mul, Nat.add_comm, List.drop_append]
    simp [icell, K.len]
theorem sub_drop {w wr : World} {l : List Seg} {k g cap a : Nat} (h : Ins1 w l k g cap wr) (x : Later wr) (hk : k ≤ l.length) (ha : a ≤ k) : Sub x.w (.slice (some ⟨g, a * 5, none⟩) (k - a) (cap - a)) ((sortS (l.take k)).drop a) := by
  have hle := Ins1.len hk
  have hr := h.row.below x.below h.row.lt
  have hl : ((sortS (l.take k)).drop a).length = k - a := by simp; omega
  refine ⟨⟨g, a * 5, none⟩, cap - a, by rw [hl], hr.lt, fun j u hj => ?_⟩
  rw [icells_drop, List.getElem?_drop] at hj
  have := (hr.owns (base := 0) (by decide) (Nat.zero_le _)).cells (g := g) rfl _ u hj
  have e1 : (⟨g, 0, none⟩ : Addr).add (a * segK.m + j) = ⟨g, a * 5 + j, none⟩ := by rw [show a * segK.m + j = a * 5 + j from rfl]; unfold Addr.add; split <;> simp_all
  have e2 : (⟨g, a * 5, none⟩ : Addr).add j = ⟨g, a * 5 + j, none⟩ := by unfold Addr.add; split <;> simp_all
  rw [e2, ← e1]
  exact this
theorem sub_some {w wr : World} {l : List Seg} {k g cap a : Nat} (h : Ins1 w l k g cap wr) (x : Later wr) (hk : k ≤ l.length) (ha : a ≤ k) : ∃ A : Addr, (if cap = a then some (⟨g, 0, none⟩ : Addr) else some ⟨g, a * 5, none⟩) = some A ∧ Sub x.w (.slice (some A) (k - a) (cap - a)) ((sortS (l.take k)).drop a) := by
  by_cases hc : cap = a
  · have hle := Ins1.len hk
    have hcap : k ≤ cap := by obtain ⟨_, _, _, q, _⟩ := h.row; rw [hle] at q; exact q
    refine ⟨⟨g, 0, none⟩, by rw [if_pos hc], ?_⟩
    have := sub_none h x hk ha hc
    rw [show k - a = 0 by omega, show cap - a = 0 by omega]
    exact this
  · exact ⟨⟨g, a * 5, none⟩, by rw [if_neg hc], sub_drop h x hk ha⟩
set_option maxRecDepth 100000 in
set_option maxHeartbeats 4000000 in
theorem specSorted (v : Value) (l : List Seg) (w : World) (h : IRow segK w v l) (hl : l.length ≤ 1048576) : Calls Tryz.prog 172 #[v] w fun e w' => ∃ o, e = .returned o ∧ SNew w w' o (sortS l) ∧ Below w.heap.size w w' := by
  obtain ⟨ad, ca, rfl, hca, hcm, HRow⟩ := h
  have HR := hideP HRow
  unfold maxLen at hcm
  clear HRow
  have S0 : Hid (Ins1 w l 0 w.heap.size 0 (w.alloc (.cells #[] 90))) := ⟨⟨#[], Blk.new _ _ _, rfl, by rw [Ins1.len (Nat.zero_le _)]; exact Nat.le_refl _, by unfold maxLen; omega, fun k hk => by rw [Ins1.len (Nat.zero_le _)] at hk; omega⟩, Nat.le_refl _, (Below.refl _ _).alloc (Nat.le_refl _) _⟩
  go_enter Tryz.func172, Tryz.ntmps172
  go_wp2
  go_loopw [3, 4] (fun o i wr => ∃ (k g cap : Nat), k ≤ l.length ∧ i = .int .i64 (k : Int) ∧ o = .slice (some ⟨g, 0, none⟩) k cap ∧ Ins1 w l k g cap wr) (fun _ i _ => l.length - (intOf i).toNat)
  case atStart => exact ⟨0, _, _, Nat.zero_le _, rfl, rfl, S0.out⟩
  case round =>
    obtain ⟨k, g, cap, hk, rfl, rfl, hI⟩ := hrel
    have HI := hideP hI
    clear hI S0
    by_cases hlt : k < l.length
    · obtain ⟨gv, rfl, hgv, x⟩ := HR.out k hlt
      have hle := Ins1.len hk
      have HLe := hideP hle
      clear hle
      obtain ⟨s, hs⟩ : ∃ s, s = sgA l k := ⟨_, rfl⟩
      have HS := hideP hs
      have d0 : ∀ y : Later wr, y.w.cell? ⟨gv, k * 5, none⟩ = some (.int .i64 s.fr) := fun y => by rw [hs]; exact ((x.below HI.out.below hgv).below y.below (Nat.lt_of_lt_of_le hgv HI.out.below.size)).seg.1
      have d1 : ∀ y : Later wr, y.w.cell? ⟨gv, k * 5 + 1, none⟩ = some (.int .i64 s.to) := fun y => by rw [hs]; exact ((x.below HI.out.below hgv).below y.below (Nat.lt_of_lt_of_le hgv HI.out.below.size)).seg.2.1
      have d2 : ∀ y : Later wr, y.w.cell? ⟨gv, k * 5 + 2, none⟩ = some (.int .i64 s.cal) := fun y => by rw [hs]; exact ((x.below HI.out.below hgv).below y.below (Nat.lt_of_lt_of_le hgv HI.out.below.size)).seg.2.2.1
      have d3 : ∀ y : Later wr, y.w.cell? ⟨gv, k * 5 + 3, none⟩ = some (.int .i64 s.sty) := fun y => by rw [hs]; exact ((x.below HI.out.below hgv).below y.below (Nat.lt_of_lt_of_le hgv HI.out.below.size)).seg.2.2.2.1
      have d4 : ∀ y : Later wr, y.w.cell? ⟨gv, k * 5 + 4, none⟩ = some (.int .i64 s.off) := fun y => by rw [hs]; exact ((x.below HI.out.below hgv).below y.below (Nat.lt_of_lt_of_le hgv HI.out.below.size)).seg.2.2.2.2
      have HC : Hid (∀ (y : Later wr) (a : Nat), a < k → y.w.cell? ⟨g, a * 5, none⟩ = some (.int .i64 (sgA (sortS (l.take k)) a).fr) ∧ y.w.cell? ⟨g, a * 5 + 1, none⟩ = some (.int .i64 (sgA (sortS (l.take k)) a).to)) := fun y a ha => by
        have := ((HI.out.row.at (k := a) (by rw [HLe.out]; exact ha)).below y.below HI.out.row.lt).seg
        exact ⟨this.1, this.2.1⟩
      have hcap : k ≤ cap := by obtain ⟨_, _, _, q, _⟩ := HI.out.row; rw [HLe.out] at q; exact q
      have hcapm : cap ≤ 2 ^ 63 - 1 := by obtain ⟨_, _, _, _, q, _⟩ := HI.out.row; exact q
      clear x hs
      go_wp2
      go_loopw [5] (fun i w' => ∃ a : Nat, a ≤ k ∧ i = .int .i64 (a : Int) ∧ Hid (posS (sortS (l.take k)) s a = posS (sortS (l.take k)) s k) ∧ ∃ y : Later wr, w' = y.w) (fun i _ => (intOf i).toNat)
      case atStart => exact ⟨k, Nat.le_refl _, rfl, rfl, ⟨wr, Below.refl _ _⟩, rfl⟩
      case round =>
        obtain ⟨a, ha, rfl, HP, y, rfl⟩ := hrel
        by_cases h0 : 0 < a
        case neg =>
          have hd1 : decide ((0 : Int) < (a : Int)) = false := by simp; omega
          have hd2 : decide (0 < a) = false := by simp; omega
          have HPX : Hid (posS (sortS (l.take k)) s k = a) := by
            unfold Hid
            rw [← HP.out, show a = 0 by omega]
            rfl
          clear h0
          go_wp2_with fail
          refine wp_region_later (W := wr) y.below (by kernel_rfl) (by kernel_rfl) ?_
          repeat (go_big_quiet_step (fail))
          refine wpQuiet_nil ?_
          intro _ hw'
          obtain ⟨x, rfl⟩ := hw'
          go_wp2_with fail
          have HRD := hideP (region_done (w := w) (wr := wr) HI.out x.below hlt HS.out HPX.out)
          have HA := hideP (sub_take (w := w) HI.out x hk ha)
          obtain ⟨A, hA, hB⟩ := sub_some (w := w) HI.out x hk ha
          have HB := hideP hB
          have SK : Hid (∀ W', Below x.w.heap.size x.w W' → W'.cell? ⟨gv, k * 5, none⟩ = some (.int .i64 s.fr) ∧ W'.cell? ⟨gv, k * 5 + 1, none⟩ = some (.int .i64 s.to) ∧ W'.cell? ⟨gv, k * 5 + 2, none⟩ = some (.int .i64 s.cal) ∧ W'.cell? ⟨gv, k * 5 + 3, none⟩ = some (.int .i64 s.sty) ∧ W'.cell? ⟨gv, k * 5 + 4, none⟩ = some (.int .i64 s.off)) := fun W' hb => by
            have hy : Below wr.heap.size wr W' := x.on hb
            exact ⟨d0 ⟨W', hy⟩, d1 ⟨W', hy⟩, d2 ⟨W', hy⟩, d3 ⟨W', hy⟩, d4 ⟨W', hy⟩⟩
          have HQ1 : Hid (([] : List Seg).length + ((sortS (l.take k)).take a).length ≤ 1048577) := by unfold Hid; have := HLe.out; simp; omega
          have HQ2 : Hid (([] ++ (sortS (l.take k)).take a).length + [s].length ≤ 1048577) := by unfold Hid; have := HLe.out; simp; omega
          have HQ3 : Hid (([] ++ (sortS (l.take k)).take a ++ [s]).length + ((sortS (l.take k)).drop a).length ≤ 1048577) := by unfold Hid; have := HLe.out; simp; omega
          clear hB
          go_region_held_law (fun w' => w'.cell? ⟨gv, k * 5, none⟩ = some (.int .i64 s.fr) ∧ w'.cell? ⟨gv, k * 5 + 1, none⟩ = some (.int .i64 s.to) ∧ w'.cell? ⟨gv, k * 5 + 2, none⟩ = some (.int .i64 s.cal) ∧ w'.cell? ⟨gv, k * 5 + 3, none⟩ = some (.int .i64 s.sty) ∧ w'.cell? ⟨gv, k * 5 + 4, none⟩ = some (.int .i64 s.off)) (first | exact SK.out _ (Below.refl _ _).drew | exact SK.out _ ((Below.refl _ _).alloc (Nat.le_refl _) _).drew | exact SK.out _ (((Below.refl _ _).alloc (Nat.le_refl _) _).alloc (by rw [World.size_alloc]; omega) _).drew | exact SK.out _ B3 | exact SK.out _ B2 | exact SK.out _ B1 | exact SK.out _ (B1.alloc B1.size _)) ((first | (refine step_app (W := x.w) (by rfl) (.tmp 61) (.tmp 64) (by rfl) [] ((sortS (l.take k)).take a) (by first | exact (snew_new rfl (Nat.le_refl _)).dr | exact ((snew_new rfl (Nat.le_refl _)).al _).dr | exact (snew_new (X := x.w.alloc _) (by rw [World.size_alloc]) (by omega)).dr) (by first | exact (HA.out.below ((Below.refl _ _).alloc (Nat.le_refl _) _)).dr | exact ((HA.out.below ((Below.refl _ _).alloc (Nat.le_refl _) _)).below ((Below.refl _ _).alloc (Nat.le_refl _) _)).dr) HQ1.out (by first | exact (Below.refl _ _).drew | exact ((Below.refl _ _).alloc (Nat.le_refl _) _).drew | exact (((Below.refl _ _).alloc (Nat.le_refl _) _).alloc (by rw [World.size_alloc]; omega) _).drew | exact B3 | exact B2 | exact B1 | exact B1.alloc B1.size _) ?_; intro v1 w1 O1 B1 G1) | (refine step_app (W := x.w) (by rfl) (.tmp 65) (.tmp 70) (by rfl) ([] ++ (sortS (l.take k)).take a) [s] (by first | exact O1 | exact O1.al _) (by first | exact sub_one rfl s | exact ((sub_one (X := x.w.alloc _) (by rw [World.size_alloc]) s).dr).grown G1 (fun ad n c e => by cases e; simp [Act.eval, Value.ownBlock]) | exact (((sub_one (X := x.w) rfl s).below ((Below.refl _ _).alloc (Nat.le_refl _) _)).dr).grown G1 (fun ad n c e => by cases e; simp [Act.eval, Value.ownBlock])) HQ2.out (by first | exact (Below.refl _ _).drew | exact ((Below.refl _ _).alloc (Nat.le_refl _) _).drew | exact (((Below.refl _ _).alloc (Nat.le_refl _) _).alloc (by rw [World.size_alloc]; omega) _).drew | exact B3 | exact B2 | exact B1 | exact B1.alloc B1.size _) ?_; intro v2 w2 O2 B2 G2) | (refine step_app (W := x.w) (by rfl) (.tmp 71) (.tmp 74) (by rfl) ([] ++ (sortS (l.take k)).take a ++ [s]) ((sortS (l.take k)).drop a) (by exact O2) (by exact HB.out.below B2) HQ3.out (by exact B2) ?_; intro v3 w3 O3 B3 G3; obtain ⟨g', cap', rfl, hI'⟩ := HRD.out v3 w3 O3 B3)))
          all_goals
            have HI' := hideP hI'
            clear hI' O1 O2 O3 B1 B2 B3 G1 G2 G3
            go_wp2_with fail
            exact ⟨⟨k + 1, g', cap', by omega, by go_num, rfl, HI'.out⟩, by simp [intOf]; omega⟩
        obtain ⟨b, hba⟩ : ∃ b, a = b + 1 := ⟨a - 1, by omega⟩
        have hb1 : (a : Int) - 1 = (b : Int) := by omega
        have hbk : b < k := by omega
        have hp1 : decide ((0 : Int) < (a : Int)) = true := by simp; omega
        have hp2 : decide (0 < a) = true := by simp; omega
        have e0 : ∀ y : Later wr, y.w.cell? ⟨g, b * 5, none⟩ = some (.int .i64 (sgA (sortS (l.take k)) b).fr) := fun y => (HC.out y b hbk).1
        have e1 : ∀ y : Later wr, y.w.cell? ⟨g, b * 5 + 1, none⟩ = some (.int .i64 (sgA (sortS (l.take k)) b).to) := fun y => (HC.out y b hbk).2
        have HG : Hid (gtS (sgA (sortS (l.take k)) b) s = true → posS (sortS (l.take k)) s b = posS (sortS (l.take k)) s k) := fun h => by
          rw [← HP.out, hba]
          exact (posS_gt h).symm
        have HN : Hid (gtS (sgA (sortS (l.take k)) b) s = false → posS (sortS (l.take k)) s k = a) := fun h => by
          rw [← HP.out, hba]
          exact posS_no h
        have Hba := hideP hba
        clear HP h0 hba
        generalize sgA (sortS (l.take k)) b = r at *
        by_cases c1 : s.fr < r.fr
        · have HX := hideP (HG.out (by simp [gtS, c1]))
          clear HG HN
          go_wp2_with fail
          refine wp_region_later (W := wr) y.below (by kernel_rfl) (by kernel_rfl) ?_
          repeat (go_big_quiet_step (fail))
          refine wpQuiet_nil ?_
          intro _ hw'
          obtain ⟨x, rfl⟩ := hw'
          go_wp2_with fail
          exact ⟨⟨b, by omega, by go_num, HX.out, x, rfl⟩, by simp [intOf]; have := Hba.out; omega⟩
        have c1' : decide (s.fr < r.fr) = false := decide_eq_false c1
        by_cases c2 : r.fr = s.fr
        · have c2' : (r.fr == s.fr) = true := by simp [c2]
          by_cases c3 : s.to < r.to
          · have HX := hideP (HG.out (by simp [gtS, c2, c3]))
            clear HG HN c2
            go_wp2_with fail
            refine wp_region_later (W := wr) y.below (by kernel_rfl) (by kernel_rfl) ?_
            repeat (go_big_quiet_step (fail))
            refine wpQuiet_nil ?_
            intro _ hw'
            obtain ⟨x, rfl⟩ := hw'
            go_wp2_with fail
            exact ⟨⟨b, by omega, by go_num, HX.out, x, rfl⟩, by simp [intOf]; have := Hba.out; omega⟩
          · have c3' : decide (s.to < r.to) = false := decide_eq_false c3
            have HPX : Hid (posS (sortS (l.take k)) s k = a) := HN.out (by simp [gtS, c1, c3])
            clear HG HN c2
            go_wp2_with fail
            refine wp_region_later (W := wr) y.below (by kernel_rfl) (by kernel_rfl) ?_
            repeat (go_big_quiet_step (fail))
            refine wpQuiet_nil ?_
            intro _ hw'
            obtain ⟨x, rfl⟩ := hw'
            go_wp2_with fail
            have HRD := hideP (region_done (w := w) (wr := wr) HI.out x.below hlt HS.out HPX.out)
            have HA := hideP (sub_take (w := w) HI.out x hk ha)
            obtain ⟨A, hA, hB⟩ := sub_some (w := w) HI.out x hk ha
            have HB := hideP hB
            have SK : Hid (∀ W', Below x.w.heap.size x.w W' → W'.cell? ⟨gv, k * 5, none⟩ = some (.int .i64 s.fr) ∧ W'.cell? ⟨gv, k * 5 + 1, none⟩ = some (.int .i64 s.to) ∧ W'.cell? ⟨gv, k * 5 + 2, none⟩ = some (.int .i64 s.cal) ∧ W'.cell? ⟨gv, k * 5 + 3, none⟩ = some (.int .i64 s.sty) ∧ W'.cell? ⟨gv, k * 5 + 4, none⟩ = some (.int .i64 s.off)) := fun W' hb => by
              have hy : Below wr.heap.size wr W' := x.on hb
              exact ⟨d0 ⟨W', hy⟩, d1 ⟨W', hy⟩, d2 ⟨W', hy⟩, d3 ⟨W', hy⟩, d4 ⟨W', hy⟩⟩
            have HQ1 : Hid (([] : List Seg).length + ((sortS (l.take k)).take a).length ≤ 1048577) := by unfold Hid; have := HLe.out; simp; omega
            have HQ2 : Hid (([] ++ (sortS (l.take k)).take a).length + [s].length ≤ 1048577) := by unfold Hid; have := HLe.out; simp; omega
            have HQ3 : Hid (([] ++ (sortS (l.take k)).take a ++ [s]).length + ((sortS (l.take k)).drop a).length ≤ 1048577) := by unfold Hid; have := HLe.out; simp; omega
            clear hB
            go_region_held_law (fun w' => w'.cell? ⟨gv, k * 5, none⟩ = some (.int .i64 s.fr) ∧ w'.cell? ⟨gv, k * 5 + 1, none⟩ = some (.int .i64 s.to) ∧ w'.cell? ⟨gv, k * 5 + 2, none⟩ = some (.int .i64 s.cal) ∧ w'.cell? ⟨gv, k * 5 + 3, none⟩ = some (.int .i64 s.sty) ∧ w'.cell? ⟨gv, k * 5 + 4, none⟩ = some (.int .i64 s.off)) (first | exact SK.out _ (Below.refl _ _).drew | exact SK.out _ ((Below.refl _ _).alloc (Nat.le_refl _) _).drew | exact SK.out _ (((Below.refl _ _).alloc (Nat.le_refl _) _).alloc (by rw [World.size_alloc]; omega) _).drew | exact SK.out _ B3 | exact SK.out _ B2 | exact SK.out _ B1 | exact SK.out _ (B1.alloc B1.size _)) ((first | (refine step_app (W := x.w) (by rfl) (.tmp 61) (.tmp 64) (by rfl) [] ((sortS (l.take k)).take a) (by first | exact (snew_new rfl (Nat.le_refl _)).dr | exact ((snew_new rfl (Nat.le_refl _)).al _).dr | exact (snew_new (X := x.w.alloc _) (by rw [World.size_alloc]) (by omega)).dr) (by first | exact (HA.out.below ((Below.refl _ _).alloc (Nat.le_refl _) _)).dr | exact ((HA.out.below ((Below.refl _ _).alloc (Nat.le_refl _) _)).below ((Below.refl _ _).alloc (Nat.le_refl _) _)).dr) HQ1.out (by first | exact (Below.refl _ _).drew | exact ((Below.refl _ _).alloc (Nat.le_refl _) _).drew | exact (((Below.refl _ _).alloc (Nat.le_refl _) _).alloc (by rw [World.size_alloc]; omega) _).drew | exact B3 | exact B2 | exact B1 | exact B1.alloc B1.size _) ?_; intro v1 w1 O1 B1 G1) | (refine step_app (W := x.w) (by rfl) (.tmp 65) (.tmp 70) (by rfl) ([] ++ (sortS (l.take k)).take a) [s] (by first | exact O1 | exact O1.al _) (by first | exact sub_one rfl s | exact ((sub_one (X := x.w.alloc _) (by rw [World.size_alloc]) s).dr).grown G1 (fun ad n c e => by cases e; simp [Act.eval, Value.ownBlock]) | exact (((sub_one (X := x.w) rfl s).below ((Below.refl _ _).alloc (Nat.le_refl _) _)).dr).grown G1 (fun ad n c e => by cases e; simp [Act.eval, Value.ownBlock])) HQ2.out (by first | exact (Below.refl _ _).drew | exact ((Below.refl _ _).alloc (Nat.le_refl _) _).drew | exact (((Below.refl _ _).alloc (Nat.le_refl _) _).alloc (by rw [World.size_alloc]; omega) _).drew | exact B3 | exact B2 | exact B1 | exact B1.alloc B1.size _) ?_; intro v2 w2 O2 B2 G2) | (refine step_app (W := x.w) (by rfl) (.tmp 71) (.tmp 74) (by rfl) ([] ++ (sortS (l.take k)).take a ++ [s]) ((sortS (l.take k)).drop a) (by exact O2) (by exact HB.out.below B2) HQ3.out (by exact B2) ?_; intro v3 w3 O3 B3 G3; obtain ⟨g', cap', rfl, hI'⟩ := HRD.out v3 w3 O3 B3)))
            all_goals
              have HI' := hideP hI'
              clear hI' O1 O2 O3 B1 B2 B3 G1 G2 G3
              go_wp2_with fail
              exact ⟨⟨k + 1, g', cap', by omega, by go_num, rfl, HI'.out⟩, by simp [intOf]; omega⟩
        · have c2' : (r.fr == s.fr) = false := by simp [c2]
          have HPX : Hid (posS (sortS (l.take k)) s k = a) := HN.out (by simp [gtS, c1, c2])
          clear HG HN
          go_wp2_with fail
          refine wp_region_later (W := wr) y.below (by kernel_rfl) (by kernel_rfl) ?_
          repeat (go_big_quiet_step (fail))
          refine wpQuiet_nil ?_
          intro _ hw'
          obtain ⟨x, rfl⟩ := hw'
          go_wp2_with fail
          have HRD := hideP (region_done (w := w) (wr := wr) HI.out x.below hlt HS.out HPX.out)
          have HA := hideP (sub_take (w := w) HI.out x hk ha)
          obtain ⟨A, hA, hB⟩ := sub_some (w := w) HI.out x hk ha
          have HB := hideP hB
          have SK : Hid (∀ W', Below x.w.heap.size x.w W' → W'.cell? ⟨gv, k * 5, none⟩ = some (.int .i64 s.fr) ∧ W'.cell? ⟨gv, k * 5 + 1, none⟩ = some (.int .i64 s.to) ∧ W'.cell? ⟨gv, k * 5 + 2, none⟩ = some (.int .i64 s.cal) ∧ W'.cell? ⟨gv, k * 5 + 3, none⟩ = some (.int .i64 s.sty) ∧ W'.cell? ⟨gv, k * 5 + 4, none⟩ = some (.int .i64 s.off)) := fun W' hb => by
            have hy : Below wr.heap.size wr W' := x.on hb
            exact ⟨d0 ⟨W', hy⟩, d1 ⟨W', hy⟩, d2 ⟨W', hy⟩, d3 ⟨W', hy⟩, d4 ⟨W', hy⟩⟩
          have HQ1 : Hid (([] : List Seg).length + ((sortS (l.take k)).take a).length ≤ 1048577) := by unfold Hid; have := HLe.out; simp; omega
          have HQ2 : Hid (([] ++ (sortS (l.take k)).take a).length + [s].length ≤ 1048577) := by unfold Hid; have := HLe.out; simp; omega
          have HQ3 : Hid (([] ++ (sortS (l.take k)).take a ++ [s]).length + ((sortS (l.take k)).drop a).length ≤ 1048577) := by unfold Hid; have := HLe.out; simp; omega
          clear hB
          go_region_held_law (fun w' => w'.cell? ⟨gv, k * 5, none⟩ = some (.int .i64 s.fr) ∧ w'.cell? ⟨gv, k * 5 + 1, none⟩ = some (.int .i64 s.to) ∧ w'.cell? ⟨gv, k * 5 + 2, none⟩ = some (.int .i64 s.cal) ∧ w'.cell? ⟨gv, k * 5 + 3, none⟩ = some (.int .i64 s.sty) ∧ w'.cell? ⟨gv, k * 5 + 4, none⟩ = some (.int .i64 s.off)) (first | exact SK.out _ (Below.refl _ _).drew | exact SK.out _ ((Below.refl _ _).alloc (Nat.le_refl _) _).drew | exact SK.out _ (((Below.refl _ _).alloc (Nat.le_refl _) _).alloc (by rw [World.size_alloc]; omega) _).drew | exact SK.out _ B3 | exact SK.out _ B2 | exact SK.out _ B1 | exact SK.out _ (B1.alloc B1.size _)) ((first | (refine step_app (W := x.w) (by rfl) (.tmp 61) (.tmp 64) (by rfl) [] ((sortS (l.take k)).take a) (by first | exact (snew_new rfl (Nat.le_refl _)).dr | exact ((snew_new rfl (Nat.le_refl _)).al _).dr | exact (snew_new (X := x.w.alloc _) (by rw [World.size_alloc]) (by omega)).dr) (by first | exact (HA.out.below ((Below.refl _ _).alloc (Nat.le_refl _) _)).dr | exact ((HA.out.below ((Below.refl _ _).alloc (Nat.le_refl _) _)).below ((Below.refl _ _).alloc (Nat.le_refl _) _)).dr) HQ1.out (by first | exact (Below.refl _ _).drew | exact ((Below.refl _ _).alloc (Nat.le_refl _) _).drew | exact (((Below.refl _ _).alloc (Nat.le_refl _) _).alloc (by rw [World.size_alloc]; omega) _).drew | exact B3 | exact B2 | exact B1 | exact B1.alloc B1.size _) ?_; intro v1 w1 O1 B1 G1) | (refine step_app (W := x.w) (by rfl) (.tmp 65) (.tmp 70) (by rfl) ([] ++ (sortS (l.take k)).take a) [s] (by first | exact O1 | exact O1.al _) (by first | exact sub_one rfl s | exact ((sub_one (X := x.w.alloc _) (by rw [World.size_alloc]) s).dr).grown G1 (fun ad n c e => by cases e; simp [Act.eval, Value.ownBlock]) | exact (((sub_one (X := x.w) rfl s).below ((Below.refl _ _).alloc (Nat.le_refl _) _)).dr).grown G1 (fun ad n c e => by cases e; simp [Act.eval, Value.ownBlock])) HQ2.out (by first | exact (Below.refl _ _).drew | exact ((Below.refl _ _).alloc (Nat.le_refl _) _).drew | exact (((Below.refl _ _).alloc (Nat.le_refl _) _).alloc (by rw [World.size_alloc]; omega) _).drew | exact B3 | exact B2 | exact B1 | exact B1.alloc B1.size _) ?_; intro v2 w2 O2 B2 G2) | (refine step_app (W := x.w) (by rfl) (.tmp 71) (.tmp 74) (by rfl) ([] ++ (sortS (l.take k)).take a ++ [s]) ((sortS (l.take k)).drop a) (by exact O2) (by exact HB.out.below B2) HQ3.out (by exact B2) ?_; intro v3 w3 O3 B3 G3; obtain ⟨g', cap', rfl, hI'⟩ := HRD.out v3 w3 O3 B3)))
          all_goals
            have HI' := hideP hI'
            clear hI' O1 O2 O3 B1 B2 B3 G1 G2 G3
            go_wp2_with fail
            exact ⟨⟨k + 1, g', cap', by omega, by go_num, rfl, HI'.out⟩, by simp [intOf]; omega⟩
    · have HF : Hid (SNew w wr (.slice (some ⟨g, 0, none⟩) k cap) (sortS l)) := by
        have hkl : k = l.length := by omega
        have hr := HI.out.row
        rw [hkl, List.take_length] at hr
        exact ⟨g, cap, by rw [sortS_len, hkl], HI.out.lo, hr⟩
      have HB := hideP HI.out.below
      go_wp2
      go_ret
      exact ⟨_, rfl, HF.out, HB.out⟩
end Go.Proofs.YtdgolaaheakfoaaGreatDoor.ctr
namespace Go.Proofs.YtdgolaaheakfoaaGreatDoor.ctr
open Go.RowKit
structure Ful1 (w : World) (L : List Seg) (k q c : Nat) (wr : World) : Prop where
  row : PRow segK 90 wr q c ((L.take k).filter hasDayB)
  lo : w.heap.size ≤ q
  below : Below w.heap.size w wr
theorem Ful1.len {w : World} {L : List Seg} {k q c : Nat} {wr : World} (_ : Ful1 w L k q c wr) : ((L.take k).filter hasDayB).length ≤ k := by
  have := List.length_filter_le hasDayB (L.take k)
  have h2 : (L.take k).length ≤ k := by simp; omega
  omega
theorem Ful1.skip {w : World} {L : List Seg} {k q c : Nat} {wr x : World} (h : Ful1 w L k q c wr) (hx : Below wr.heap.size wr x) (hk : k < L.length) (hd : hasDayB (sgA L k) = false) : Ful1 w L (k + 1) q c x ∧ (L.take (k + 1)).filter hasDayB = (L.take k).filter hasDayB := by
  have e := filter_snoc (p := hasDayB) hk
  rw [hd] at e
  simp only [Bool.false_eq_true, if_false, List.append_nil] at e
  exact ⟨⟨by rw [e]; exact h.row.below hx h.row.lt, h.lo, h.below.trans (hx.mono h.below.size)⟩, e⟩
theorem Ful1.take {w : World} {L : List Seg} {k q c q' c' : Nat} {wr x w2 : World} {o : Obj} (h : Ful1 w L k q c wr) (hx : Below wr.heap.size wr x) (hk : k < L.length) (hd : hasDayB (sgA L k) = true)
    (hown : w2.ownsRow w.heap.size 90 5 (.slice (some ⟨q', 0, none⟩) (((L.take k).filter hasDayB).length + 1) c') (((L.take k).filter hasDayB).length + 1) (icells segK ((L.take k).filter hasDayB) ++ icell segK (sgA L k))) (hgrow : (x.alloc o).grownBy w2 (some q)) (hat : q = q' ∨ q' = x.heap.size + 1) : Ful1 w L (k + 1) q' c' w2 ∧ ((L.take (k + 1)).filter hasDayB).length = ((L.take k).filter hasDayB).length + 1 := by
  have e := filter_snoc (p := hasDayB) hk
  rw [hd] at e
  simp only [if_true] at e
  have hb : Below w.heap.size w x := h.below.trans (hx.mono h.below.size)
  have hlen : ((L.take (k + 1)).filter hasDayB).length = ((L.take k).filter hasDayB).length + 1 := by rw [e]; simp
  obtain ⟨g2, c2, e2, _, hP⟩ := PRow.of_owns (K := segK) (T := 90) (w := w2) (base := w.heap.size) (L := (L.take (k + 1)).filter hasDayB) (v := .slice (some ⟨q', 0, none⟩) (((L.take k).filter hasDayB).length + 1) c') (by
    rw [hlen, e, icells_app, show icells segK [sgA L k] = icell segK (sgA L k) by simp [icells]]
    exact hown) (by rw [hlen]; omega)
  have e3 : q' = g2 ∧ c' = c2 := by
    have := e2
    rw [hlen] at this
    simpa using this
  obtain ⟨rfl, rfl⟩ := e3
  refine ⟨⟨hP, ?_, ?_⟩, hlen⟩
  · rcases hat with q | q
    · rw [← q]; exact h.lo
    · have := hb.size; omega
  · exact (hb.alloc hb.size o).trans (below_grown2 hgrow (by rw [World.size_alloc]; have := hb.size; omega) (fun k e => by cases e; exact h.lo))
set_option maxRecDepth 100000 in
set_option maxHeartbeats 4000000 in
theorem specFull (v : Value) (l : List Seg) (w : World) (h : IRow segK w v l) (hl : l.length ≤ 1048576) : Calls Tryz.prog 142 #[v] w fun e w' => ∃ o, e = .returned o ∧ SNew w w' o (fullS l) ∧ Below w.heap.size w w' := by
  obtain ⟨i0, hi, he⟩ := Option.map_eq_some_iff.1 info_seg
  simp only [Prod.mk.injEq] at he
  obtain ⟨hz0, hz1, hz2⟩ := he
  have hb0 : Below w.heap.size w (w.alloc (.cells #[] 90)) := (Below.refl _ _).alloc (Nat.le_refl _) _
  have KS := hideP (specSorted v l _ (h.below hb0) hl)
  have HB0 := hideP hb0
  obtain ⟨ad, ca, rfl, hca, hcm, _⟩ := h
  have hsl := sortS_len l
  have HF : Hid (fullS l = (sortS l).filter hasDayB) := rfl
  obtain ⟨N, hN⟩ : ∃ N, N = (sortS l).length := ⟨_, rfl⟩
  have hNl : N ≤ 1048576 := by omega
  have HNl := hideP hN
  clear hb0 hsl hN
  go_enter Tryz.func142, Tryz.ntmps142
  go_wp2_with fail
  refine KS.out.mono ?_
  rintro e w1 ⟨o, rfl, ⟨gs, cs, rfl, hgs, hP⟩, hB⟩
  have HP := hideP hP
  have HB := hideP hB
  have hcs : N ≤ cs := by obtain ⟨_, _, _, q, _⟩ := hP; rw [HNl.out]; exact q
  have hcsm : cs ≤ 2 ^ 63 - 1 := by obtain ⟨_, _, _, _, q, _⟩ := hP; exact q
  have hgs1 := hideP hP.lt
  have S0 : Hid (Ful1 w (sortS l) 0 w.heap.size 0 w1) := by
    refine ⟨⟨#[], ?_, rfl, by simp, by unfold maxLen; omega, fun k hk => by simp at hk⟩, Nat.le_refl _, HB0.out.trans (hB.mono HB0.out.size)⟩
    exact (Blk.new w _ _).below hB (by rw [World.size_alloc]; omega)
  have hne : gs ≠ w.heap.size := by rw [World.size_alloc] at hgs; omega
  rw [← HNl.out]
  have HRow : Hid (∀ k, k < N → IAt segK w1 gs k (sgA (sortS l) k)) := fun k hk => hP.at (by rw [← HNl.out]; exact hk)
  have HLo : Hid (w.heap.size + 1 ≤ gs) := by rw [World.size_alloc] at hgs; exact hgs
  clear hP hB hgs
  go_wp2
  go_loopw [3, 5] (fun o i wr => ∃ (k q c : Nat), k ≤ N ∧ i = .int .i64 (k : Int) ∧ o = .slice (some ⟨q, 0, none⟩) ((((sortS l).take k).filter hasDayB).length) c ∧ q ≠ gs ∧ Ful1 w (sortS l) k q c wr ∧ (∀ k, k < N → IAt segK wr gs k (sgA (sortS l) k)) ∧ gs < wr.heap.size) (fun _ i _ => N - (intOf i).toNat)
  case atStart => exact ⟨0, _, _, Nat.zero_le _, rfl, by simp, Ne.symm hne, S0.out, HRow.out, hgs1.out⟩
  case round =>
    obtain ⟨k, q, c, hk, rfl, rfl, hq, hF, hR, hgl⟩ := hrel
    have HF1 := hideP hF
    have HR1 := hideP hR
    clear hF hR S0
    by_cases hlt : k < N
    · have hkL : Hid (k < (sortS l).length) := by unfold Hid; rw [← HNl.out]; exact hlt
      have HC : Hid (∀ y : Later wr, IAt segK y.w gs k (sgA (sortS l) k)) := fun y => (HR1.out k hlt).below y.below hgl
      have e0 : ∀ y : Later wr, y.w.cell? ⟨gs, k * 5, none⟩ = some (.int .i64 (sgA (sortS l) k).fr) := fun y => (HC.out y).seg.1
      have e1 : ∀ y : Later wr, y.w.cell? ⟨gs, k * 5 + 1, none⟩ = some (.int .i64 (sgA (sortS l) k).to) := fun y => (HC.out y).seg.2.1
      have e2 : ∀ y : Later wr, y.w.cell? ⟨gs, k * 5 + 2, none⟩ = some (.int .i64 (sgA (sortS l) k).cal) := fun y => (HC.out y).seg.2.2.1
      have e3 : ∀ y : Later wr, y.w.cell? ⟨gs, k * 5 + 3, none⟩ = some (.int .i64 (sgA (sortS l) k).sty) := fun y => (HC.out y).seg.2.2.2.1
      have e4 : ∀ y : Later wr, y.w.cell? ⟨gs, k * 5 + 4, none⟩ = some (.int .i64 (sgA (sortS l) k).off) := fun y => (HC.out y).seg.2.2.2.2
      have hm := HF1.out.len
      have HT : Hid (∀ (x : Later wr) w2 (o : Obj) q' c', hasDayB (sgA (sortS l) k) = true → w2.ownsRow w.heap.size 90 5 (.slice (some ⟨q', 0, none⟩) ((((sortS l).take k).filter hasDayB).length + 1) c') ((((sortS l).take k).filter hasDayB).length + 1) (icells segK (((sortS l).take k).filter hasDayB) ++ icell segK (sgA (sortS l) k)) → (x.w.alloc o).grownBy w2 (some q) → (q = q' ∨ q' = x.w.heap.size + 1) → (Ful1 w (sortS l) (k + 1) q' c' w2 ∧ (((sortS l).take (k + 1)).filter hasDayB).length = (((sortS l).take k).filter hasDayB).length + 1) ∧ (∀ k, k < N → IAt segK w2 gs k (sgA (sortS l) k)) ∧ gs < w2.heap.size ∧ q' ≠ gs) := fun x w2 o q' c' hd h1 h2 h3 => by
        refine ⟨HF1.out.take x.below hkL.out hd h1 h2 h3, fun k' hk' j z hz => ?_, ?_, ?_⟩
        · have h4 := ((HR1.out k' hk').below x.below hgl) j z hz
          have hgx : gs < x.w.heap.size := Nat.lt_of_lt_of_le hgl x.below.size
          refine h2.cell (a := ⟨gs, k' * segK.m + j, none⟩) ?_ (fun e => hq (by simpa using e.symm))
          exact Later.at h4 ⟨x.w.alloc o, (Below.refl _ _).alloc (Nat.le_refl _) _⟩
        · have := h2.size; rw [World.size_alloc] at this; have := x.below.size; omega
        · rcases h3 with h3 | h3
          · rw [← h3]; exact hq
          · have := x.below.size; omega
      have HSk : Hid (∀ x : Later wr, hasDayB (sgA (sortS l) k) = false → (Ful1 w (sortS l) (k + 1) q c x.w ∧ ((sortS l).take (k + 1)).filter hasDayB = ((sortS l).take k).filter hasDayB) ∧ (∀ k, k < N → IAt segK x.w gs k (sgA (sortS l) k)) ∧ gs < x.w.heap.size) := fun x hd => ⟨HF1.out.skip x.below hkL.out hd, fun k' hk' => (HR1.out k' hk').below x.below hgl, Nat.lt_of_lt_of_le hgl x.below.size⟩
      have HOw : Hid (∀ (x : Later wr) (o : Obj), (x.w.alloc o).ownsRow w.heap.size 90 5 (.slice (some ⟨q, 0, none⟩) ((((sortS l).take k).filter hasDayB).length) c) ((((sortS l).take k).filter hasDayB).length) (icells segK (((sortS l).take k).filter hasDayB))) := fun x o => ((HF1.out.row.below x.below HF1.out.row.lt).owns (by decide) HF1.out.lo).alloc o
      have hsz : Hid (w.heap.size ≤ wr.heap.size) := HF1.out.below.size
      obtain ⟨m, hmE⟩ : ∃ m, m = (((sortS l).take k).filter hasDayB).length := ⟨_, rfl⟩
      rw [← hmE] at HT hm HOw ⊢
      have HmE := hideP hmE
      clear hmE HC
      obtain ⟨s, hs⟩ : ∃ s, s = sgA (sortS l) k := ⟨_, rfl⟩
      rw [← hs] at e0 e1 e2 e3 e4 HT HSk
      have Hs := hideP hs
      clear hs
      by_cases hd : s.fr ≤ s.to
      · have hd' : decide (s.fr ≤ s.to) = true := decide_eq_true hd
        go_wp2_with fail
        refine wp_region_later (W := wr) (Below.refl _ _) (by kernel_rfl) (by kernel_rfl) ?_
        repeat (go_big_quiet_step (fail))
        refine wpQuiet_nil ?_
        intro _ hw'
        obtain ⟨x, rfl⟩ := hw'
        have hown := hideP (HOw.out x (.cells (icell segK s).toArray 90))
        have hnews := hideP (news_seg x.w s 90)
        have hbase : Hid (w.heap.size ≤ (x.w.alloc (.cells (icell segK s).toArray 90)).heap.size) := by
          unfold Hid
          rw [World.size_alloc]
          have := hsz.out
          have := x.below.size
          omega
        go_wp2_with (at_builtin; refine wpList_append_lies _ rfl _ _ 36 rfl w.heap.size 90 i0 (.agg #[.int .i64 0, .int .i64 0, .int .i64 0, .int .i64 0, .int .i64 0]) 5 40 Tryz.underlying36 hi hz0 hz1 hz2 rfl (by decide) _ m _ rfl hown.out ⟨x.w.heap.size, 0, none⟩ 1 1 (icell segK s) rfl rfl hnews.out (by simp [icell, Value.oneCell']) (by omega) (by unfold maxLen; omega) (by omega) hbase.out (x.w.heap.size + 1) (by rw [World.size_alloc]) ?_; intro q' c' w2 hown2 hgrow hat hlt2; have hown3 := hideP hown2; have hgrow3 := hideP hgrow; have hat3 := hideP hat; clear hown2 hgrow hat hlt2)
        have hat4 : q = q' ∨ q' = x.w.heap.size + 1 := by
          rcases hat3.out with e | e
          · exact .inl (Option.some.inj e)
          · exact .inr e
        have O2 := hideP (HT.out x w2 _ q' c' (decide_eq_true hd) hown3.out hgrow3.out hat4)
        exact ⟨⟨k + 1, q', c', by omega, by go_num, by rw [O2.out.1.2], O2.out.2.2.2, O2.out.1.1, O2.out.2.1, O2.out.2.2.1⟩, by simp [intOf]; omega⟩
      · have hd' : decide (s.fr ≤ s.to) = false := decide_eq_false hd
        go_wp2_with fail
        refine wp_region_later (W := wr) (Below.refl _ _) (by kernel_rfl) (by kernel_rfl) ?_
        repeat (go_big_quiet_step (fail))
        refine wpQuiet_nil ?_
        intro _ hw'
        obtain ⟨x, rfl⟩ := hw'
        have O2 := hideP (HSk.out x hd')
        go_wp2_with fail
        exact ⟨⟨k + 1, q, c, by omega, by go_num, by rw [O2.out.1.2, HmE.out], hq, O2.out.1.1, O2.out.2.1, O2.out.2.2⟩, by simp [intOf]; omega⟩
    · have HE : Hid (SNew w wr (.slice (some ⟨q, 0, none⟩) ((((sortS l).take k).filter hasDayB).length) c) (fullS l)) := by
        have hkl : (sortS l).take k = sortS l := List.take_of_length_le (by rw [← HNl.out]; omega)
        have hr := HF1.out.row
        rw [hkl] at hr ⊢
        exact ⟨q, c, rfl, HF1.out.lo, hr⟩
      have HB2 := hideP HF1.out.below
      go_wp2
      go_ret
      exact ⟨_, rfl, HE.out, HB2.out⟩
theorem tile_one {f t : Int} {L : List Seg} (h : sharedP L) : tileC f t L = 1 := by unfold tileC; rw [if_pos (shared_yes h)]
theorem tile_two {f t : Int} {L : List Seg} (h : ¬ sharedP L) (hb : bareS t L f = true) : tileC f t L = 2 := by unfold tileC; rw [shared_no h, if_neg (by simp), if_pos hb]
theorem tile_no {f t : Int} {L : List Seg} (h : ¬ sharedP L) (hb : bareS t L f = false) : tileC f t L = 0 := by unfold tileC; rw [shared_no h, if_neg (by simp), hb, if_neg (by simp)]
set_option maxRecDepth 100000 in
set_option maxHeartbeats 4000000 in
theorem specTiles (f t : Int) (v : Value) (l : List Seg) (w : World) (h : IRow segK w v l) (hl : l.length ≤ 1048576) (hf : -9223372036854775808 ≤ f) (ht : t ≤ 9223372036854775807) : Calls Tryz.prog 114 #[.int .i64 f, .int .i64 t, v] w fun e w' => e = .returned (.int .i64 (tilesZ f t l)) ∧ Below w.heap.size w w' := by
  have KF := hideP (specFull v l w h hl)
  have hfl := full_len l
  unfold tilesZ
  obtain ⟨ad, ca, rfl, _⟩ := h
  generalize fullS l = L at *
  obtain ⟨R, hR⟩ : ∃ R, R = tileC f t L := ⟨_, rfl⟩
  have HR := hideP hR
  rw [← hR]
  obtain ⟨N, hN⟩ : ∃ N, N = L.length := ⟨_, rfl⟩
  have HN := hideP hN
  have hNl : N ≤ 1048576 := by omega
  clear hR hN hfl
  go_enter Tryz.func114, Tryz.ntmps114
  go_wp2_with fail
  refine KF.out.mono ?_
  rintro e w1 ⟨o, rfl, ⟨g, c, rfl, hg, hP⟩, hB⟩
  have HP := hideP hP
  have HB := hideP hB
  have HC : Hid (∀ (y : Later w1) k, k < N → y.w.cell? ⟨g, k * 5, none⟩ = some (.int .i64 (sgA L k).fr) ∧ y.w.cell? ⟨g, k * 5 + 1, none⟩ = some (.int .i64 (sgA L k).to)) := fun y k hk => by
    have := ((hP.at (k := k) (by rw [← HN.out]; exact hk)).below y.below hP.lt).seg
    exact ⟨this.1, this.2.1⟩
  have hcs : N ≤ c := by obtain ⟨_, _, _, q, _⟩ := hP; rw [HN.out]; exact q
  have hcsm : c ≤ 2 ^ 63 - 1 := by obtain ⟨_, _, _, _, q, _⟩ := hP; exact q
  rw [← HN.out]
  clear hP hB hg
  go_wp2
  go_loopw [8] (fun i wr => ∃ k : Nat, i = .int .i64 ((k : Int) + 1) ∧ k ≤ N ∧ Hid (NoSh L N k) ∧ ∃ y : Later w1, wr = y.w) (fun i _ => N + 1 - (intOf i).toNat)
  case atStart => exact ⟨0, rfl, Nat.zero_le _, fun j h1 h2 => by omega, ⟨w1, Below.refl _ _⟩, rfl⟩
  case round =>
    obtain ⟨k, rfl, hk, HJ, y, rfl⟩ := hrel
    by_cases hlt : k + 1 < N
    · have hlt' : (k : Int) + 1 < (N : Int) := by omega
      have e1 : (k : Int) + 1 - 1 = (k : Int) := by omega
      have a0 : ∀ y : Later w1, y.w.cell? ⟨g, (k + 1) * 5, none⟩ = some (.int .i64 (sgA L (k + 1)).fr) := fun y => (HC.out y (k + 1) hlt).1
      have a1 : ∀ y : Later w1, y.w.cell? ⟨g, k * 5 + 1, none⟩ = some (.int .i64 (sgA L k).to) := fun y => (HC.out y k (by omega)).2
      have HY : Hid ((sgA L (k + 1)).fr ≤ (sgA L k).to → R = 1) := fun q => by rw [HR.out]; exact tile_one ⟨k + 1, by omega, by rw [← HN.out]; exact hlt, q⟩
      have HX : Hid (¬ (sgA L (k + 1)).fr ≤ (sgA L k).to → NoSh L N (k + 1)) := fun q j h1 h2 h3 => by
        by_cases e : j = k + 1
        · subst e; exact q
        · exact HJ.out j h1 (by omega) h3
      clear HJ
      generalize (sgA L (k + 1)).fr = p at *
      generalize (sgA L k).to = q at *
      by_cases hpq : p ≤ q
      · have hd : decide (p ≤ q) = true := decide_eq_true hpq
        have HE := hideP (HY.out hpq)
        go_wp2_with fail
        refine wp_region_later (W := w1) y.below (by kernel_rfl) (by kernel_rfl) ?_
        repeat (go_big_quiet_step (fail))
        refine wpQuiet_nil ?_
        intro _ hw'
        obtain ⟨x, rfl⟩ := hw'
        go_wp2_with fail
        go_ret
        exact ⟨ret_int HE.out.symm, HB.out.trans (x.below.mono HB.out.size)⟩
      · have hd : decide (p ≤ q) = false := decide_eq_false hpq
        have HE := hideP (HX.out hpq)
        go_wp2_with fail
        refine wp_region_later (W := w1) y.below (by kernel_rfl) (by kernel_rfl) ?_
        repeat (go_big_quiet_step (fail))
        refine wpQuiet_nil ?_
        intro _ hw'
        obtain ⟨x, rfl⟩ := hw'
        go_wp2
        exact ⟨⟨k + 1, by go_num, by omega, HE.out, x, rfl⟩, by simp [intOf]; omega⟩
    · have hlt' : ¬ ((k : Int) + 1 < (N : Int)) := by omega
      have HS : Hid (¬ sharedP L) := fun ⟨i, h1, h2, h3⟩ => HJ.out i h1 (by rw [← HN.out] at h2; omega) (by rw [HN.out]; exact h2) h3
      clear HJ
      go_wp2
      go_loopw [9, 10] (fun n i wr => ∃ (k : Nat) (z : Int), k ≤ N ∧ i = .int .i64 (k : Int) ∧ n = .int .i64 z ∧ -9223372036854775808 ≤ z ∧ Hid (bareS t (L.drop k) z = bareS t L f) ∧ ∃ y : Later w1, wr = y.w) (fun _ i _ => N - (intOf i).toNat)
      case atStart => exact ⟨0, f, Nat.zero_le _, rfl, rfl, hf, by simp [Hid], y, rfl⟩
      case round =>
        obtain ⟨k, z, hk, rfl, rfl, hz, HF, y, rfl⟩ := hrel
        by_cases hkN : k < N
        case neg =>
          have hkN' : ¬ ((k : Int) < (N : Int)) := by omega
          have HE := hideP (bareS_end (to := t) (n := z) (L := L) (k := k) (by rw [← HN.out]; omega))
          by_cases hzt : z ≤ t
          · have HQ : Hid (R = 2) := by unfold Hid; rw [HR.out]; exact tile_two HS.out (by rw [← HF.out, HE.out]; exact decide_eq_true hzt)
            have hd : decide (z ≤ t) = true := decide_eq_true hzt
            go_wp2
            go_ret
            exact ⟨ret_int HQ.out.symm, HB.out.trans (y.below.mono HB.out.size)⟩
          · have HQ : Hid (R = 0) := by unfold Hid; rw [HR.out]; exact tile_no HS.out (by rw [← HF.out, HE.out]; exact decide_eq_false hzt)
            have hd : decide (z ≤ t) = false := decide_eq_false hzt
            go_wp2
            go_ret
            exact ⟨ret_int HQ.out.symm, HB.out.trans (y.below.mono HB.out.size)⟩
        have hkN' : (k : Int) < (N : Int) := by omega
        have HA := hideP (bareS_at (to := t) (n := z) (L := L) (k := k) (by rw [← HN.out]; exact hkN))
        have a0 : y.w.cell? ⟨g, k * 5, none⟩ = some (.int .i64 (sgA L k).fr) := (HC.out y k hkN).1
        have a1 : y.w.cell? ⟨g, k * 5 + 1, none⟩ = some (.int .i64 (sgA L k).to) := (HC.out y k hkN).2
        generalize sgA L k = s at *
        by_cases hzt : z ≤ t
        case neg =>
          have HQ : Hid (R = 0) := by unfold Hid; rw [HR.out]; exact tile_no HS.out (by rw [← HF.out, HA.out, if_neg hzt])
          have hd : decide (z ≤ t) = false := decide_eq_false hzt
          go_wp2
          go_ret
          exact ⟨ret_int HQ.out.symm, HB.out.trans (y.below.mono HB.out.size)⟩
        have hd : decide (z ≤ t) = true := decide_eq_true hzt
        by_cases h1 : s.to < z
        · have HQ : Hid (bareS t (L.drop (k + 1)) z = bareS t L f) := by unfold Hid; rw [← HF.out, HA.out, if_pos hzt, if_pos h1]
          have hd1 : decide (s.to < z) = true := decide_eq_true h1
          go_wp2
          exact ⟨⟨k + 1, z, by omega, by go_num, rfl, hz, HQ.out, y, rfl⟩, by simp [intOf]; omega⟩
        have hd1 : decide (s.to < z) = false := decide_eq_false h1
        by_cases h2 : z < s.fr
        · have HQ : Hid (R = 2) := by unfold Hid; rw [HR.out]; exact tile_two HS.out (by rw [← HF.out, HA.out, if_pos hzt, if_neg h1, if_pos h2])
          have hd2 : decide (z < s.fr) = true := decide_eq_true h2
          go_wp2
          go_ret
          exact ⟨ret_int HQ.out.symm, HB.out.trans (y.below.mono HB.out.size)⟩
        have hd2 : decide (z < s.fr) = false := decide_eq_false h2
        by_cases h3 : t ≤ s.to
        · have HQ : Hid (R = 0) := by unfold Hid; rw [HR.out]; exact tile_no HS.out (by rw [← HF.out, HA.out, if_pos hzt, if_neg h1, if_neg h2, if_pos h3])
          have hd3 : decide (t ≤ s.to) = true := decide_eq_true h3
          go_wp2
          go_ret
          exact ⟨ret_int HQ.out.symm, HB.out.trans (y.below.mono HB.out.size)⟩
        · have HQ : Hid (bareS t (L.drop (k + 1)) (s.to + 1) = bareS t L f) := by unfold Hid; rw [← HF.out, HA.out, if_pos hzt, if_neg h1, if_neg h2, if_neg h3]
          have hd3 : decide (t ≤ s.to) = false := decide_eq_false h3
          go_wp2
          exact ⟨⟨k + 1, s.to + 1, by omega, by go_num, by go_num, by omega, HQ.out, y, rfl⟩, by simp [intOf]; omega⟩
end Go.Proofs.YtdgolaaheakfoaaGreatDoor.ctr
namespace Go.Proofs.YtdgolaaheakfoaaGreatDoor.ctr
open Go.RowKit
set_option maxRecDepth 100000 in
set_option maxHeartbeats 2000000 in
theorem specSegs9 (v : Value) (r : Rgm) (w : World) (h : GRow w v r) (hf : -9223372036854775808 ≤ r.fr) (ht : r.to ≤ 9223372036854775807) : Calls Tryz.prog 71 #[v] w fun e w' => e = .returned (.bool (segsB r.fr r.to r.segs)) ∧ Below w.heap.size w w' := by
  obtain ⟨nm, f, t, l, ps, rs, ru⟩ := r
  obtain ⟨v1, v2, v3, rfl, _, x1, x2, x3⟩ := h
  dsimp only at x1 x2 x3
  obtain ⟨W0, hW0, d0, d1, d2, d3, d4, d5, d6, hBl⟩ := seven_box w (.string nm) (.int .i64 f) (.int .i64 t) v1 v2 v3 (.int .i64 ru) 40
  have hrow := x1.below (hBl ⟨W0, Below.refl _ _⟩)
  have KT : Hid (∀ y : Later W0, l.length ≤ 1048576 → Calls Tryz.prog 114 #[.int .i64 f, .int .i64 t, v1] y.w fun e w' => e = .returned (.int .i64 (tilesZ f t l)) ∧ Below y.w.heap.size y.w w') := fun y h1 => specTiles f t v1 l y.w (hrow.below y.below) h1 hf ht
  obtain ⟨a1, c1, rfl, _⟩ := x1
  obtain ⟨a2, c2, rfl, _⟩ := x2
  obtain ⟨a3, c3, rfl, _⟩ := x3
  obtain ⟨a, c, ev, hl, hm, H⟩ := hrow
  cases ev
  have HK := hideP H
  have HW0 := hideP hW0
  have HBl := hideP hBl
  unfold maxLen at hm
  dsimp only
  clear H hW0 hBl
  clear hf ht
  have KL : Hid (∀ W, Calls Tryz.prog 54 #[.int .i64 (l.length : Int), .int .i64 1, .int .i64 20] W fun e w' => e = .returned (.bool (inB (l.length : Int) 1 20)) ∧ w' = W) := fun W => l01In _ _ _ W
  have hst : Hid (Below W0.heap.size W0 W0) := Below.refl _ _
  go_enter Tryz.func71, Tryz.ntmps71
  go_wp2
  rw [← HW0.out]
  go_loopw [3] (fun i wr => ∃ k : Nat, k ≤ l.length ∧ i = .int .i64 (k : Int) ∧ Hid (allTo (segFit f t l) k = true) ∧ ∃ y : Later W0, wr = y.w) (fun i _ => l.length - (intOf i).toNat)
  case atStart => exact ⟨0, Nat.zero_le _, rfl, rfl, ⟨W0, hst.out⟩, rfl⟩
  case round =>
    obtain ⟨k, hk, rfl, HF, y, rfl⟩ := hrel
    by_cases hlt : k < l.length
    · obtain ⟨g, rfl, hg, x⟩ := HK.out k hlt
      obtain ⟨e0, e1, e2, e3, e4⟩ := (x.below y.below hg).seg
      obtain ⟨W1, hW1, c10, c11, c12, c13, c14, hBl1⟩ := seg_box y.w (atK segK l k).fr (atK segK l k).to (atK segK l k).cal (atK segK l k).sty (atK segK l k).off 90
      have hY : ∀ z : Later W1, Below W0.heap.size W0 z.w := fun z => y.on (hBl1 z)
      have D1 : ∀ z : Later W1, z.w.cell? ⟨w.heap.size, 1, none⟩ = some (.int .i64 f) := fun z => d1 ⟨z.w, hY z⟩
      have D2 : ∀ z : Later W1, z.w.cell? ⟨w.heap.size, 2, none⟩ = some (.int .i64 t) := fun z => d2 ⟨z.w, hY z⟩
      have D3 : ∀ z : Later W1, z.w.cell? ⟨w.heap.size, 3, none⟩ = some (.slice (some ⟨g, 0, none⟩) l.length c1) := fun z => d3 ⟨z.w, hY z⟩
      have HP : Hid (∀ j, k = j + 1 → ∀ z : Later W1, z.w.cell? ⟨g, j * 5, none⟩ = some (.int .i64 (atK segK l j).fr)) := fun j e z => by
        obtain ⟨g', e', hg', x'⟩ := HK.out j (by omega)
        cases e'
        exact ((x'.below (hY z) hg').seg).1
      have F1 := hideP (fun h => segs_bad (f := f) (t := t) (k := k) (fit_no1 h) hlt)
      have F2 := hideP (fun h => segs_bad (f := f) (t := t) (k := k) (fit_no2 h) hlt)
      have F3 := hideP (fun h => segs_bad (f := f) (t := t) (k := k) (fit_no3 h) hlt)
      have F4 := hideP (fun (j : Nat) (e : k = j + 1) h => segs_bad (f := f) (t := t) (k := k) (fit_no4 e h) hlt)
      have F5 := hideP (fun h1 h2 h3 h4 => allTo_next HF.out (fit_yes (f := f) (t := t) (k := k) h1 h2 h3 h4))
      have HW1 := hideP hW1
      have HY := hideP hY
      clear x hW1 hBl1 hY
      generalize atK segK l k = s at *
      have KO : ∀ y : Later W1, Calls Tryz.prog 113 #[.agg #[.int .i64 s.fr, .int .i64 s.to, .int .i64 s.cal, .int .i64 s.sty, .int .i64 s.off]] y.w fun e w' => e = .returned (.bool (segOkB s)) ∧ Below y.w.heap.size y.w w' := fun y => specSegOk s y.w
      generalize segOkB s = b1 at *
      cases b1
      · have HR := hideP (F1.out rfl)
        go_wp2_with fail
        rw [← HW1.out]
        refine wp_region_later (W := W1) (Below.refl _ _) (by kernel_rfl) (by kernel_rfl) ?_
        repeat (go_big_quiet_step (first | (go_at_call 113; exact calls_later (KO _)) | fail))
        refine wpQuiet_nil ?_
        intro _ hw'
        obtain ⟨u, rfl⟩ := hw'
        go_wp2
        go_ret
        exact ⟨ret_bool HR.out.symm, HBl.out ⟨u.w, HY.out u⟩⟩
      by_cases h2 : f ≤ s.fr
      case neg =>
        have HR := hideP (F2.out (by omega))
        have q3 : decide (s.fr < f) = true := decide_eq_true (by omega)
        go_wp2_with fail
        rw [← HW1.out]
        refine wp_region_later (W := W1) (Below.refl _ _) (by kernel_rfl) (by kernel_rfl) ?_
        repeat (go_big_quiet_step (first | (go_at_call 113; exact calls_later (KO _)) | fail))
        refine wpQuiet_nil ?_
        intro _ hw'
        obtain ⟨u, rfl⟩ := hw'
        go_wp2
        go_ret
        exact ⟨ret_bool HR.out.symm, HBl.out ⟨u.w, HY.out u⟩⟩
      have q3 : decide (s.fr < f) = false := decide_eq_false (by omega)
      by_cases h3 : s.to ≤ t
      case neg =>
        have HR := hideP (F3.out (by omega))
        have q4 : decide (t < s.to) = true := decide_eq_true (by omega)
        go_wp2_with fail
        rw [← HW1.out]
        refine wp_region_later (W := W1) (Below.refl _ _) (by kernel_rfl) (by kernel_rfl) ?_
        repeat (go_big_quiet_step (first | (go_at_call 113; exact calls_later (KO _)) | fail))
        refine wpQuiet_nil ?_
        intro _ hw'
        obtain ⟨u, rfl⟩ := hw'
        go_wp2
        go_ret
        exact ⟨ret_bool HR.out.symm, HBl.out ⟨u.w, HY.out u⟩⟩
      have q4 : decide (t < s.to) = false := decide_eq_false (by omega)
      obtain rfl | ⟨j, rfl⟩ : k = 0 ∨ ∃ j, k = j + 1 := by cases k with | zero => exact .inl rfl | succ j => exact .inr ⟨j, rfl⟩
      · have HN := hideP (F5.out rfl h2 h3 (fun j e => by omega))
        go_wp2_with fail
        rw [← HW1.out]
        refine wp_region_later (W := W1) (Below.refl _ _) (by kernel_rfl) (by kernel_rfl) ?_
        repeat (go_big_quiet_step (first | (go_at_call 113; exact calls_later (KO _)) | fail))
        refine wpQuiet_nil ?_
        intro _ hw'
        obtain ⟨u, rfl⟩ := hw'
        go_wp2
        exact ⟨⟨0 + 1, by omega, by go_num, HN.out, ⟨u.w, HY.out u⟩, rfl⟩, by simp [intOf]; omega⟩
      · have e5 := HP.out j rfl
        have G4 := hideP (F4.out j rfl)
        have G5 := hideP (fun (h4 : (atK segK l j).fr < s.fr) => F5.out rfl h2 h3 (fun i e => (show i = j from by omega) ▸ h4))
        have hj0 : decide ((0 : Int) < (j : Int) + 1) = true := decide_eq_true (by omega)
        clear HP F1 F2 F3 F4 F5
        generalize (atK segK l j).fr = P at *
        by_cases h4 : P < s.fr
        case neg =>
          have HR := hideP (G4.out (by omega))
          have q5 : decide (s.fr ≤ P) = true := decide_eq_true (by omega)
          go_wp2_with fail
          rw [← HW1.out]
          refine wp_region_later (W := W1) (Below.refl _ _) (by kernel_rfl) (by kernel_rfl) ?_
          repeat (go_big_quiet_step (first | (go_at_call 113; exact calls_later (KO _)) | fail))
          refine wpQuiet_nil ?_
          intro _ hw'
          obtain ⟨u, rfl⟩ := hw'
          go_wp2
          go_ret
          exact ⟨ret_bool HR.out.symm, HBl.out ⟨u.w, HY.out u⟩⟩
        have HN := hideP (G5.out h4)
        have q5 : decide (s.fr ≤ P) = false := decide_eq_false (by omega)
        go_wp2_with fail
        rw [← HW1.out]
        refine wp_region_later (W := W1) (Below.refl _ _) (by kernel_rfl) (by kernel_rfl) ?_
        repeat (go_big_quiet_step (first | (go_at_call 113; exact calls_later (KO _)) | fail))
        refine wpQuiet_nil ?_
        intro _ hw'
        obtain ⟨u, rfl⟩ := hw'
        go_wp2
        exact ⟨⟨j + 1 + 1, by omega, by go_num, HN.out, ⟨u.w, HY.out u⟩, rfl⟩, by simp [intOf]; omega⟩
    · have hkn : k = l.length := by omega
      have HA : Hid (allTo (segFit f t l) l.length = true) := by rw [← hkn]; exact HF
      have HR1 := hideP (fun h => segs_end (f := f) (t := t) (l := l) h HA.out)
      have HR0 := hideP (fun h => segs_short (f := f) (t := t) (l := l) h)
      have HL : Hid (inB (l.length : Int) 1 20 = true → l.length ≤ 1048576) := fun h => by
        by_cases hx : l.length ≤ 1048576
        · exact hx
        · rw [inB_false (.inr (by omega))] at h; cases h
      have KC := hideP (fun h => KT.out y (HL.out h))
      clear KT HF
      subst hkn
      generalize inB (l.length : Int) 1 20 = b at *
      generalize tilesZ f t l = Z at *
      go_wp2_with fail
      refine (KL.out _).mono ?_
      rintro e w1 ⟨rfl, rfl⟩
      cases b
      · have HR := hideP (HR0.out rfl)
        go_wp2
        go_ret
        exact ⟨ret_bool HR.out.symm, HBl.out y⟩
      have HR := hideP (HR1.out rfl)
      have KD := hideP (KC.out rfl)
      clear KC HR1 HR0 HL
      go_wp2_with fail
      refine KD.out.mono ?_
      rintro e w2 ⟨rfl, hb⟩
      have HB2 : Hid (Below w.heap.size w w2) := HBl.out ⟨w2, y.on hb⟩
      clear hb
      by_cases hz : Z = 0
      · subst hz
        go_wp2
        go_ret
        exact ⟨ret_bool (by rw [HR.out]; rfl), HB2.out⟩
      · have hz' : (Z == 0) = false := by simp [hz]
        have HR2 : Hid (segsB f t l = false) := by unfold Hid; rw [HR.out]; exact decide_eq_false hz
        go_wp2
        go_ret
        exact ⟨ret_bool HR2.out.symm, HB2.out⟩
set_option maxRecDepth 100000 in
set_option maxHeartbeats 2000000 in
theorem specPatches9 (v : Value) (r : Rgm) (w : World) (h : GRow w v r) : Calls Tryz.prog 72 #[v] w fun e w' => e = .returned (.bool (patsB r.fr r.to r.pats)) ∧ Below w.heap.size w w' := by
  obtain ⟨nm, f, t, ss, l, rs, ru⟩ := r
  obtain ⟨v1, v2, v3, rfl, _, x1, x2, x3⟩ := h
  dsimp only at x1 x2 x3
  obtain ⟨W0, hW0, d0, d1, d2, d3, d4, d5, d6, hBl⟩ := seven_box w (.string nm) (.int .i64 f) (.int .i64 t) v1 v2 v3 (.int .i64 ru) 40
  have hrow := x2.below (hBl ⟨W0, Below.refl _ _⟩)
  obtain ⟨a1, c1, rfl, _⟩ := x1
  obtain ⟨a2, c2, rfl, _⟩ := x2
  obtain ⟨a3, c3, rfl, _⟩ := x3
  obtain ⟨a, c, ev, hl, hm, H⟩ := hrow
  cases ev
  have HK := hideP H
  have HW0 := hideP hW0
  have HBl := hideP hBl
  unfold maxLen at hm
  dsimp only
  clear H hW0 hBl
  have hst : Hid (Below W0.heap.size W0 W0) := Below.refl _ _
  go_enter Tryz.func72, Tryz.ntmps72
  go_wp2
  rw [← HW0.out]
  go_loopw [3] (fun i wr => ∃ k : Nat, k ≤ l.length ∧ i = .int .i64 (k : Int) ∧ Hid (allTo (patFit f t l) k = true) ∧ ∃ y : Later W0, wr = y.w) (fun i _ => l.length - (intOf i).toNat)
  case atStart => exact ⟨0, Nat.zero_le _, rfl, rfl, ⟨W0, hst.out⟩, rfl⟩
  case round =>
    obtain ⟨k, hk, rfl, HF, y, rfl⟩ := hrel
    by_cases hlt : k < l.length
    · obtain ⟨g, rfl, hg, x⟩ := HK.out k hlt
      obtain ⟨e0, e1, e2⟩ := (x.below y.below hg).pat
      obtain ⟨W1, hW1, c10, c11, c12, hBl1⟩ := pat_box y.w (atK patK l k).day (atK patK l k).mon (atK patK l k).dom 120
      have hY : ∀ z : Later W1, Below W0.heap.size W0 z.w := fun z => y.on (hBl1 z)
      have D1 : ∀ z : Later W1, z.w.cell? ⟨w.heap.size, 1, none⟩ = some (.int .i64 f) := fun z => d1 ⟨z.w, hY z⟩
      have D2 : ∀ z : Later W1, z.w.cell? ⟨w.heap.size, 2, none⟩ = some (.int .i64 t) := fun z => d2 ⟨z.w, hY z⟩
      have D3 : ∀ z : Later W1, z.w.cell? ⟨w.heap.size, 4, none⟩ = some (.slice (some ⟨g, 0, none⟩) l.length c2) := fun z => d4 ⟨z.w, hY z⟩
      have HP : Hid (∀ j, k = j + 1 → ∀ z : Later W1, z.w.cell? ⟨g, j * 3, none⟩ = some (.int .i64 (atK patK l j).day)) := fun j e z => by
        obtain ⟨g', e', hg', x'⟩ := HK.out j (by omega)
        cases e'
        exact ((x'.below (hY z) hg').pat).1
      have F1 := hideP (fun h => pats_bad (f := f) (t := t) (k := k) (pfit_no1 h) hlt)
      have F2 := hideP (fun h => pats_bad (f := f) (t := t) (k := k) (pfit_no2 h) hlt)
      have F4 := hideP (fun (j : Nat) (e : k = j + 1) h => pats_bad (f := f) (t := t) (k := k) (pfit_no4 e h) hlt)
      have F5 := hideP (fun h1 h2 h4 => allTo_next HF.out (pfit_yes (f := f) (t := t) (k := k) h1 h2 h4))
      have HW1 := hideP hW1
      have HY := hideP hY
      clear x hW1 hBl1 hY
      generalize atK patK l k = s at *
      have KA : ∀ y : Later W1, Calls Tryz.prog 54 #[.int .i64 s.day, .int .i64 f, .int .i64 t] y.w fun e w' => e = .returned (.bool (inB s.day f t)) ∧ w' = y.w := fun y => l01In _ _ _ y.w
      have KM : ∀ y : Later W1, Calls Tryz.prog 54 #[.int .i64 s.mon, .int .i64 1, .int .i64 12] y.w fun e w' => e = .returned (.bool (inB s.mon 1 12)) ∧ w' = y.w := fun y => l01In _ _ _ y.w
      have KD : ∀ y : Later W1, Calls Tryz.prog 54 #[.int .i64 s.dom, .int .i64 1, .int .i64 31] y.w fun e w' => e = .returned (.bool (inB s.dom 1 31)) ∧ w' = y.w := fun y => l01In _ _ _ y.w
      have HPB : Hid (patB s = (inB s.mon 1 12 && inB s.dom 1 31)) := rfl
      generalize patB s = pb at *
      obtain ⟨s0, s1, s2⟩ := s
      dsimp only at *
      generalize inB s0 f t = b1 at *
      generalize inB s1 1 12 = b2 at *
      generalize inB s2 1 31 = b3 at *
      cases b1
      · have HR := hideP (F2.out rfl)
        go_wp2_with fail
        rw [← HW1.out]
        refine wp_region_later (W := W1) (Below.refl _ _) (by kernel_rfl) (by kernel_rfl) ?_
        repeat (go_big_quiet_step (first | (go_at_call_of 54 s0; exact calls_same (KA _)) | (go_at_call_of 54 s1; exact calls_same (KM _)) | (go_at_call_of 54 s2; exact calls_same (KD _)) | fail))
        refine wpQuiet_nil ?_
        intro _ hw'
        obtain ⟨u, rfl⟩ := hw'
        go_wp2
        go_ret
        exact ⟨ret_bool HR.out.symm, HBl.out ⟨u.w, HY.out u⟩⟩
      cases b2
      · have HR := hideP (F1.out (by rw [HPB.out]; rfl))
        go_wp2_with fail
        rw [← HW1.out]
        refine wp_region_later (W := W1) (Below.refl _ _) (by kernel_rfl) (by kernel_rfl) ?_
        repeat (go_big_quiet_step (first | (go_at_call_of 54 s0; exact calls_same (KA _)) | (go_at_call_of 54 s1; exact calls_same (KM _)) | (go_at_call_of 54 s2; exact calls_same (KD _)) | fail))
        refine wpQuiet_nil ?_
        intro _ hw'
        obtain ⟨u, rfl⟩ := hw'
        go_wp2
        go_ret
        exact ⟨ret_bool HR.out.symm, HBl.out ⟨u.w, HY.out u⟩⟩
      cases b3
      · have HR := hideP (F1.out (by rw [HPB.out]; rfl))
        go_wp2_with fail
        rw [← HW1.out]
        refine wp_region_later (W := W1) (Below.refl _ _) (by kernel_rfl) (by kernel_rfl) ?_
        repeat (go_big_quiet_step (first | (go_at_call_of 54 s0; exact calls_same (KA _)) | (go_at_call_of 54 s1; exact calls_same (KM _)) | (go_at_call_of 54 s2; exact calls_same (KD _)) | fail))
        refine wpQuiet_nil ?_
        intro _ hw'
        obtain ⟨u, rfl⟩ := hw'
        go_wp2
        go_ret
        exact ⟨ret_bool HR.out.symm, HBl.out ⟨u.w, HY.out u⟩⟩
      have HP1 : Hid (pb = true) := HPB.out
      obtain rfl | ⟨j, rfl⟩ : k = 0 ∨ ∃ j, k = j + 1 := by cases k with | zero => exact .inl rfl | succ j => exact .inr ⟨j, rfl⟩
      · have HN := hideP (F5.out HP1.out rfl (fun j e => by omega))
        go_wp2_with fail
        rw [← HW1.out]
        refine wp_region_later (W := W1) (Below.refl _ _) (by kernel_rfl) (by kernel_rfl) ?_
        repeat (go_big_quiet_step (first | (go_at_call_of 54 s0; exact calls_same (KA _)) | (go_at_call_of 54 s1; exact calls_same (KM _)) | (go_at_call_of 54 s2; exact calls_same (KD _)) | fail))
        refine wpQuiet_nil ?_
        intro _ hw'
        obtain ⟨u, rfl⟩ := hw'
        go_wp2
        exact ⟨⟨0 + 1, by omega, by go_num, HN.out, ⟨u.w, HY.out u⟩, rfl⟩, by simp [intOf]; omega⟩
      · have e5 := HP.out j rfl
        have G4 := hideP (F4.out j rfl)
        have G5 := hideP (fun (h4 : (atK patK l j).day < s0) => F5.out HP1.out rfl (fun i e => (show i = j from by omega) ▸ h4))
        have hj0 : decide ((0 : Int) < (j : Int) + 1) = true := decide_eq_true (by omega)
        clear HP F1 F2 F4 F5
        generalize (atK patK l j).day = P at *
        by_cases h4 : P < s0
        case neg =>
          have HR := hideP (G4.out (by omega))
          have q5 : decide (s0 ≤ P) = true := decide_eq_true (by omega)
          go_wp2_with fail
          rw [← HW1.out]
          refine wp_region_later (W := W1) (Below.refl _ _) (by kernel_rfl) (by kernel_rfl) ?_
          repeat (go_big_quiet_step (first | (go_at_call_of 54 s0; exact calls_same (KA _)) | (go_at_call_of 54 s1; exact calls_same (KM _)) | (go_at_call_of 54 s2; exact calls_same (KD _)) | fail))
          refine wpQuiet_nil ?_
          intro _ hw'
          obtain ⟨u, rfl⟩ := hw'
          go_wp2
          go_ret
          exact ⟨ret_bool HR.out.symm, HBl.out ⟨u.w, HY.out u⟩⟩
        have HN := hideP (G5.out h4)
        have q5 : decide (s0 ≤ P) = false := decide_eq_false (by omega)
        go_wp2_with fail
        rw [← HW1.out]
        refine wp_region_later (W := W1) (Below.refl _ _) (by kernel_rfl) (by kernel_rfl) ?_
        repeat (go_big_quiet_step (first | (go_at_call_of 54 s0; exact calls_same (KA _)) | (go_at_call_of 54 s1; exact calls_same (KM _)) | (go_at_call_of 54 s2; exact calls_same (KD _)) | fail))
        refine wpQuiet_nil ?_
        intro _ hw'
        obtain ⟨u, rfl⟩ := hw'
        go_wp2
        exact ⟨⟨j + 1 + 1, by omega, by go_num, HN.out, ⟨u.w, HY.out u⟩, rfl⟩, by simp [intOf]; omega⟩
    · have hkn : k = l.length := by omega
      have HA : Hid (allTo (patFit f t l) l.length = true) := by rw [← hkn]; exact HF
      have HR := hideP (pats_end HA.out)
      clear HF
      subst hkn
      by_cases h8 : (l.length : Int) ≤ 8
      · have HR2 : Hid (patsB f t l = true) := HR.out.trans (decide_eq_true h8)
        go_wp2
        go_ret
        exact ⟨ret_bool HR2.out.symm, HBl.out y⟩
      · have HR2 : Hid (patsB f t l = false) := HR.out.trans (decide_eq_false h8)
        have q8 : decide ((l.length : Int) ≤ 8) = false := decide_eq_false h8
        go_wp2
        go_ret
        exact ⟨ret_bool HR2.out.symm, HBl.out y⟩
end Go.Proofs.YtdgolaaheakfoaaGreatDoor.ctr
