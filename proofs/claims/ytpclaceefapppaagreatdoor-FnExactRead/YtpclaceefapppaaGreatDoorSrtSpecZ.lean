/- Contract of the model's Sorted: a new list that holds the segments put in one by one. -/
import Derived.Test.YtpclaceefapppaaGreatDoorJnZap
import Derived.Deep.RegionHeldLaw
set_option maxRecDepth 100000
set_option maxHeartbeats 4000000
namespace Go.Proofs.YtpclaceefapppaaGreatDoor.ctr
open Go.RowKit
theorem posS_gt {L : List Seg} {s : Seg} {a : Nat} (h : gtS (sgA L a) s = true) : posS L s (a + 1) = posS L s a := by rw [posS, if_pos h]
theorem posS_no {L : List Seg} {s : Seg} {a : Nat} (h : gtS (sgA L a) s = false) : posS L s (a + 1) = a + 1 := by rw [posS, if_neg (by rw [h]; simp)]
structure Ins1 (w : World) (l : List Seg) (k g cap : Nat) (wr : World) : Prop where
 row : PRow segK 91 wr g cap (sortS (l.take k))
 lo : w.heap.size ≤ g
 below : Below w.heap.size w wr
theorem Ins1.len {l : List Seg} {k : Nat} (hk : k ≤ l.length) : (sortS (l.take k)).length = k := by rw [sortS_len]; simp; omega
theorem snew_new {W X : World} {N : Nat} (hN : X.heap.size = N) (h : W.heap.size ≤ N) : SNew W (X.alloc (.cells #[] 91)) (.slice (some ⟨N, 0, none⟩) 0 0) [] := by
 subst hN
 exact ⟨_, 0, rfl, h, #[], Blk.new _ _ _, rfl, Nat.le_refl _, by unfold maxLen; omega, fun k hk => by simp at hk⟩
theorem SNew.al {W X : World} {v : Value} {L : List Seg} (h : SNew W X v L) (o : Obj) : SNew W (X.alloc o) v L := h.below ((Below.refl _ _).alloc (Nat.le_refl _) _)
theorem SNew.dr {W X : World} {v : Value} {L : List Seg} (h : SNew W X v L) : SNew W X.drew v L := h
def Sub (w : World) (v : Value) (M : List Seg) : Prop := ∃ ad c, v = .slice (some ad) M.length c ∧ ad.block < w.heap.size ∧ ∀ j u, (icells segK M)[j]? = some u → w.cell? (ad.add j) = some u
theorem Sub.dr {X : World} {v : Value} {L : List Seg} (h : Sub X v L) : Sub X.drew v L := h
theorem Sub.below {X Y : World} {v : Value} {L : List Seg} (h : Sub X v L) (hb : Below X.heap.size X Y) : Sub Y v L := by
 obtain ⟨ad, c, e, hl, h⟩ := h
 refine ⟨ad, c, e, Nat.lt_of_lt_of_le hl hb.size, fun j u hj => ?_⟩
 exact Later.at (h j u hj) ⟨Y, hb⟩
theorem add_block (ad : Addr) (j : Nat) : (ad.add j).block = ad.block := by unfold Addr.add; split <;> rfl
theorem Sub.grown {X Y : World} {v : Value} {L : List Seg} {r : Option Nat} (h : Sub X v L) (hg : X.grownBy Y r) (hr : ∀ ad n c, v = .slice (some ad) n c → some ad.block ≠ r) : Sub Y v L := by
 obtain ⟨ad, c, e, hl, h⟩ := h
 refine ⟨ad, c, e, Nat.lt_of_lt_of_le hl hg.size, fun j u hj => ?_⟩
 exact hg.cell (h j u hj) (by rw [add_block]; exact hr ad _ _ e)
theorem sub_one {X : World} {N : Nat} (hN : X.heap.size = N) (s : Seg) : Sub (X.alloc (.cells #[.int .i64 s.fr, .int .i64 s.to, .int .i64 s.cal, .int .i64 s.sty, .int .i64 s.off] 91)) (.slice (some ⟨N, 0, none⟩) 1 1) [s] := by
 subst hN
 refine ⟨⟨X.heap.size, 0, none⟩, 1, rfl, by rw [World.size_alloc]; exact Nat.lt_succ_self _, fun j u hj => ?_⟩
 exact news_seg X s 91 j u (by simpa [icells] using hj)
theorem owns_form {w : World} {base : Nat} {v : Value} {L : List Seg} (h : w.ownsRow base 91 5 v L.length (icells segK L)) (hv : v ≠ .slice none 0 0) : ∃ g cap, v = .slice (some ⟨g, 0, none⟩) L.length cap ∧ base ≤ g ∧ PRow segK 91 w g cap L := by
 obtain ⟨_, ⟨h, _⟩ | ⟨g, cap, cur, rfl, hg, hB, h1, h2, hs, hC⟩⟩ := h
 · exact absurd h hv
 · exact ⟨g, cap, rfl, hg, cur, hB, hs, h1, h2, CIs.of_take hC⟩
theorem step_app {ops : Array Oper} {o : Oper} {a : Act} {K : Act → World → Prop} {Q : Exit → Act → World → Prop} {E : Prop} {W w : World} (hgd : o.guard = none) (s x : Operand)
    (ho : o.op = .call { callee := .builtin .append, args := #[s, x], argTypes := #[31, 31] }) (L M : List Seg) (hs : SNew W w (a.eval s) L) (hx : Sub w (a.eval x) M) (hl : L.length + M.length ≤ 1048577) (hb : Below W.heap.size W w)
    (h : ∀ v' w', SNew W w' v' (L ++ M) → Below W.heap.size W w' → w.grownBy w' (a.eval s).ownBlock → K (a.put o.dst v') w') : if Region.wanted o (yielded ops a.tmps) = true then Oper.wp Tryz.prog o a w K Q else E := by
  obtain ⟨i0, hi, he⟩ := Option.map_eq_some_iff.1 info_seg
  simp only [Prod.mk.injEq] at he
  obtain ⟨hz0, hz1, hz2⟩ := he
  rw [if_pos (by simp [Region.wanted, hgd])]
  obtain ⟨g, cap, e1, hg, hP⟩ := hs
  obtain ⟨ad, c, e2, _, hM⟩ := hx
  have hsz := hb.size
  refine wp_append_own w s x 31 ho W.heap.size 91 i0 (.agg #[.int .i64 0, .int .i64 0, .int .i64 0, .int .i64 0, .int .i64 0]) 5 40 Tryz.underlying31 hi hz0 hz1 hz2 rfl (by decide) _ L.length (icells segK L) e1 (hP.owns (by decide) hg) ad M.length c (icells segK M) e2 (icells_len M) hM icell_one (by unfold maxLen; omega) (by omega) hsz ?_
  intro v' w' h1 h2 h3
  have h1' : w'.ownsRow W.heap.size 91 5 v' (L ++ M).length (icells segK (L ++ M)) := by rw [List.length_append, icells_app]; exact h1
  refine h v' w' (owns_form h1' (fun q => by have := (h3.1 q).1; cases this)) (hb.trans (below_grown2 h2 hsz (fun k e => by
   have e' : g = k := by simpa [Value.ownBlock] using e
   rw [← e']; exact hg))) (by rw [e1]; exact h2)
theorem region_done {w wr : World} {l : List Seg} {k g cap p : Nat} {s : Seg} (h : Ins1 w l k g cap wr) {x : World} (hx : Below wr.heap.size wr x) (hk : k < l.length) (hs : s = sgA l k) (hp : posS (sortS (l.take k)) s k = p) :
    ∀ v w', SNew x w' v ((([] ++ (sortS (l.take k)).take p) ++ [s]) ++ (sortS (l.take k)).drop p) → Below x.heap.size x w' → ∃ g' cap', v = .slice (some ⟨g', 0, none⟩) (k + 1) cap' ∧ Ins1 w l (k + 1) g' cap' w' := by
  intro v w' ⟨g', cap', e, hg, hP⟩ hb
  have hle : (sortS (l.take k)).length = k := Ins1.len (Nat.le_of_lt hk)
  have hh : (([] ++ (sortS (l.take k)).take p) ++ [s]) ++ (sortS (l.take k)).drop p = sortS (l.take (k + 1)) := by
   rw [sortS_snoc hk, ← hs, insS, hle, hp]
   simp
  rw [hh] at hP e
  rw [Ins1.len hk] at e
  have h1 := h.below.size
  have h2 := hx.size
  exact ⟨g', cap', e, hP, by omega, h.below.trans ((hx.mono h.below.size).trans (hb.mono (by omega)))⟩
theorem sub_take {w wr : World} {l : List Seg} {k g cap a : Nat} (h : Ins1 w l k g cap wr) (x : Later wr) (hk : k ≤ l.length) (ha : a ≤ k) : Sub x.w (.slice (some ⟨g, 0, none⟩) a cap) ((sortS (l.take k)).take a) := by
 have hle := Ins1.len hk
 have hr := (h.row.below x.below h.row.lt).shorter a
 have hl : ((sortS (l.take k)).take a).length = a := by simp; omega
 refine ⟨⟨g, 0, none⟩, cap, by rw [hl], hr.lt, fun j u hj => ?_⟩
 have := (hr.owns (base := 0) (by decide) (Nat.zero_le _)).cells (g := g) rfl j u hj
 exact this
theorem sub_none {w wr : World} {l : List Seg} {k g cap a : Nat} (h : Ins1 w l k g cap wr) (x : Later wr) (hk : k ≤ l.length) (ha : a ≤ k) (hc : cap = a) : Sub x.w (.slice (some ⟨g, 0, none⟩) 0 0) ((sortS (l.take k)).drop a) := by
 have hle := Ins1.len hk
 have hr := h.row.below x.below h.row.lt
 have hcap : k ≤ cap := by obtain ⟨_, _, _, q, _⟩ := h.row; rw [hle] at q; exact q
 have e : (sortS (l.take k)).drop a = [] := List.drop_of_length_le (by omega)
 rw [e]
 exact ⟨⟨g, 0, none⟩, 0, rfl, hr.lt, fun j u hj => by simp [icells] at hj⟩
theorem icells_drop {α : Type} {K : IK α} : ∀ (l : List α) (a : Nat), icells K (l.drop a) = (icells K l).drop (a * K.m)
  | l, 0 => by simp
  | [], a + 1 => by simp [icells]
  | b :: l, a + 1 => by
   rw [List.drop_succ_cons, icells_drop l a, icells, Nat.add_mul, Nat.one_mul, Nat.add_comm, List.drop_append]
   simp [icell, K.len]
theorem sub_drop {w wr : World} {l : List Seg} {k g cap a : Nat} (h : Ins1 w l k g cap wr) (x : Later wr) (hk : k ≤ l.length) (ha : a ≤ k) : Sub x.w (.slice (some ⟨g, a * 5, none⟩) (k - a) (cap - a)) ((sortS (l.take k)).drop a) := by
 have hle := Ins1.len hk
 have hr := h.row.below x.below h.row.lt
 have hl : ((sortS (l.take k)).drop a).length = k - a := by simp; omega
 refine ⟨⟨g, a * 5, none⟩, cap - a, by rw [hl], hr.lt, fun j u hj => ?_⟩
 rw [icells_drop, List.getElem?_drop] at hj
 have := (hr.owns (base := 0) (by decide) (Nat.zero_le _)).cells (g := g) rfl _ u hj
 have e1 : (⟨g, 0, none⟩ : Addr).add (a * segK.m + j) = ⟨g, a * 5 + j, none⟩ := by rw [show a * segK.m + j = a * 5 + j from rfl]; unfold Addr.add; split <;> simp_all
 have e2 : (⟨g, a * 5, none⟩ : Addr).add j = ⟨g, a * 5 + j, none⟩ := by unfold Addr.add; split <;> simp_all
 rw [e2, ← e1]
 exact this
theorem sub_some {w wr : World} {l : List Seg} {k g cap a : Nat} (h : Ins1 w l k g cap wr) (x : Later wr) (hk : k ≤ l.length) (ha : a ≤ k) : ∃ A : Addr, (if cap = a then some (⟨g, 0, none⟩ : Addr) else some ⟨g, a * 5, none⟩) = some A ∧ Sub x.w (.slice (some A) (k - a) (cap - a)) ((sortS (l.take k)).drop a) := by
 by_cases hc : cap = a
 · have hle := Ins1.len hk
   have hcap : k ≤ cap := by obtain ⟨_, _, _, q, _⟩ := h.row; rw [hle] at q; exact q
   refine ⟨⟨g, 0, none⟩, by rw [if_pos hc], ?_⟩
   have := sub_none h x hk ha hc
   rw [show k - a = 0 by omega, show cap - a = 0 by omega]
   exact this
 · exact ⟨⟨g, a * 5, none⟩, by rw [if_neg hc], sub_drop h x hk ha⟩
theorem specSorted (v : Value) (l : List Seg) (w : World) (h : IRow segK w v l) (hl : l.length ≤ 1048576) : Calls Tryz.prog 218 #[v] w fun e w' => ∃ o, e = .returned o ∧ SNew w w' o (sortS l) ∧ Below w.heap.size w w' := by
 obtain ⟨ad, ca, rfl, hca, hcm, HRow⟩ := h
 have HR := hideP HRow
 unfold maxLen at hcm
 clear HRow
 have S0 : Hid (Ins1 w l 0 w.heap.size 0 (w.alloc (.cells #[] 91))) := ⟨⟨#[], Blk.new _ _ _, rfl, by rw [Ins1.len (Nat.zero_le _)]; exact Nat.le_refl _, by unfold maxLen; omega, fun k hk => by rw [Ins1.len (Nat.zero_le _)] at hk; omega⟩, Nat.le_refl _, (Below.refl _ _).alloc (Nat.le_refl _) _⟩
 go_enter Tryz.func218, Tryz.ntmps218
 go_wp2
 go_loopw [3, 4] (fun o i wr => ∃ (k g cap : Nat), k ≤ l.length ∧ i = .int .i64 (k : Int) ∧ o = .slice (some ⟨g, 0, none⟩) k cap ∧ Ins1 w l k g cap wr) (fun _ i _ => l.length - (intOf i).toNat)
 case atStart => exact ⟨0, _, _, Nat.zero_le _, rfl, rfl, S0.out⟩
 case round =>
  obtain ⟨k, g, cap, hk, rfl, rfl, hI⟩ := hrel
  have HI := hideP hI
  clear hI S0
  by_cases hlt : k < l.length
  · obtain ⟨gv, rfl, hgv, x⟩ := HR.out k hlt
    have hle := Ins1.len hk
    have HLe := hideP hle
    clear hle
    obtain ⟨s, hs⟩ : ∃ s, s = sgA l k := ⟨_, rfl⟩
    have HS := hideP hs
    have d0 : ∀ y : Later wr, y.w.cell? ⟨gv, k * 5, none⟩ = some (.int .i64 s.fr) := fun y => by rw [hs]; exact ((x.below HI.out.below hgv).below y.below (Nat.lt_of_lt_of_le hgv HI.out.below.size)).seg.1
    have d1 : ∀ y : Later wr, y.w.cell? ⟨gv, k * 5 + 1, none⟩ = some (.int .i64 s.to) := fun y => by rw [hs]; exact ((x.below HI.out.below hgv).below y.below (Nat.lt_of_lt_of_le hgv HI.out.below.size)).seg.2.1
    have d2 : ∀ y : Later wr, y.w.cell? ⟨gv, k * 5 + 2, none⟩ = some (.int .i64 s.cal) := fun y => by rw [hs]; exact ((x.below HI.out.below hgv).below y.below (Nat.lt_of_lt_of_le hgv HI.out.below.size)).seg.2.2.1
    have d3 : ∀ y : Later wr, y.w.cell? ⟨gv, k * 5 + 3, none⟩ = some (.int .i64 s.sty) := fun y => by rw [hs]; exact ((x.below HI.out.below hgv).below y.below (Nat.lt_of_lt_of_le hgv HI.out.below.size)).seg.2.2.2.1
    have d4 : ∀ y : Later wr, y.w.cell? ⟨gv, k * 5 + 4, none⟩ = some (.int .i64 s.off) := fun y => by rw [hs]; exact ((x.below HI.out.below hgv).below y.below (Nat.lt_of_lt_of_le hgv HI.out.below.size)).seg.2.2.2.2
    have HC : Hid (∀ (y : Later wr) (a : Nat), a < k → y.w.cell? ⟨g, a * 5, none⟩ = some (.int .i64 (sgA (sortS (l.take k)) a).fr) ∧ y.w.cell? ⟨g, a * 5 + 1, none⟩ = some (.int .i64 (sgA (sortS (l.take k)) a).to)) := fun y a ha => by
     have := ((HI.out.row.at (k := a) (by rw [HLe.out]; exact ha)).below y.below HI.out.row.lt).seg
     exact ⟨this.1, this.2.1⟩
    have hcap : k ≤ cap := by obtain ⟨_, _, _, q, _⟩ := HI.out.row; rw [HLe.out] at q; exact q
    have hcapm : cap ≤ 2 ^ 63 - 1 := by obtain ⟨_, _, _, _, q, _⟩ := HI.out.row; exact q
    clear x hs
    go_wp2
    go_loopw [5] (fun i w' => ∃ a : Nat, a ≤ k ∧ i = .int .i64 (a : Int) ∧ Hid (posS (sortS (l.take k)) s a = posS (sortS (l.take k)) s k) ∧ ∃ y : Later wr, w' = y.w) (fun i _ => (intOf i).toNat)
    case atStart => exact ⟨k, Nat.le_refl _, rfl, rfl, ⟨wr, Below.refl _ _⟩, rfl⟩
    case round =>
     obtain ⟨a, ha, rfl, HP, y, rfl⟩ := hrel
     by_cases h0 : 0 < a
     case' neg =>
      have hd1 : decide ((0 : Int) < (a : Int)) = false := by simp; omega
      have hd2 : decide (0 < a) = false := by simp; omega
      have HPX : Hid (posS (sortS (l.take k)) s k = a) := by
       unfold Hid
       rw [← HP.out, show a = 0 by omega]
       rfl
      clear h0
     case' pos =>
      obtain ⟨b, hba⟩ : ∃ b, a = b + 1 := ⟨a - 1, by omega⟩
      have hb1 : (a : Int) - 1 = (b : Int) := by omega
      have hbk : b < k := by omega
      have hp1 : decide ((0 : Int) < (a : Int)) = true := by simp; omega
      have hp2 : decide (0 < a) = true := by simp; omega
      have e0 : ∀ y : Later wr, y.w.cell? ⟨g, b * 5, none⟩ = some (.int .i64 (sgA (sortS (l.take k)) b).fr) := fun y => (HC.out y b hbk).1
      have e1 : ∀ y : Later wr, y.w.cell? ⟨g, b * 5 + 1, none⟩ = some (.int .i64 (sgA (sortS (l.take k)) b).to) := fun y => (HC.out y b hbk).2
      have HG : Hid (gtS (sgA (sortS (l.take k)) b) s = true → posS (sortS (l.take k)) s b = posS (sortS (l.take k)) s k) := fun h => by
       rw [← HP.out, hba]
       exact (posS_gt h).symm
      have HN : Hid (gtS (sgA (sortS (l.take k)) b) s = false → posS (sortS (l.take k)) s k = a) := fun h => by
       rw [← HP.out, hba]
       exact posS_no h
      have Hba := hideP hba
      clear HP h0 hba
      generalize sgA (sortS (l.take k)) b = r at *
      by_cases c1 : s.fr < r.fr
      · have HX := hideP (HG.out (by simp [gtS, c1]))
        clear HG HN
        go_wp2_with fail
        refine wp_region_later (W := wr) y.below (by kernel_rfl) (by kernel_rfl) ?_
        repeat (go_big_quiet_step (fail))
        refine quietE fun x => ?_
        go_wp2_with fail
        exact ⟨⟨b, by omega, by go_num, HX.out, x, rfl⟩, by simp [intOf]; have := Hba.out; omega⟩
      have c1' : decide (s.fr < r.fr) = false := decide_eq_false c1
      by_cases c2 : r.fr = s.fr
      case' pos =>
       have c2' : (r.fr == s.fr) = true := by simp [c2]
       by_cases c3 : s.to < r.to
       · have HX := hideP (HG.out (by simp [gtS, c2, c3]))
         clear HG HN c2
         go_wp2_with fail
         refine wp_region_later (W := wr) y.below (by kernel_rfl) (by kernel_rfl) ?_
         repeat (go_big_quiet_step (fail))
         refine quietE fun x => ?_
         go_wp2_with fail
         exact ⟨⟨b, by omega, by go_num, HX.out, x, rfl⟩, by simp [intOf]; have := Hba.out; omega⟩
       have c3' : decide (s.to < r.to) = false := decide_eq_false c3
       have HPX : Hid (posS (sortS (l.take k)) s k = a) := HN.out (by simp [gtS, c1, c3])
       clear HG HN c2
      case' neg =>
       have c2' : (r.fr == s.fr) = false := by simp [c2]
       have HPX : Hid (posS (sortS (l.take k)) s k = a) := HN.out (by simp [gtS, c1, c2])
       clear HG HN
     all_goals
      go_wp2_with fail
      refine wp_region_later (W := wr) y.below (by kernel_rfl) (by kernel_rfl) ?_
      repeat (go_big_quiet_step (fail))
      refine quietE fun x => ?_
      go_wp2_with fail
      have HRD := hideP (region_done (w := w) (wr := wr) HI.out x.below hlt HS.out HPX.out)
      have HA := hideP (sub_take (w := w) HI.out x hk ha)
      obtain ⟨A, hA, hB⟩ := sub_some (w := w) HI.out x hk ha
      have HB := hideP hB
      have SK : Hid (∀ W', Below x.w.heap.size x.w W' → W'.cell? ⟨gv, k * 5, none⟩ = some (.int .i64 s.fr) ∧ W'.cell? ⟨gv, k * 5 + 1, none⟩ = some (.int .i64 s.to) ∧ W'.cell? ⟨gv, k * 5 + 2, none⟩ = some (.int .i64 s.cal) ∧ W'.cell? ⟨gv, k * 5 + 3, none⟩ = some (.int .i64 s.sty) ∧ W'.cell? ⟨gv, k * 5 + 4, none⟩ = some (.int .i64 s.off)) := fun W' hb => by
       have hy : Below wr.heap.size wr W' := x.on hb
       exact ⟨d0 ⟨W', hy⟩, d1 ⟨W', hy⟩, d2 ⟨W', hy⟩, d3 ⟨W', hy⟩, d4 ⟨W', hy⟩⟩
      have HQ1 : Hid (([] : List Seg).length + ((sortS (l.take k)).take a).length ≤ 1048577) := by unfold Hid; have := HLe.out; simp; omega
      have HQ2 : Hid (([] ++ (sortS (l.take k)).take a).length + [s].length ≤ 1048577) := by unfold Hid; have := HLe.out; simp; omega
      have HQ3 : Hid (([] ++ (sortS (l.take k)).take a ++ [s]).length + ((sortS (l.take k)).drop a).length ≤ 1048577) := by unfold Hid; have := HLe.out; simp; omega
      clear hB
      go_region_held_law (fun w' => w'.cell? ⟨gv, k * 5, none⟩ = some (.int .i64 s.fr) ∧ w'.cell? ⟨gv, k * 5 + 1, none⟩ = some (.int .i64 s.to) ∧ w'.cell? ⟨gv, k * 5 + 2, none⟩ = some (.int .i64 s.cal) ∧ w'.cell? ⟨gv, k * 5 + 3, none⟩ = some (.int .i64 s.sty) ∧ w'.cell? ⟨gv, k * 5 + 4, none⟩ = some (.int .i64 s.off)) (first | exact SK.out _ (Below.refl _ _).drew | exact SK.out _ ((Below.refl _ _).alloc (Nat.le_refl _) _).drew | exact SK.out _ (((Below.refl _ _).alloc (Nat.le_refl _) _).alloc (by rw [World.size_alloc]; omega) _).drew | exact SK.out _ B3 | exact SK.out _ B2 | exact SK.out _ B1 | exact SK.out _ (B1.alloc B1.size _)) ((first | (refine step_app (W := x.w) (by rfl) (.tmp 61) (.tmp 64) (by rfl) [] ((sortS (l.take k)).take a) (by first | exact (snew_new rfl (Nat.le_refl _)).dr | exact ((snew_new rfl (Nat.le_refl _)).al _).dr | exact (snew_new (X := x.w.alloc _) (by rw [World.size_alloc]) (by omega)).dr) (by first | exact (HA.out.below ((Below.refl _ _).alloc (Nat.le_refl _) _)).dr | exact ((HA.out.below ((Below.refl _ _).alloc (Nat.le_refl _) _)).below ((Below.refl _ _).alloc (Nat.le_refl _) _)).dr) HQ1.out (by first | exact (Below.refl _ _).drew | exact ((Below.refl _ _).alloc (Nat.le_refl _) _).drew | exact (((Below.refl _ _).alloc (Nat.le_refl _) _).alloc (by rw [World.size_alloc]; omega) _).drew | exact B3 | exact B2 | exact B1 | exact B1.alloc B1.size _) ?_; intro v1 w1 O1 B1 G1) | (refine step_app (W := x.w) (by rfl) (.tmp 65) (.tmp 70) (by rfl) ([] ++ (sortS (l.take k)).take a) [s] (by first | exact O1 | exact O1.al _) (by first | exact sub_one rfl s | exact ((sub_one (X := x.w.alloc _) (by rw [World.size_alloc]) s).dr).grown G1 (fun ad n c e => by cases e; simp [Act.eval, Value.ownBlock]) | exact (((sub_one (X := x.w) rfl s).below ((Below.refl _ _).alloc (Nat.le_refl _) _)).dr).grown G1 (fun ad n c e => by cases e; simp [Act.eval, Value.ownBlock])) HQ2.out (by first | exact (Below.refl _ _).drew | exact ((Below.refl _ _).alloc (Nat.le_refl _) _).drew | exact (((Below.refl _ _).alloc (Nat.le_refl _) _).alloc (by rw [World.size_alloc]; omega) _).drew | exact B3 | exact B2 | exact B1 | exact B1.alloc B1.size _) ?_; intro v2 w2 O2 B2 G2) | (refine step_app (W := x.w) (by rfl) (.tmp 71) (.tmp 74) (by rfl) ([] ++ (sortS (l.take k)).take a ++ [s]) ((sortS (l.take k)).drop a) (by exact O2) (by exact HB.out.below B2) HQ3.out (by exact B2) ?_; intro v3 w3 O3 B3 G3; obtain ⟨g', cap', rfl, hI'⟩ := HRD.out v3 w3 O3 B3)))
      all_goals
       have HI' := hideP hI'
       clear hI' O1 O2 O3 B1 B2 B3 G1 G2 G3
       go_wp2_with fail
       exact ⟨⟨k + 1, g', cap', by omega, by go_num, rfl, HI'.out⟩, by simp [intOf]; omega⟩
  · have HF : Hid (SNew w wr (.slice (some ⟨g, 0, none⟩) k cap) (sortS l)) := by
     have hkl : k = l.length := by omega
     have hr := HI.out.row
     rw [hkl, List.take_length] at hr
     exact ⟨g, cap, by rw [sortS_len, hkl], HI.out.lo, hr⟩
    have HB := hideP HI.out.below
    go_wp2
    go_ret
    exact ⟨_, rfl, HF.out, HB.out⟩
end Go.Proofs.YtpclaceefapppaaGreatDoor.ctr
