/- Contracts of the program's checkTiles and Tiles. Contracts of the code's segsOk, patchesOk, patchOk, ruleOk. -/
import Derived.Test.YtilpencbbdpgfaaGreatDoorJnQao
import Derived.Test.YtilpencbbdpgfaaGreatDoorJnQal
namespace Go.Proofs.YtilpencbbdpgfaaGreatDoor.ctr
open Go.RowKit
theorem ins_mem {l : List Seg} {s x : Seg} (h : x ∈ insS l s) : x ∈ l ∨ x = s := by
  unfold insS at h
  rcases List.mem_append.1 h with h | h
  · exact .inl (List.mem_of_mem_take h)
  · rcases List.mem_cons.1 h with h | h
    · exact .inr h
    · exact .inl (List.mem_of_mem_drop h)
theorem fold_mem : ∀ (l a : List Seg) {x : Seg}, x ∈ l.foldl insS a → x ∈ a ∨ x ∈ l
  | [], _, _, h => .inl h
  | s :: l, a, x, h => by
    rcases fold_mem l (insS a s) h with h | h
    · rcases ins_mem h with h | h
      · exact .inl h
      · exact .inr (h ▸ List.mem_cons_self)
    · exact .inr (List.mem_cons_of_mem _ h)
theorem full_mem {l : List Seg} {x : Seg} (h : x ∈ fullS l) : x ∈ l := by
  rcases fold_mem l [] (List.mem_filter.1 h).1 with h | h
  · simp at h
  · exact h
def errOf (c d : Int) : Value := if c = 0 then .nilIface else .iface 243 (.agg #[.int .i64 c, .int .i64 d])
theorem tilesZ_eq (f t : Int) (l : List Seg) : tilesZ f t l = if sharedB (fullS l) = true then 1 else if bareB f t (fullS l) = true then 2 else 0 := by
  unfold tilesZ tileC
  rw [bareB_same]
set_option maxRecDepth 100000 in
set_option maxHeartbeats 2000000 in
theorem implCheckT (f t : Int) (v : Value) (l : List Seg) (w : World) (h : IRow segK w v l) (hl : l.length ≤ 1048576) (ht : t ≤ 9223372036854775807) (hw : ∀ s ∈ l, -9223372036854775808 ≤ s.to) : Calls Tryz.prog 245 #[.int .i64 f, .int .i64 t, v] w fun e w' => ∃ d : Int, e = .returned (errOf (tilesZ f t l) d) ∧ Below w.heap.size w w' := by
  have KS := hideP (implSorted v l w h hl)
  have hfl := full_len l
  have hw' : ∀ s ∈ fullS l, -9223372036854775808 ≤ s.to := fun s hs => hw s (full_mem hs)
  have HF : Hid ((sortS l).filter hasDayB = fullS l) := rfl
  obtain ⟨Z, hZ⟩ : ∃ Z : Int, Z = tilesZ f t l := ⟨_, rfl⟩
  have HZ0 := hideP hZ
  rw [tilesZ_eq] at HZ0
  rw [← hZ]
  clear hZ
  obtain ⟨ad, ca, rfl, _⟩ := h
  have HZ := HZ0
  clear HZ0
  go_enter Tryz.func245, Tryz.ntmps245
  go_wp2_with fail
  refine KS.out.mono ?_
  rintro e w1 ⟨o, rfl, ⟨g, c, rfl, hg, hP⟩, hB⟩
  have KD := hideP (deleteDel g c (sortS l) w1 hP)
  have HB := hideP hB
  have Hg := hideP hg
  clear hP hB hg
  go_wp2_with fail
  refine KD.out.mono ?_
  rintro e w2 ⟨o, rfl, rfl, hP2, hG2⟩
  rw [HF.out] at hP2
  rw [HF.out]
  have HB2 : Hid (Below w.heap.size w w2) := HB.out.trans (below_grown2 hG2 HB.out.size (fun k e => by cases e; exact Hg.out))
  have KSh := hideP (implShared _ _ w2 hP2.row (by omega))
  have KBa : Hid (∀ W, Below w2.heap.size w2 W → Calls Tryz.prog 299 #[.int .i64 f, .int .i64 t, .slice (some ⟨g, 0, none⟩) (fullS l).length c] W fun e w' => ∃ d : Int, e = .returned (.tuple #[.int .i64 d, .bool (bareB f t (fullS l))]) ∧ Below W.heap.size W w') := fun W hb => implBare f t _ _ W (hP2.row.below hb) (by omega) ht hw'
  clear hP2 hG2 hw hw' HF
  generalize sharedB (fullS l) = sb at *
  generalize bareB f t (fullS l) = bb at *
  go_wp2_with fail
  refine KSh.out.mono ?_
  rintro e w3 ⟨d, rfl, hb⟩
  have HB3 : Hid (Below w.heap.size w w3) := HB2.out.trans (hb.mono HB2.out.size)
  have HB23 := hideP hb
  clear hb
  cases sb
  case true =>
    have HQ : Hid (Z = 1) := HZ.out
    clear HZ
    go_wp2_with fail
    go_ret
    exact ⟨d, (by rw [HQ.out]; rfl), HB3.out⟩
  go_wp2_with fail
  refine (KBa.out w3 HB23.out).mono ?_
  rintro e w4 ⟨d', rfl, hb⟩
  have HB4 : Hid (Below w.heap.size w w4) := HB3.out.trans (hb.mono HB3.out.size)
  clear hb
  cases bb
  · have HQ : Hid (Z = 0) := HZ.out
    clear HZ
    go_wp2_with fail
    go_ret
    exact ⟨0, (by rw [HQ.out]; rfl), HB4.out⟩
  · have HQ : Hid (Z = 2) := HZ.out
    clear HZ
    go_wp2_with fail
    go_ret
    exact ⟨d', (by rw [HQ.out]; rfl), HB4.out⟩
def ErrT (w : World) : Prop := w.cell? ⟨3, 0, none⟩ = some (.iface 300 (.agg #[.pointer (some ⟨10, 192, none⟩)]))
theorem ErrT.below {w w' : World} (h : ErrT w) (hb : Below w.heap.size w w') : ErrT w' := Later.at h ⟨w', hb⟩
theorem tilesZ_cases (f t : Int) (l : List Seg) : tilesZ f t l = 0 ∨ tilesZ f t l = 1 ∨ tilesZ f t l = 2 := by
  unfold tilesZ tileC
  split
  · exact .inr (.inl rfl)
  · split
    · exact .inr (.inr rfl)
    · exact .inl rfl
set_option maxRecDepth 100000 in
set_option maxHeartbeats 2000000 in
theorem implTiles (f t : Int) (v : Value) (l : List Seg) (w : World) (h : IRow segK w v l) (hl : l.length ≤ 1048576) (ht : t ≤ 9223372036854775807) (hw : ∀ s ∈ l, -9223372036854775808 ≤ s.to) (hE : ErrT w) : Calls Tryz.prog 186 #[.int .i64 f, .int .i64 t, v] w fun e w' => e = .returned (.int .i64 (tilesZ f t l)) ∧ Below w.heap.size w w' := by
  obtain ⟨W0, hW0⟩ : ∃ W0, W0 = w.alloc (.cells #[.int .i64 0, .int .i64 0] 243) := ⟨_, rfl⟩
  have hb0 : Below w.heap.size w W0 := by rw [hW0]; exact (Below.refl _ _).alloc (Nat.le_refl _) _
  have hK0 : Blk W0 w.heap.size #[.int .i64 0, .int .i64 0] 243 := by rw [hW0]; exact Blk.new _ _ _
  have KC := hideP (implCheckT f t v l W0 (h.below hb0) hl ht hw)
  have hz := tilesZ_cases f t l
  have HE := hideP (hE.below hb0)
  have HB0 := hideP hb0
  have HK0 := hideP hK0
  have HW0 := hideP hW0
  obtain ⟨ad, ca, rfl, _⟩ := h
  generalize tilesZ f t l = z at *
  clear hb0 hK0 hW0 hE hw
  go_enter Tryz.func186, Tryz.ntmps186
  go_wp2_with fail
  rw [← HW0.out]
  refine KC.out.mono ?_
  rintro e w1 ⟨d, rfl, hb⟩
  have HB1 : Hid (Below w.heap.size w w1) := HB0.out.trans (hb.mono HB0.out.size)
  have HE1 := hideP (HE.out.below hb)
  have HK1 := hideP (HK0.out.below hb HK0.out.lt)
  clear hb
  by_cases h0 : z = 0
  · subst h0
    have KN := hideP (as_nil (.iface 246 (.pointer (some ⟨w.heap.size, 0, none⟩))) w1)
    rw [errOf, if_pos rfl]
    go_wp2_with fail
    refine KN.out.mono ?_
    rintro e w2 ⟨rfl, rfl⟩
    go_wp2_with fail
    go_ret
    exact ⟨rfl, HB1.out⟩
  · rw [errOf, if_neg h0]
    have KN := hideP (as_hit z d w.heap.size _ _ w1 HE1.out HK1.out)
    go_wp2_with fail
    refine KN.out.mono ?_
    rintro e w2 ⟨rfl, hw2⟩
    have HB2 : Hid (Below w.heap.size w w2) := by
      unfold Hid
      rw [hw2]
      have s1 := HB1.out.size
      exact below_store (below_store ((((HB1.out.alloc s1 _).alloc (by rw [World.size_alloc]; omega) _).alloc (by rw [World.size_alloc, World.size_alloc]; omega) _).alloc (by rw [World.size_alloc, World.size_alloc, World.size_alloc]; omega) _) _ (Nat.le_refl _)) _ (Nat.le_refl _)
    have c0 : w2.cell? ⟨w.heap.size, 0, none⟩ = some (.int .i64 z) := by
      rw [hw2]
      exact ((((((HK1.out.alloc _).alloc _).alloc _).alloc _).set 0 _).set 1 _).cell 0 rfl
    clear hw2
    go_wp2_with fail
    go_ret
    exact ⟨rfl, HB2.out⟩
end Go.Proofs.YtilpencbbdpgfaaGreatDoor.ctr
namespace Go.Proofs.YtilpencbbdpgfaaGreatDoor.ctr
open Go.RowKit
set_option maxHeartbeats 1000000 in
theorem implPatchOk (s : Pat) (w : World) : Calls Tryz.prog 187 #[.agg #[.int .i64 s.day, .int .i64 s.mon, .int .i64 s.dom]] w fun e w' => e = .returned (.bool (patB s)) ∧ Below w.heap.size w w' := by
  unfold patB
  by_cases h1 : 1 ≤ s.mon
  case neg =>
    rw [inB_false (.inl (by omega)), Bool.false_and]
    have hd : decide (1 ≤ s.mon) = false := decide_eq_false h1
    go_enter Tryz.func187, Tryz.ntmps187
    go_wp2
    go_ret
    exact ⟨rfl, (Below.refl _ _).alloc (Nat.le_refl _) _⟩
  by_cases h2 : s.mon ≤ 12
  case neg =>
    rw [inB_false (.inr (by omega)), Bool.false_and]
    have hd : decide (s.mon ≤ 12) = false := decide_eq_false h2
    go_enter Tryz.func187, Tryz.ntmps187
    go_wp2
    go_ret
    exact ⟨rfl, (Below.refl _ _).alloc (Nat.le_refl _) _⟩
  rw [inB_true h1 h2, Bool.true_and]
  by_cases h3 : 1 ≤ s.dom
  case neg =>
    rw [inB_false (.inl (by omega))]
    have hd : decide (1 ≤ s.dom) = false := decide_eq_false h3
    go_enter Tryz.func187, Tryz.ntmps187
    go_wp2
    go_ret
    exact ⟨rfl, (Below.refl _ _).alloc (Nat.le_refl _) _⟩
  by_cases h4 : s.dom ≤ 31
  case neg =>
    rw [inB_false (.inr (by omega))]
    have hd : decide (s.dom ≤ 31) = false := decide_eq_false h4
    go_enter Tryz.func187, Tryz.ntmps187
    go_wp2
    go_ret
    exact ⟨rfl, (Below.refl _ _).alloc (Nat.le_refl _) _⟩
  rw [inB_true h3 h4]
  go_enter Tryz.func187, Tryz.ntmps187
  go_wp2
  go_ret
  exact ⟨rfl, (Below.refl _ _).alloc (Nat.le_refl _) _⟩
theorem implRuleOk (z : Int) (w : World) : Calls Tryz.prog 127 #[.int .i64 z] w fun e w' => e = .returned (.bool (ruleB z)) ∧ w' = w := by
  unfold ruleB
  by_cases h0 : z = 0
  · subst h0
    go_enter Tryz.func127, Tryz.ntmps127
    go_wp2
    go_ret
    exact ⟨rfl, rfl⟩
  by_cases h1 : z = 1
  · subst h1
    go_enter Tryz.func127, Tryz.ntmps127
    go_wp2
    go_ret
    exact ⟨rfl, rfl⟩
  rw [decide_eq_false h0, decide_eq_false h1]
  have hd : (z == 0) = false := by simp [h0]
  have hd' : (z == 1) = false := by simp [h1]
  go_enter Tryz.func127, Tryz.ntmps127
  go_wp2
  go_ret
  exact ⟨rfl, rfl⟩
set_option maxRecDepth 100000 in
set_option maxHeartbeats 2000000 in
theorem implSegsOk (v : Value) (r : Rgm) (w : World) (h : GRow w v r) (ht : r.to ≤ 9223372036854775807) (hE : ErrT w) : Calls Tryz.prog 124 #[v] w fun e w' => e = .returned (.bool (segsB r.fr r.to r.segs)) ∧ Below w.heap.size w w' := by
  obtain ⟨nm, f, t, l, ps, rs, ru⟩ := r
  obtain ⟨v1, v2, v3, rfl, _, x1, x2, x3⟩ := h
  dsimp only at x1 x2 x3
  obtain ⟨W0, hW0, d0, d1, d2, d3, d4, d5, d6, hBl⟩ := seven_box w (.string nm) (.int .i64 f) (.int .i64 t) v1 v2 v3 (.int .i64 ru) 36
  have hrow := x1.below (hBl ⟨W0, Below.refl _ _⟩)
  have KT : Hid (∀ y : Later W0, l.length ≤ 1048576 → (∀ s ∈ l, -9223372036854775808 ≤ s.to) → Calls Tryz.prog 186 #[.int .i64 f, .int .i64 t, v1] y.w fun e w' => e = .returned (.int .i64 (tilesZ f t l)) ∧ Below y.w.heap.size y.w w') := fun y h1 h2 => implTiles f t v1 l y.w (hrow.below y.below) h1 ht h2 (hE.below (hBl y))
  obtain ⟨a1, c1, rfl, _⟩ := x1
  obtain ⟨a2, c2, rfl, _⟩ := x2
  obtain ⟨a3, c3, rfl, _⟩ := x3
  obtain ⟨a, c, ev, hl, hm, H⟩ := hrow
  cases ev
  have HK := hideP H
  have HW0 := hideP hW0
  have HBl := hideP hBl
  unfold maxLen at hm
  dsimp only
  clear H hW0 hBl
  clear ht hE
  by_cases n1 : l.length < 1
  · have HR := hideP (segs_short (f := f) (t := t) (inB_false (x := (l.length : Int)) (a := 1) (b := 20) (.inl (by omega))))
    have q1 : (l.length : Int) < 1 := by omega
    go_enter Tryz.func124, Tryz.ntmps124
    go_wp2
    rw [← HW0.out]
    go_ret
    exact ⟨ret_bool HR.out.symm, HBl.out ⟨W0, Below.refl _ _⟩⟩
  have q1 : decide ((l.length : Int) < 1) = false := decide_eq_false (by omega)
  by_cases n2 : 20 < l.length
  · have HR := hideP (segs_short (f := f) (t := t) (inB_false (x := (l.length : Int)) (a := 1) (b := 20) (.inr (by omega))))
    have q2 : (20 : Int) < (l.length : Int) := by omega
    go_enter Tryz.func124, Tryz.ntmps124
    go_wp2
    rw [← HW0.out]
    go_ret
    exact ⟨ret_bool HR.out.symm, HBl.out ⟨W0, Below.refl _ _⟩⟩
  have q2 : decide ((20 : Int) < (l.length : Int)) = false := decide_eq_false (by omega)
  have HI : Hid (inB l.length 1 20 = true) := inB_true (by omega) (by omega)
  have hst : Hid (Below W0.heap.size W0 W0) := Below.refl _ _
  go_enter Tryz.func124, Tryz.ntmps124
  go_wp2
  rw [← HW0.out]
  go_loopw [18] (fun i wr => ∃ k : Nat, k ≤ l.length ∧ i = .int .i64 (k : Int) ∧ Hid (allTo (segFit f t l) k = true) ∧ ∃ y : Later W0, wr = y.w) (fun i _ => l.length - (intOf i).toNat)
  case atStart => exact ⟨0, Nat.zero_le _, rfl, rfl, ⟨W0, hst.out⟩, rfl⟩
  case round =>
    obtain ⟨k, hk, rfl, HF, y, rfl⟩ := hrel
    by_cases hlt : k < l.length
    · obtain ⟨g, rfl, hg, x⟩ := HK.out k hlt
      obtain ⟨e0, e1, e2, e3, e4⟩ := (x.below y.below hg).seg
      obtain ⟨W1, hW1, c10, c11, c12, c13, c14, hBl1⟩ := seg_box y.w (atK segK l k).fr (atK segK l k).to (atK segK l k).cal (atK segK l k).sty (atK segK l k).off 95
      have hY : ∀ z : Later W1, Below W0.heap.size W0 z.w := fun z => y.on (hBl1 z)
      have D1 : ∀ z : Later W1, z.w.cell? ⟨w.heap.size, 1, none⟩ = some (.int .i64 f) := fun z => d1 ⟨z.w, hY z⟩
      have D2 : ∀ z : Later W1, z.w.cell? ⟨w.heap.size, 2, none⟩ = some (.int .i64 t) := fun z => d2 ⟨z.w, hY z⟩
      have D3 : ∀ z : Later W1, z.w.cell? ⟨w.heap.size, 3, none⟩ = some (.slice (some ⟨g, 0, none⟩) l.length c1) := fun z => d3 ⟨z.w, hY z⟩
      have HP : Hid (∀ j, k = j + 1 → ∀ z : Later W1, z.w.cell? ⟨g, j * 5, none⟩ = some (.int .i64 (atK segK l j).fr)) := fun j e z => by
        obtain ⟨g', e', hg', x'⟩ := HK.out j (by omega)
        cases e'
        exact ((x'.below (hY z) hg').seg).1
      have F1 := hideP (fun h => segs_bad (f := f) (t := t) (k := k) (fit_no1 h) hlt)
      have F2 := hideP (fun h => segs_bad (f := f) (t := t) (k := k) (fit_no2 h) hlt)
      have F3 := hideP (fun h => segs_bad (f := f) (t := t) (k := k) (fit_no3 h) hlt)
      have F4 := hideP (fun (j : Nat) (e : k = j + 1) h => segs_bad (f := f) (t := t) (k := k) (fit_no4 e h) hlt)
      have F5 := hideP (fun h1 h2 h3 h4 => allTo_next HF.out (fit_yes (f := f) (t := t) (k := k) h1 h2 h3 h4))
      have HW1 := hideP hW1
      have HY := hideP hY
      clear x hW1 hBl1 hY
      generalize atK segK l k = s at *
      have KO : Hid (∀ W, Calls Tryz.prog 185 #[.agg #[.int .i64 s.fr, .int .i64 s.to, .int .i64 s.cal, .int .i64 s.sty, .int .i64 s.off]] W fun e w' => e = .returned (.bool (segOkB s)) ∧ Below W.heap.size W w') := fun W => implSegOk s W
      generalize segOkB s = b1 at *
      go_wp2_with fail
      rw [← HW1.out]
      refine (KO.out _).mono ?_
      rintro e w2 ⟨rfl, hb⟩
      obtain ⟨z, rfl⟩ := Later.of hb
      clear hb e0 e1 e2 e3 e4
      cases b1
      · have HR := hideP (F1.out rfl)
        go_wp2
        go_ret
        exact ⟨ret_bool HR.out.symm, HBl.out ⟨z.w, HY.out z⟩⟩
      by_cases h2 : f ≤ s.fr
      case neg =>
        have HR := hideP (F2.out (by omega))
        have q3 : s.fr < f := by omega
        go_wp2
        go_ret
        exact ⟨ret_bool HR.out.symm, HBl.out ⟨z.w, HY.out z⟩⟩
      have q3 : decide (s.fr < f) = false := decide_eq_false (by omega)
      by_cases h3 : s.to ≤ t
      case neg =>
        have HR := hideP (F3.out (by omega))
        have q4 : t < s.to := by omega
        go_wp2
        go_ret
        exact ⟨ret_bool HR.out.symm, HBl.out ⟨z.w, HY.out z⟩⟩
      have q4 : decide (t < s.to) = false := decide_eq_false (by omega)
      obtain rfl | ⟨j, rfl⟩ : k = 0 ∨ ∃ j, k = j + 1 := by cases k with | zero => exact .inl rfl | succ j => exact .inr ⟨j, rfl⟩
      · have HN := hideP (F5.out rfl h2 h3 (fun j e => by omega))
        go_wp2_with fail
        refine wp_region_later (W := W1) z.below (by kernel_rfl) (by kernel_rfl) ?_
        repeat (go_big_quiet_step (fail))
        refine wpQuiet_nil ?_
        intro _ hw'
        obtain ⟨u, rfl⟩ := hw'
        go_wp2
        exact ⟨⟨0 + 1, by omega, by go_num, HN.out, ⟨u.w, HY.out u⟩, rfl⟩, by simp [intOf]; omega⟩
      · have e5 := HP.out j rfl
        have G4 := hideP (F4.out j rfl)
        have G5 := hideP (fun (h4 : (atK segK l j).fr < s.fr) => F5.out rfl h2 h3 (fun i e => (show i = j from by omega) ▸ h4))
        have hj0 : decide ((0 : Int) < (j : Int) + 1) = true := decide_eq_true (by omega)
        clear HP F1 F2 F3 F4 F5
        generalize (atK segK l j).fr = P at *
        by_cases h4 : P < s.fr
        case neg =>
          have HR := hideP (G4.out (by omega))
          have q5 : decide (s.fr ≤ P) = true := decide_eq_true (by omega)
          go_wp2_with fail
          refine wp_region_later (W := W1) z.below (by kernel_rfl) (by kernel_rfl) ?_
          repeat (go_big_quiet_step (fail))
          refine wpQuiet_nil ?_
          intro _ hw'
          obtain ⟨u, rfl⟩ := hw'
          go_wp2
          go_ret
          exact ⟨ret_bool HR.out.symm, HBl.out ⟨u.w, HY.out u⟩⟩
        have HN := hideP (G5.out h4)
        have q5 : decide (s.fr ≤ P) = false := decide_eq_false (by omega)
        go_wp2_with fail
        refine wp_region_later (W := W1) z.below (by kernel_rfl) (by kernel_rfl) ?_
        repeat (go_big_quiet_step (fail))
        refine wpQuiet_nil ?_
        intro _ hw'
        obtain ⟨u, rfl⟩ := hw'
        go_wp2
        exact ⟨⟨j + 1 + 1, by omega, by go_num, HN.out, ⟨u.w, HY.out u⟩, rfl⟩, by simp [intOf]; omega⟩
    · have hkn : k = l.length := by omega
      have HA : Hid (allTo (segFit f t l) l.length = true) := by rw [← hkn]; exact HF
      have HR := hideP (segs_end HI.out HA.out)
      have KC := hideP (KT.out y (by omega) (segs_days HA.out))
      clear KT HF
      subst hkn
      generalize tilesZ f t l = Z at *
      go_wp2_with fail
      refine KC.out.mono ?_
      rintro e w2 ⟨rfl, hb⟩
      have HB2 : Hid (Below w.heap.size w w2) := HBl.out ⟨w2, y.on hb⟩
      clear hb
      by_cases hz : Z = 0
      · subst hz
        go_wp2
        go_ret
        exact ⟨ret_bool (by rw [HR.out]; rfl), HB2.out⟩
      · have hz' : (Z == 0) = false := by simp [hz]
        have HR2 : Hid (segsB f t l = false) := by unfold Hid; rw [HR.out]; exact decide_eq_false hz
        go_wp2
        go_ret
        exact ⟨ret_bool HR2.out.symm, HB2.out⟩
set_option maxRecDepth 100000 in
set_option maxHeartbeats 2000000 in
theorem implPatchesOk (v : Value) (r : Rgm) (w : World) (h : GRow w v r) : Calls Tryz.prog 125 #[v] w fun e w' => e = .returned (.bool (patsB r.fr r.to r.pats)) ∧ Below w.heap.size w w' := by
  obtain ⟨nm, f, t, ss, l, rs, ru⟩ := r
  obtain ⟨v1, v2, v3, rfl, _, x1, x2, x3⟩ := h
  dsimp only at x1 x2 x3
  obtain ⟨W0, hW0, d0, d1, d2, d3, d4, d5, d6, hBl⟩ := seven_box w (.string nm) (.int .i64 f) (.int .i64 t) v1 v2 v3 (.int .i64 ru) 36
  have hrow := x2.below (hBl ⟨W0, Below.refl _ _⟩)
  obtain ⟨a1, c1, rfl, _⟩ := x1
  obtain ⟨a2, c2, rfl, _⟩ := x2
  obtain ⟨a3, c3, rfl, _⟩ := x3
  obtain ⟨a, c, ev, hl, hm, H⟩ := hrow
  cases ev
  have HK := hideP H
  have HW0 := hideP hW0
  have HBl := hideP hBl
  unfold maxLen at hm
  dsimp only
  clear H hW0 hBl
  by_cases n2 : 8 < l.length
  · have HR : Hid (patsB f t l = false) := by unfold Hid patsB; rw [decide_eq_false (by omega), Bool.false_and]
    have q2 : (8 : Int) < (l.length : Int) := by omega
    go_enter Tryz.func125, Tryz.ntmps125
    go_wp2
    rw [← HW0.out]
    go_ret
    exact ⟨ret_bool HR.out.symm, HBl.out ⟨W0, Below.refl _ _⟩⟩
  have q2 : decide ((8 : Int) < (l.length : Int)) = false := decide_eq_false (by omega)
  have HI : Hid (decide ((l.length : Int) ≤ 8) = true) := decide_eq_true (by omega)
  have hst : Hid (Below W0.heap.size W0 W0) := Below.refl _ _
  go_enter Tryz.func125, Tryz.ntmps125
  go_wp2
  rw [← HW0.out]
  go_loopw [12] (fun i wr => ∃ k : Nat, k ≤ l.length ∧ i = .int .i64 (k : Int) ∧ Hid (allTo (patFit f t l) k = true) ∧ ∃ y : Later W0, wr = y.w) (fun i _ => l.length - (intOf i).toNat)
  case atStart => exact ⟨0, Nat.zero_le _, rfl, rfl, ⟨W0, hst.out⟩, rfl⟩
  case round =>
    obtain ⟨k, hk, rfl, HF, y, rfl⟩ := hrel
    by_cases hlt : k < l.length
    · obtain ⟨g, rfl, hg, x⟩ := HK.out k hlt
      obtain ⟨e0, e1, e2⟩ := (x.below y.below hg).pat
      obtain ⟨W1, hW1, c10, c11, c12, hBl1⟩ := pat_box y.w (atK patK l k).day (atK patK l k).mon (atK patK l k).dom 99
      have hY : ∀ z : Later W1, Below W0.heap.size W0 z.w := fun z => y.on (hBl1 z)
      have D1 : ∀ z : Later W1, z.w.cell? ⟨w.heap.size, 1, none⟩ = some (.int .i64 f) := fun z => d1 ⟨z.w, hY z⟩
      have D2 : ∀ z : Later W1, z.w.cell? ⟨w.heap.size, 2, none⟩ = some (.int .i64 t) := fun z => d2 ⟨z.w, hY z⟩
      have D3 : ∀ z : Later W1, z.w.cell? ⟨w.heap.size, 4, none⟩ = some (.slice (some ⟨g, 0, none⟩) l.length c2) := fun z => d4 ⟨z.w, hY z⟩
      have HP : Hid (∀ j, k = j + 1 → ∀ z : Later W1, z.w.cell? ⟨g, j * 3, none⟩ = some (.int .i64 (atK patK l j).day)) := fun j e z => by
        obtain ⟨g', e', hg', x'⟩ := HK.out j (by omega)
        cases e'
        exact ((x'.below (hY z) hg').pat).1
      have F1 := hideP (fun h => pats_bad (f := f) (t := t) (k := k) (pfit_no1 h) hlt)
      have F2 := hideP (fun h => pats_bad (f := f) (t := t) (k := k) (pfit_no2 h) hlt)
      have F4 := hideP (fun (j : Nat) (e : k = j + 1) h => pats_bad (f := f) (t := t) (k := k) (pfit_no4 e h) hlt)
      have F5 := hideP (fun h1 h2 h4 => allTo_next HF.out (pfit_yes (f := f) (t := t) (k := k) h1 h2 h4))
      have HW1 := hideP hW1
      have HY := hideP hY
      clear x hW1 hBl1 hY
      generalize atK patK l k = s at *
      have KO : Hid (∀ W, Calls Tryz.prog 187 #[.agg #[.int .i64 s.day, .int .i64 s.mon, .int .i64 s.dom]] W fun e w' => e = .returned (.bool (patB s)) ∧ Below W.heap.size W w') := fun W => implPatchOk s W
      generalize patB s = b1 at *
      go_wp2_with fail
      rw [← HW1.out]
      refine (KO.out _).mono ?_
      rintro e w2 ⟨rfl, hb⟩
      obtain ⟨z, rfl⟩ := Later.of hb
      clear hb e0 e1 e2
      cases b1
      · have HR := hideP (F1.out rfl)
        go_wp2
        go_ret
        exact ⟨ret_bool HR.out.symm, HBl.out ⟨z.w, HY.out z⟩⟩
      by_cases h2 : f ≤ s.day
      case neg =>
        have HR := hideP (F2.out (inB_false (.inl (by omega))))
        have q3 : s.day < f := by omega
        go_wp2
        go_ret
        exact ⟨ret_bool HR.out.symm, HBl.out ⟨z.w, HY.out z⟩⟩
      have q3 : decide (s.day < f) = false := decide_eq_false (by omega)
      by_cases h3 : s.day ≤ t
      case neg =>
        have HR := hideP (F2.out (inB_false (.inr (by omega))))
        have q4 : t < s.day := by omega
        go_wp2
        go_ret
        exact ⟨ret_bool HR.out.symm, HBl.out ⟨z.w, HY.out z⟩⟩
      have q4 : decide (t < s.day) = false := decide_eq_false (by omega)
      obtain rfl | ⟨j, rfl⟩ : k = 0 ∨ ∃ j, k = j + 1 := by cases k with | zero => exact .inl rfl | succ j => exact .inr ⟨j, rfl⟩
      · have HN := hideP (F5.out rfl (inB_true h2 h3) (fun j e => by omega))
        go_wp2_with fail
        refine wp_region_later (W := W1) z.below (by kernel_rfl) (by kernel_rfl) ?_
        repeat (go_big_quiet_step (fail))
        refine wpQuiet_nil ?_
        intro _ hw'
        obtain ⟨u, rfl⟩ := hw'
        go_wp2
        exact ⟨⟨0 + 1, by omega, by go_num, HN.out, ⟨u.w, HY.out u⟩, rfl⟩, by simp [intOf]; omega⟩
      · have e5 := HP.out j rfl
        have G4 := hideP (F4.out j rfl)
        have G5 := hideP (fun (h4 : (atK patK l j).day < s.day) => F5.out rfl (inB_true h2 h3) (fun i e => (show i = j from by omega) ▸ h4))
        have hj0 : decide ((0 : Int) < (j : Int) + 1) = true := decide_eq_true (by omega)
        clear HP F1 F2 F4 F5
        generalize (atK patK l j).day = P at *
        by_cases h4 : P < s.day
        case neg =>
          have HR := hideP (G4.out (by omega))
          have q5 : decide (s.day ≤ P) = true := decide_eq_true (by omega)
          go_wp2_with fail
          refine wp_region_later (W := W1) z.below (by kernel_rfl) (by kernel_rfl) ?_
          repeat (go_big_quiet_step (fail))
          refine wpQuiet_nil ?_
          intro _ hw'
          obtain ⟨u, rfl⟩ := hw'
          go_wp2
          go_ret
          exact ⟨ret_bool HR.out.symm, HBl.out ⟨u.w, HY.out u⟩⟩
        have HN := hideP (G5.out h4)
        have q5 : decide (s.day ≤ P) = false := decide_eq_false (by omega)
        go_wp2_with fail
        refine wp_region_later (W := W1) z.below (by kernel_rfl) (by kernel_rfl) ?_
        repeat (go_big_quiet_step (fail))
        refine wpQuiet_nil ?_
        intro _ hw'
        obtain ⟨u, rfl⟩ := hw'
        go_wp2
        exact ⟨⟨j + 1 + 1, by omega, by go_num, HN.out, ⟨u.w, HY.out u⟩, rfl⟩, by simp [intOf]; omega⟩
    · have hkn : k = l.length := by omega
      have HA : Hid (allTo (patFit f t l) l.length = true) := by rw [← hkn]; exact HF
      have HR : Hid (patsB f t l = true) := (pats_end HA.out).trans HI.out
      clear HF
      subst hkn
      go_wp2
      go_ret
      exact ⟨ret_bool HR.out.symm, HBl.out y⟩
end Go.Proofs.YtilpencbbdpgfaaGreatDoor.ctr
