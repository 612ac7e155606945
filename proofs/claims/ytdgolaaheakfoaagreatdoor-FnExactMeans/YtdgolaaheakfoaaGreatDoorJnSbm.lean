/- Contracts of the program's Feasts and what it calls: it answers the twenty feasts' cells, in a row of its own; nothing that was there turns. Contract of the program's Feasts: it answers the twenty feasts' cells, in a row of its own; nothing that was there turns. Contracts of both FindFeast: the first feast's number that has the name, -1 for none. -/
import Derived.Test.YtdgolaaheakfoaaGreatDoorJnSbl
import Derived.Lib.AppendZerosOnto
import Derived.Lib.SliceRun
namespace Go.Proofs.YtdgolaaheakfoaaGreatDoor.ctr
open Go.RowKit
theorem info_fea : (Tryz.prog.info? 159).map (fun i => (i.zero, i.size, i.bytes)) = some (some (.agg #[.string ⟨#[]⟩, .bool false, .int .i64 0, .int .i64 0, .int .i64 0]), 5, 48) := by kernel_rfl
theorem make10 (w : World) : (Instr.makeSlice 160 (.int .i64 0) (.int .i64 10)).run Tryz.prog w = .ok (.slice (some ⟨w.heap.size, 0, none⟩) 0 10) (w.alloc (.cells #[.string ⟨#[]⟩, .bool false, .int .i64 0, .int .i64 0, .int .i64 0, .string ⟨#[]⟩, .bool false, .int .i64 0, .int .i64 0, .int .i64 0, .string ⟨#[]⟩, .bool false, .int .i64 0, .int .i64 0, .int .i64 0, .string ⟨#[]⟩, .bool false, .int .i64 0, .int .i64 0, .int .i64 0, .string ⟨#[]⟩, .bool false, .int .i64 0, .int .i64 0, .int .i64 0, .string ⟨#[]⟩, .bool false, .int .i64 0, .int .i64 0, .int .i64 0, .string ⟨#[]⟩, .bool false, .int .i64 0, .int .i64 0, .int .i64 0, .string ⟨#[]⟩, .bool false, .int .i64 0, .int .i64 0, .int .i64 0, .string ⟨#[]⟩, .bool false, .int .i64 0, .int .i64 0, .int .i64 0, .string ⟨#[]⟩, .bool false, .int .i64 0, .int .i64 0, .int .i64 0] 159)) := by kernel_rfl
theorem fea_take (k : Nat) (hk : k < 20) : feaCells.take ((k + 1) * 5) = feaCells.take (k * 5) ++ (feaAt k).cs := by
  apply List.ext_getElem?
  intro i
  by_cases h1 : i < k * 5
  · rw [List.getElem?_append_left (by rw [List.length_take, feaCells_len]; omega), List.getElem?_take, List.getElem?_take, if_pos (by omega), if_pos h1]
  · rw [List.getElem?_append_right (by rw [List.length_take, feaCells_len]; omega), List.getElem?_take, List.length_take, feaCells_len, Nat.min_eq_left (by omega)]
    by_cases h2 : i < (k + 1) * 5
    · rw [if_pos h2, ← feaCell hk (show i - k * 5 < 5 by omega), show k * 5 + (i - k * 5) = i by omega]
    · rw [if_neg h2, List.getElem?_eq_none (by simp [Fea.cs]; omega)]
theorem own_base5 {w : World} {base e size : Nat} {v : Value} {n : Nat} {xs : List Value} (h : w.ownsRow base e size v n xs) : ∀ k, v.ownBlock = some k → base ≤ k := by
  obtain ⟨_, h | ⟨g, cap, cur, rfl, hb, _⟩⟩ := h
  · obtain ⟨rfl, _⟩ := h
    intro k hk
    cases hk
  · intro k hk
    cases hk
    exact hb
theorem sz_new (W : World) (o : Obj) : (W.alloc o).heap.size = W.heap.size + 1 := by simp [World.alloc, -World.alloc_eq]
theorem cells_new5 (W : World) (cs : List Value) (t : TypeId) {n : Nat} (hn : n = W.heap.size) : ∀ (j : Nat) (u : Value), cs[j]? = some u → (W.alloc (.cells cs.toArray t)).cell? ((⟨n, 0, none⟩ : Addr).add j) = some u := by
  intro j u h
  subst hn
  have ha : (⟨W.heap.size, 0, none⟩ : Addr).add j = ⟨W.heap.size, j, none⟩ := by unfold Addr.add; split <;> simp_all
  rw [ha]
  simp [World.alloc, World.cell?, h, -World.alloc_eq]
theorem cells_add {w : World} {g : Nat} {xs : List Value} (h : ∀ j u, xs[j]? = some u → w.cell? ⟨g, j, none⟩ = some u) : ∀ (j : Nat) (u : Value), xs[j]? = some u → w.cell? ((⟨g, 0, none⟩ : Addr).add j) = some u := by
  intro j u hj
  have ha : (⟨g, 0, none⟩ : Addr).add j = ⟨g, j, none⟩ := by unfold Addr.add; split <;> simp_all
  rw [ha]
  exact h j u hj
theorem fea_one : ∀ u ∈ feaCells, u.oneCell' = true := List.all_eq_true.1 (show feaCells.all Value.oneCell' = true by decide)
theorem cells_row {w : World} {base e : Nat} {v : Value} {n : Nat} {xs : List Value} (h : w.ownsRow base e 5 v n xs) (hn : n ≠ 0) : ∃ g cap, v = .slice (some ⟨g, 0, none⟩) n cap ∧ base ≤ g ∧ g < w.heap.size ∧ ∀ j u, xs[j]? = some u → w.cell? ⟨g, j, none⟩ = some u := by
  have hc := fun g => h.cells (g := g)
  rcases h.2 with ⟨_, h0⟩ | ⟨g, cap, cur, rfl, hb, hh, _⟩
  · exact absurd h0 hn
  · refine ⟨g, cap, rfl, hb, (Array.getElem?_eq_some_iff.1 hh).1, fun j u hj => ?_⟩
    have := hc g rfl j u hj
    have ha : (⟨g, 0, none⟩ : Addr).add j = ⟨g, j, none⟩ := by unfold Addr.add; split <;> simp_all
    rw [ha] at this
    exact this
set_option maxRecDepth 100000 in
set_option maxHeartbeats 2000000 in
theorem implMoving (g cap : Nat) (w : World) (hg : g < w.heap.size) (hc : ∀ k, k < 10 → ∀ j, j < 5 → w.cell? ⟨g, k * 5 + j, none⟩ = (feaAt k).cs[j]?) :
    Calls Tryz.prog 173 #[.slice (some ⟨g, 0, none⟩) 10 cap] w fun e w' => ∃ v, e = .returned v ∧ w'.ownsRow w.heap.size 159 5 v 10 (feaCells.take 50) ∧ Below w.heap.size w w' := by
  obtain ⟨i0, hi, hz0, hz1, hz2⟩ := info_parts info_fea
  have HC := hideP hc
  clear hc
  have hmk := make10
  go_enter Tryz.func173, Tryz.ntmps173
  go_wp2
  clear hmk
  go_loopw [3, 11] (fun o i wr => ∃ k : Nat, k ≤ 10 ∧ i = .int .i64 (k : Int) ∧ wr.ownsRow w.heap.size 159 5 o k (feaCells.take (k * 5)) ∧ Below w.heap.size w wr) (fun _ i _ => 10 - (intOf i).toNat)
  case atStart => exact ⟨0, Nat.zero_le _, rfl, World.ownsRow_made w _ 10 (Nat.le_refl _) (by unfold maxLen; omega) rfl, (Below.refl _ _).alloc (Nat.le_refl _) _⟩
  case round =>
    obtain ⟨k, hk, rfl, hrow, hB⟩ := hrel
    by_cases hlt : k < 10
    · have HT := hideP (fea_take k (by omega))
      have HR := hideP hrow
      have HB := hideP hB
      clear hrow hB
      have c0 := (HB.out.cell (p := ⟨g, k * 5 + 0, none⟩) hg).trans (HC.out k hlt 0 (by omega))
      have c1 := (HB.out.cell (p := ⟨g, k * 5 + 1, none⟩) hg).trans (HC.out k hlt 1 (by omega))
      have c2 := (HB.out.cell (p := ⟨g, k * 5 + 2, none⟩) hg).trans (HC.out k hlt 2 (by omega))
      have c3 := (HB.out.cell (p := ⟨g, k * 5 + 3, none⟩) hg).trans (HC.out k hlt 3 (by omega))
      have c4 := (HB.out.cell (p := ⟨g, k * 5 + 4, none⟩) hg).trans (HC.out k hlt 4 (by omega))
      generalize feaAt k = f at *
      obtain ⟨s, mv, o, m, d⟩ := f
      simp only [Fea.cs, List.getElem?_cons_zero, List.getElem?_cons_succ, Nat.add_zero] at c0 c1 c2 c3 c4
      go_wp2_with (at_builtin; refine wpList_append_own _ rfl _ _ 160 rfl w.heap.size 159 i0 (.agg #[.string ⟨#[]⟩, .bool false, .int .i64 0, .int .i64 0, .int .i64 0]) 5 48 Tryz.underlying160 hi hz0 hz1 hz2 rfl (by decide) _ _ _ rfl ((HR.out.alloc _).alloc _) ⟨wr.heap.size + 1, 0, none⟩ 1 1 [.string s, .bool mv, .int .i64 o, .int .i64 m, .int .i64 d] rfl rfl (cells_new5 _ _ _ (by rw [sz_new])) (by simp [Value.oneCell']) (by unfold maxLen; omega) (by omega) (by have := HB.out.size; rw [sz_new, sz_new]; omega) ?_; intro v' w1 hown' hgrow _)
      have hB1 : Below w.heap.size w w1 := ((HB.out.alloc HB.out.size _).alloc (by have := HB.out.size; rw [sz_new]; omega) _).grown hgrow (by have := HB.out.size; rw [sz_new, sz_new]; omega) (own_base5 HR.out)
      refine ⟨⟨k + 1, by omega, by go_num, ?_, hB1⟩, by simp [intOf]; omega⟩
      rw [HT.out]
      exact hown'
    · have hkn : k = 10 := by omega
      subst hkn
      go_wp2
      go_ret
      exact ⟨_, rfl, hrow, hB⟩
theorem grow0 (w : World) : ∀ ty, (Builtin.append_ #[160, 3] ty #[.slice none 0 0, .int .i64 20]).run Tryz.prog w =
    .ok (.slice (some ⟨w.heap.size, 0, none⟩) 20 (grownCap w 20 0 159)) (w.drew.alloc (.cells (#[] ++ Builtin.zeroCells (Value.cells (.agg #[.string ⟨#[]⟩, .bool false, .int .i64 0, .int .i64 0, .int .i64 0])) 20 ++ Builtin.zeroCells (Value.cells (.agg #[.string ⟨#[]⟩, .bool false, .int .i64 0, .int .i64 0, .int .i64 0])) (grownCap w 20 0 159 - 20)) 159)) := fun ty => by
  obtain ⟨i0, hi, hz0, hz1, hz2⟩ := info_parts info_fea
  have h := Lib.run_append_grow_zeros w 160 3 ty 159 i0 (.agg #[.string ⟨#[]⟩, .bool false, .int .i64 0, .int .i64 0, .int .i64 0]) .i64 .i64 Tryz.underlying160 Tryz.underlying3 hi hz0 none 0 0 [] (by rw [hz1]; exact run_firstCells_none w.drew 5 0 0 0) 20 (by omega) (by omega) (by omega) (by omega) (by rw [hz2]; omega) (growslice_fits (by omega) (by rw [hz2]; omega))
  exact h
set_option maxRecDepth 100000 in
set_option maxHeartbeats 2000000 in
theorem implGrow (w : World) : Calls Tryz.prog 201 #[.slice none 0 0, .int .i64 20] w fun e w' => ∃ v, e = .returned v ∧ w'.ownsRow w.heap.size 159 5 v 0 [] ∧ Below w.heap.size w w' := by
  have hrz := grow0 w
  have hge := grownCap_ge w 20 0 159
  have hle := grownCap_le_maxLen w 20 0 159 (by unfold maxLen; omega)
  generalize grownCap w 20 0 159 = G at *
  have hle' : G ≤ 9223372036854775807 := by unfold maxLen at hle; omega
  have hcs : (#[] ++ Builtin.zeroCells (Value.cells (.agg #[.string ⟨#[]⟩, .bool false, .int .i64 0, .int .i64 0, .int .i64 0])) 20 ++ Builtin.zeroCells (Value.cells (.agg #[.string ⟨#[]⟩, .bool false, .int .i64 0, .int .i64 0, .int .i64 0])) (G - 20)).size = G * 5 := by
    simp only [Array.size_append, size_zeroCells]
    show 0 + 20 * 5 + (G - 20) * 5 = G * 5
    omega
  have HCS := hideP hcs
  clear hcs
  generalize (#[] ++ Builtin.zeroCells (Value.cells (.agg #[.string ⟨#[]⟩, .bool false, .int .i64 0, .int .i64 0, .int .i64 0])) 20 ++ Builtin.zeroCells (Value.cells (.agg #[.string ⟨#[]⟩, .bool false, .int .i64 0, .int .i64 0, .int .i64 0])) (G - 20)) = cur at *
  go_enter Tryz.func201, Tryz.ntmps201
  go_wp2_with (at_builtin; refine Lib.wpList_append_run _ rfl _ _ _ _ rfl _ _ rfl rfl _ _ (hrz _) ?_)
  go_ret
  exact ⟨_, rfl, World.ownsRow_made w.drew cur G (Nat.le_refl _) hle HCS.out, (Below.refl _ _).drew.alloc (Nat.le_refl _) _⟩
set_option maxRecDepth 100000 in
set_option maxHeartbeats 2000000 in
theorem implConcat (p g1 c1 g2 c2 : Nat) (t : TypeId) (w : World) (hp : Blk w p #[.slice (some ⟨g1, 0, none⟩) 10 c1, .slice (some ⟨g2, 0, none⟩) 10 c2] t) (hg1 : g1 < w.heap.size) (hg2 : g2 < w.heap.size)
    (h1 : ∀ j u, (feaCells.take 50)[j]? = some u → w.cell? ⟨g1, j, none⟩ = some u) (h2 : ∀ j u, (feaCells.drop 50)[j]? = some u → w.cell? ⟨g2, j, none⟩ = some u) :
    Calls Tryz.prog 192 #[.slice (some ⟨p, 0, none⟩) 2 2] w fun e w' => ∃ v, e = .returned v ∧ FeaOwn w w' v ∧ Below w.heap.size w w' := by
  obtain ⟨i0, hi, hz0, hz1, hz2⟩ := info_parts info_fea
  have HP := hideP hp
  have H1 := hideP h1
  have H2 := hideP h2
  have c0 := hp.cell 0 rfl
  have c1' := hp.cell 1 rfl
  clear hp h1 h2
  go_enter Tryz.func192, Tryz.ntmps192
  go_wp2
  go_loopw [3, 11] (fun z i wr => ∃ k : Nat, k ≤ 2 ∧ i = .int .i64 (k : Int) ∧ z = .int .i64 (10 * k : Int) ∧ w = wr) (fun _ i _ => 2 - (intOf i).toNat)
  case atStart => exact ⟨0, Nat.zero_le _, rfl, rfl, rfl⟩
  case round =>
    obtain ⟨k, hk, rfl, rfl, rfl⟩ := hrel
    have h3 : k = 0 ∨ k = 1 ∨ k = 2 := by omega
    rcases h3 with rfl | rfl | rfl
    · go_wp2
      exact ⟨⟨1, by omega, by go_num, by go_num, by first | rfl | trivial⟩, by simp [intOf]⟩
    · go_wp2
      exact ⟨⟨2, by omega, by go_num, by go_num, by first | rfl | trivial⟩, by simp [intOf]⟩
    · clear c0 c1'
      go_wp2_with fail
      refine (implGrow _).mono ?_
      rintro e W1 ⟨v0, rfl, hrow, hb⟩
      have HR := hideP hrow
      have HB := hideP hb
      clear hrow hb
      go_wp2_with fail
      go_loopw [6, 27] (fun o i wq => ∃ k : Nat, k ≤ 2 ∧ i = .int .i64 (k : Int) ∧ wq.ownsRow w.heap.size 159 5 o (10 * k) (feaCells.take (50 * k)) ∧ Below w.heap.size w wq) (fun _ i _ => 2 - (intOf i).toNat)
      case atStart => exact ⟨0, Nat.zero_le _, rfl, HR.out, HB.out⟩
      case round =>
        obtain ⟨k, hk, rfl, hrow, hB⟩ := hrel
        have HR2 := hideP hrow
        have HB2 := hideP hB
        clear hrow hB HR
        have e0 := (HP.out.below HB2.out HP.out.lt).cell 0 rfl
        have e1 := (HP.out.below HB2.out HP.out.lt).cell 1 rfl
        have h3 : k = 0 ∨ k = 1 ∨ k = 2 := by omega
        rcases h3 with rfl | rfl | rfl
        · go_wp2_with (at_builtin; refine wpList_append_own _ rfl _ _ 160 rfl w.heap.size 159 i0 (.agg #[.string ⟨#[]⟩, .bool false, .int .i64 0, .int .i64 0, .int .i64 0]) 5 48 Tryz.underlying160 hi hz0 hz1 hz2 rfl (by decide) _ _ _ rfl HR2.out ⟨g1, 0, none⟩ 10 c1 (feaCells.take 50) rfl rfl (cells_add (fun j u hj => (HB2.out.cell (p := ⟨g1, j, none⟩) hg1).trans (H1.out j u hj))) (fun u hu => fea_one u (List.mem_of_mem_take hu)) (by unfold maxLen; omega) (by omega) HB2.out.size ?_; intro v' w1 hown' hgrow _)
          refine ⟨⟨1, by omega, by go_num, hown', HB2.out.grown hgrow HB2.out.size (own_base5 HR2.out)⟩, by simp [intOf]⟩
        · go_wp2_with (at_builtin; refine wpList_append_own _ rfl _ _ 160 rfl w.heap.size 159 i0 (.agg #[.string ⟨#[]⟩, .bool false, .int .i64 0, .int .i64 0, .int .i64 0]) 5 48 Tryz.underlying160 hi hz0 hz1 hz2 rfl (by decide) _ _ _ rfl HR2.out ⟨g2, 0, none⟩ 10 c2 (feaCells.drop 50) rfl rfl (cells_add (fun j u hj => (HB2.out.cell (p := ⟨g2, j, none⟩) hg2).trans (H2.out j u hj))) (fun u hu => fea_one u (List.mem_of_mem_drop hu)) (by unfold maxLen; omega) (by omega) HB2.out.size ?_; intro v' w1 hown' hgrow _)
          refine ⟨⟨2, by omega, by go_num, hown', HB2.out.grown hgrow HB2.out.size (own_base5 HR2.out)⟩, by simp [intOf]⟩
        · go_wp2
          go_ret
          exact ⟨_, rfl, HR2.out, HB2.out⟩
end Go.Proofs.YtdgolaaheakfoaaGreatDoor.ctr
namespace Go.Proofs.YtdgolaaheakfoaaGreatDoor.ctr
open Go.RowKit
theorem own_mono5 {w : World} {b b' e size : Nat} {v : Value} {n : Nat} {xs : List Value} (h : w.ownsRow b e size v n xs) (hb : b' ≤ b) : w.ownsRow b' e size v n xs := by
  obtain ⟨h1, h | ⟨g, cap, cur, hv, hg, hr⟩⟩ := h
  · exact ⟨h1, .inl h⟩
  · exact ⟨h1, .inr ⟨g, cap, cur, hv, Nat.le_trans hb hg, hr⟩⟩
theorem implWith (g1 c1 g2 c2 : Nat) (w : World) (hg1 : g1 < w.heap.size) (hg2 : g2 < w.heap.size)
    (h1 : ∀ j u, (feaCells.take 50)[j]? = some u → w.cell? ⟨g1, j, none⟩ = some u) (h2 : ∀ j u, (feaCells.drop 50)[j]? = some u → w.cell? ⟨g2, j, none⟩ = some u) :
    Calls Tryz.prog 175 #[.slice (some ⟨g1, 0, none⟩) 10 c1, .slice (some ⟨g2, 0, none⟩) 10 c2] w fun e w' => ∃ v, e = .returned v ∧ FeaOwn w w' v ∧ Below w.heap.size w w' := by
  have K := fun t => implConcat w.heap.size g1 c1 g2 c2 t (w.alloc (.cells #[.slice (some ⟨g1, 0, none⟩) 10 c1, .slice (some ⟨g2, 0, none⟩) 10 c2] t)) (Blk.new w _ _) (by rw [sz_new]; omega) (by rw [sz_new]; omega)
    (fun j u hj => (((Below.refl w.heap.size w).alloc (Nat.le_refl _) _).cell (p := ⟨g1, j, none⟩) hg1).trans (h1 j u hj)) (fun j u hj => (((Below.refl w.heap.size w).alloc (Nat.le_refl _) _).cell (p := ⟨g2, j, none⟩) hg2).trans (h2 j u hj))
  clear h1 h2
  go_enter Tryz.func175, Tryz.ntmps175
  go_wp2_with fail
  refine (K _).mono ?_
  rintro e w1 ⟨v, rfl, hr, hb⟩
  go_wp2
  go_ret
  exact ⟨v, rfl, own_mono5 hr (by rw [sz_new]; omega), below_alloc hb⟩
theorem list_at (cs : List Value) (W : World) (t : TypeId) {k j : Nat} {f : Fea} (h : cs[k * 5 + j]? = f.cs[j]?) : (W.alloc (.cells cs.toArray t)).cell? ⟨W.heap.size, k * 5 + j, none⟩ = f.cs[j]? := by
  rw [← h]
  simp [World.alloc, World.cell?, -World.alloc_eq]
set_option maxRecDepth 100000 in
set_option maxHeartbeats 4000000 in
theorem implFeasts (w : World) : Calls Tryz.prog 152 #[] w fun e w' => ∃ v, e = .returned v ∧ FeaOwn w w' v ∧ Below w.heap.size w w' := by
  go_enter Tryz.func152, Tryz.ntmps152
  go_wp2_with fail
  refine (implOnEaster _ _ _).mono ?_
  rintro e w1 ⟨rfl, hb⟩
  obtain ⟨x1, rfl⟩ := Later.of hb
  clear hb
  go_wp2_with fail
  refine (implOnEaster _ _ _).mono ?_
  rintro e w2 ⟨rfl, hb⟩
  obtain ⟨x2, rfl⟩ := x1.next hb
  clear hb
  go_wp2_with fail
  refine (implOnEaster _ _ _).mono ?_
  rintro e w3 ⟨rfl, hb⟩
  obtain ⟨x3, rfl⟩ := x2.next hb
  clear hb
  go_wp2_with fail
  refine (implOnEaster _ _ _).mono ?_
  rintro e w4 ⟨rfl, hb⟩
  obtain ⟨x4, rfl⟩ := x3.next hb
  clear hb
  go_wp2_with fail
  refine (implOnEaster _ _ _).mono ?_
  rintro e w5 ⟨rfl, hb⟩
  obtain ⟨x5, rfl⟩ := x4.next hb
  clear hb
  go_wp2_with fail
  refine (implOnEaster _ _ _).mono ?_
  rintro e w6 ⟨rfl, hb⟩
  obtain ⟨x6, rfl⟩ := x5.next hb
  clear hb
  go_wp2_with fail
  refine (implOnEaster _ _ _).mono ?_
  rintro e w7 ⟨rfl, hb⟩
  obtain ⟨x7, rfl⟩ := x6.next hb
  clear hb
  go_wp2_with fail
  refine (implOnEaster _ _ _).mono ?_
  rintro e w8 ⟨rfl, hb⟩
  obtain ⟨x8, rfl⟩ := x7.next hb
  clear hb
  go_wp2_with fail
  refine (implOnEaster _ _ _).mono ?_
  rintro e w9 ⟨rfl, hb⟩
  obtain ⟨x9, rfl⟩ := x8.next hb
  clear hb
  go_wp2_with fail
  refine (implOnEaster _ _ _).mono ?_
  rintro e w10 ⟨rfl, hb⟩
  obtain ⟨x10, rfl⟩ := x9.next hb
  clear hb
  go_wp2_with fail
  refine (implMoving x10.w.heap.size 10 _ (by rw [sz_new]; omega) (fun k hk j hj => list_at (feaCells.take 50) x10.w _ (by rw [List.getElem?_take, if_pos (by omega)]; exact feaCell (by omega) hj))).mono ?_
  rintro e w11 ⟨v1, rfl, hr, hb⟩
  obtain ⟨g1, c1, rfl, hg1, hl1, hc1⟩ := cells_row hr (by omega)
  have hg1' : w.heap.size ≤ g1 := by rw [sz_new] at hg1; have := x10.below.size; omega
  obtain ⟨x11, rfl⟩ : ∃ x : Later w, w11 = x.w := ⟨⟨w11, (x10.below.alloc x10.below.size _).trans (hb.mono (by rw [sz_new]; have := x10.below.size; omega))⟩, rfl⟩
  have HC := hideP hc1
  clear hr hb hc1
  go_wp2_with fail
  refine (implOnDate _ _ _ _).mono ?_
  rintro e z1 ⟨rfl, hb⟩
  obtain ⟨y1, rfl⟩ := Later.of hb
  clear hb
  go_wp2_with fail
  refine (implOnDate _ _ _ _).mono ?_
  rintro e z2 ⟨rfl, hb⟩
  obtain ⟨y2, rfl⟩ := y1.next hb
  clear hb
  go_wp2_with fail
  refine (implOnDate _ _ _ _).mono ?_
  rintro e z3 ⟨rfl, hb⟩
  obtain ⟨y3, rfl⟩ := y2.next hb
  clear hb
  go_wp2_with fail
  refine (implOnDate _ _ _ _).mono ?_
  rintro e z4 ⟨rfl, hb⟩
  obtain ⟨y4, rfl⟩ := y3.next hb
  clear hb
  go_wp2_with fail
  refine (implOnDate _ _ _ _).mono ?_
  rintro e z5 ⟨rfl, hb⟩
  obtain ⟨y5, rfl⟩ := y4.next hb
  clear hb
  go_wp2_with fail
  refine (implOnDate _ _ _ _).mono ?_
  rintro e z6 ⟨rfl, hb⟩
  obtain ⟨y6, rfl⟩ := y5.next hb
  clear hb
  go_wp2_with fail
  refine (implOnDate _ _ _ _).mono ?_
  rintro e z7 ⟨rfl, hb⟩
  obtain ⟨y7, rfl⟩ := y6.next hb
  clear hb
  go_wp2_with fail
  refine (implOnDate _ _ _ _).mono ?_
  rintro e z8 ⟨rfl, hb⟩
  obtain ⟨y8, rfl⟩ := y7.next hb
  clear hb
  go_wp2_with fail
  refine (implOnDate _ _ _ _).mono ?_
  rintro e z9 ⟨rfl, hb⟩
  obtain ⟨y9, rfl⟩ := y8.next hb
  clear hb
  go_wp2_with fail
  refine (implOnDate _ _ _ _).mono ?_
  rintro e z10 ⟨rfl, hb⟩
  obtain ⟨y10, rfl⟩ := y9.next hb
  clear hb
  have HA : Hid (∀ t, Below x11.w.heap.size x11.w (y10.w.alloc (.cells (feaCells.drop 50).toArray t))) := fun t => y10.below.alloc y10.below.size _
  have hls : g1 < y10.w.heap.size + 1 := by have := y10.below.size; omega
  go_wp2_with fail
  refine (implWith g1 c1 y10.w.heap.size 10 _ (by rw [sz_new]; exact hls) (by rw [sz_new]; omega) (fun j u hj => ((HA.out _).cell (p := ⟨g1, j, none⟩) hl1).trans (HC.out j u hj)) (fun j u hj => ?_)).mono ?_
  · have h := cells_new5 y10.w (feaCells.drop 50) 159 rfl j u hj
    have ha : (⟨y10.w.heap.size, 0, none⟩ : Addr).add j = ⟨y10.w.heap.size, j, none⟩ := by unfold Addr.add; split <;> simp_all
    rw [ha] at h
    exact h
  rintro e w12 ⟨v, rfl, hr, hb⟩
  have hB0 : Below w.heap.size w (y10.w.alloc (.cells (feaCells.drop 50).toArray 159)) := x11.below.trans ((HA.out _).mono x11.below.size)
  have hB : Below w.heap.size w w12 := hB0.trans (hb.mono hB0.size)
  have hr' := own_mono5 hr hB0.size
  have HR := hideP hr'
  have HB := hideP hB
  clear hr hb hr' hB hB0
  go_wp2
  go_ret
  exact ⟨v, rfl, HR.out, HB.out⟩
end Go.Proofs.YtdgolaaheakfoaaGreatDoor.ctr
namespace Go.Proofs.YtdgolaaheakfoaaGreatDoor.ctr
open Go.RowKit
set_option maxHeartbeats 1000000 in
theorem specFind (s : ByteArray) (w : World) : Calls Tryz.prog 117 #[.string s] w fun e w' => e = .returned (.int .i64 (findFeast s)) ∧ Below w.heap.size w w' := by
  go_enter Tryz.func117, Tryz.ntmps117
  go_wp2_with fail
  refine (specFeasts _).mono ?_
  rintro e W1 ⟨v, rfl, hr, hb⟩
  obtain ⟨g, cap, rfl, hg, hc⟩ := hr.row
  have HC := hideP hc
  have HB := hideP hb
  clear hr hc hb
  go_wp2
  go_loopw [4] (fun i wr => ∃ k : Nat, k ≤ 20 ∧ i = .int .i64 (k : Int) ∧ Hid (findFrom s (feasts.drop k) k = findFeast s) ∧ W1 = wr) (fun i _ => 20 - (intOf i).toNat)
  case atStart => exact ⟨0, Nat.zero_le _, rfl, rfl, rfl⟩
  case round =>
    obtain ⟨k, hk, rfl, HF, rfl⟩ := hrel
    by_cases hlt : k < 20
    · have c0 := HC.out k hlt 0 (by omega)
      have K1 := hideP (fun h => find_hit hlt h HF.out)
      have K2 := hideP (fun h => find_miss hlt h HF.out)
      have hsz := feaAt_size0 ⟨k, hlt⟩
      dsimp only at hsz
      generalize feaAt k = f at *
      obtain ⟨n, mv, o, m, d⟩ := f
      simp only [Fea.cs, List.getElem?_cons_zero, Nat.add_zero] at c0
      cases hq : (n.toList == s.toList)
      · have HN := hideP (K2.out (str_ne hq))
        go_wp2
        exact ⟨⟨k + 1, by omega, by go_num, HN.out, by first | rfl | trivial⟩, by simp [intOf]; omega⟩
      · have HN := hideP (K1.out (str_eq hq))
        go_wp2
        go_ret
        exact ⟨ret_int HN.out.symm, HB.out⟩
    · have HN := hideP (find_end (by omega) HF.out)
      go_wp2
      go_ret
      exact ⟨ret_int HN.out.symm, HB.out⟩
set_option maxHeartbeats 1000000 in
theorem implFind (s : ByteArray) (w : World) : Calls Tryz.prog 151 #[.string s] w fun e w' => e = .returned (.int .i64 (findFeast s)) ∧ Below w.heap.size w w' := by
  go_enter Tryz.func151, Tryz.ntmps151
  go_wp2_with fail
  refine (implFeasts _).mono ?_
  rintro e W1 ⟨v, rfl, hr, hb⟩
  obtain ⟨g, cap, rfl, hg, hc⟩ := hr.row
  have HC := hideP hc
  have HB := hideP hb
  clear hr hc hb
  go_wp2
  go_loopw [7] (fun i wr => ∃ k : Nat, k ≤ 20 ∧ i = .int .i64 (k : Int) ∧ Hid (findFrom s (feasts.drop k) k = findFeast s) ∧ Below W1.heap.size W1 wr) (fun i _ => 20 - (intOf i).toNat)
  case atStart => exact ⟨0, Nat.zero_le _, rfl, rfl, Below.refl _ _⟩
  case round =>
    obtain ⟨k, hk, rfl, HF, hBr⟩ := hrel
    have HR := hideP hBr
    clear hBr
    by_cases hlt : k < 20
    · have c0 := (HR.out.cell (p := ⟨g, k * 5 + 0, none⟩) hg).trans (HC.out k hlt 0 (by omega))
      have c1 := (HR.out.cell (p := ⟨g, k * 5 + 1, none⟩) hg).trans (HC.out k hlt 1 (by omega))
      have c2 := (HR.out.cell (p := ⟨g, k * 5 + 2, none⟩) hg).trans (HC.out k hlt 2 (by omega))
      have c3 := (HR.out.cell (p := ⟨g, k * 5 + 3, none⟩) hg).trans (HC.out k hlt 3 (by omega))
      have c4 := (HR.out.cell (p := ⟨g, k * 5 + 4, none⟩) hg).trans (HC.out k hlt 4 (by omega))
      have K1 := hideP (fun h => find_hit hlt h HF.out)
      have K2 := hideP (fun h => find_miss hlt h HF.out)
      have hsz := feaAt_size0 ⟨k, hlt⟩
      dsimp only at hsz
      generalize feaAt k = f at *
      obtain ⟨n, mv, o, m, d⟩ := f
      simp only [Fea.cs, List.getElem?_cons_zero, List.getElem?_cons_succ, Nat.add_zero] at c0 c1 c2 c3 c4
      cases hq : (n.toList == s.toList)
      · have HN := hideP (K2.out (str_ne hq))
        go_wp2
        exact ⟨⟨k + 1, by omega, by go_num, HN.out, HR.out.alloc HR.out.size _⟩, by simp [intOf]; omega⟩
      · have HN := hideP (K1.out (str_eq hq))
        go_wp2
        go_ret
        exact ⟨ret_int HN.out.symm, HB.out.trans ((HR.out.alloc HR.out.size _).mono HB.out.size)⟩
    · have HN := hideP (find_end (by omega) HF.out)
      go_wp2
      go_ret
      exact ⟨ret_int HN.out.symm, HB.out.trans (HR.out.mono HB.out.size)⟩
end Go.Proofs.YtdgolaaheakfoaaGreatDoor.ctr
