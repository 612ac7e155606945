/- Plain facts on right regimes (each day of From .. To is in a segment, no other day is; their changes rise) and the contract of the laws' rising. Plain facts on a regime as it is drawn: segments that stand one behind the other tile, and such a regime is right. Readings (a struct of five ints), and contracts of both Plain: the date of a reading's calendar, year, month and day, and whether there is one. Contracts of the golden number: the model's and the program's Golden answer the plain function at every int. Plain laws of Easter, of no program: golden numbers, epacts, full moons, the closed forms; over the years 1 to 3000 of both calendars the closed form is the Sunday behind the full moon, from 22 March to 25 April. -/
import Derived.Test.YtilpencbbdpgfaaGreatDoorJnQas
import Derived.Test.YtilpencbbdpgfaaGreatDoorJnQal
import Derived.Test.YtilpencbbdpgfaaGreatDoorJnQai
import Derived.Test.YtilpencbbdpgfaaGreatDoorJnQaa
namespace Go.Proofs.YtilpencbbdpgfaaGreatDoor.ctr
open Go.RowKit
theorem bare_has {t : Int} : ∀ (L : List Seg) (f n : Int), bareS t L f = false → f ≤ n → n ≤ t → ∃ s ∈ L, s.fr ≤ n ∧ n ≤ s.to
  | [], f, n, h, h1, h2 => by
    rw [bareS] at h
    have := of_decide_eq_false h
    omega
  | s :: l, f, n, h, h1, h2 => by
    rw [bareS, if_pos (by omega)] at h
    by_cases a : s.to < f
    · rw [if_pos a] at h
      obtain ⟨x, hx, hh⟩ := bare_has l f n h h1 h2
      exact ⟨x, List.mem_cons_of_mem _ hx, hh⟩
    · rw [if_neg a] at h
      by_cases b : f < s.fr
      · rw [if_pos b] at h; cases h
      · rw [if_neg b] at h
        by_cases c : n ≤ s.to
        · exact ⟨s, List.mem_cons_self, by omega, c⟩
        · rw [if_neg (by omega)] at h
          obtain ⟨x, hx, hh⟩ := bare_has l (s.to + 1) n h (by omega) h2
          exact ⟨x, List.mem_cons_of_mem _ hx, hh⟩
theorem tiles_has {f t n : Int} {l : List Seg} (h : tilesZ f t l = 0) (h1 : f ≤ n) (h2 : n ≤ t) : ∃ s ∈ l, s.fr ≤ n ∧ n ≤ s.to := by
  unfold tilesZ tileC at h
  by_cases a : sharedB (fullS l) = true
  · rw [if_pos a] at h; omega
  · rw [if_neg a] at h
    by_cases b : bareS t (fullS l) f = true
    · rw [if_pos b] at h; omega
    · obtain ⟨s, hs, hh⟩ := bare_has (fullS l) f n (by simpa using b) h1 h2
      exact ⟨s, full_mem hs, hh⟩
theorem ifc_cases {α : Type} (K : IK α) (p : α → Bool) : ∀ (l : List α) (j : Nat), (ifFrom p l j = -1 ∧ ∀ x ∈ l, p x = false) ∨ ∃ k, k < l.length ∧ ifFrom p l j = ((j + k : Nat) : Int) ∧ p (atK K l k) = true
  | [], j => .inl ⟨rfl, fun x hx => by cases hx⟩
  | a :: l, j => by
    rw [ifFrom]
    cases h : p a
    · rw [if_neg (by simp)]
      rcases ifc_cases K p l (j + 1) with ⟨h1, h2⟩ | ⟨k, hk, h1, h2⟩
      · exact .inl ⟨h1, fun x hx => by rcases List.mem_cons.1 hx with rfl | hx; exact h; exact h2 x hx⟩
      · exact .inr ⟨k + 1, by simp; omega, by rw [h1]; congr 1; omega, by simpa [atK] using h2⟩
    · rw [if_pos rfl]
      exact .inr ⟨0, by simp, by simp, by simpa [atK] using h⟩
theorem segAt_cases (l : List Seg) (n : Int) : (segAt l n = -1 ∧ ∀ x ∈ l, segHas n x = false) ∨ ∃ k, k < l.length ∧ segAt l n = (k : Int) ∧ (atK segK l k).fr ≤ n ∧ n ≤ (atK segK l k).to := by
  rcases ifc_cases segK (segHas n) l 0 with h | ⟨k, hk, h1, h2⟩
  · exact .inl h
  · refine .inr ⟨k, hk, by unfold segAt ifind; rw [h1]; congr 1; omega, ?_⟩
    unfold segHas at h2
    by_cases a : (atK segK l k).fr ≤ n
    · by_cases b : n ≤ (atK segK l k).to
      · exact ⟨a, b⟩
      · rw [inB_false (.inr (by omega))] at h2; cases h2
    · rw [inB_false (.inl (by omega))] at h2; cases h2
theorem regime_parts {r : Rgm} (h : regimeB r = true) : allTo (segFit r.fr r.to r.segs) r.segs.length = true ∧ tilesZ r.fr r.to r.segs = 0 := by
  unfold regimeB segsB at h
  simp only [Bool.and_eq_true, decide_eq_true_eq] at h
  exact h.2.2.2.1.2
theorem seg_fact {r : Rgm} (h : regimeB r = true) (n : Int) : 0 ≤ segAt r.segs n ↔ (r.fr ≤ n ∧ n ≤ r.to) := by
  obtain ⟨ha, ht⟩ := regime_parts h
  constructor
  · intro h0
    rcases segAt_cases r.segs n with ⟨h1, _⟩ | ⟨k, hk, h1, h2, h3⟩
    · omega
    · have := segFit_ok (allTo_at ha hk)
      omega
  · rintro ⟨h1, h2⟩
    rcases segAt_cases r.segs n with ⟨_, h3⟩ | ⟨k, hk, h3, _⟩
    · obtain ⟨s, hs, h4, h5⟩ := tiles_has ht h1 h2
      have := h3 s hs
      unfold segHas at this
      rw [inB_true h4 h5] at this
      cases this
    · omega
end Go.Proofs.YtilpencbbdpgfaaGreatDoor.ctr
namespace Go.Proofs.YtilpencbbdpgfaaGreatDoor.ctr
open Go.RowKit
theorem tagS_mem : ∀ (l : List Seg) (b : Nat) (x : PSeg), x ∈ tagS l b → x.s ∈ l
  | [], b, x, h => by simp [tagS] at h
  | s :: l, b, x, h => by
    simp only [tagS, List.mem_cons] at h
    rcases h with rfl | h
    · exact List.mem_cons_self
    · exact List.mem_cons_of_mem _ (tagS_mem l (b + 1) x h)
theorem tagS_map : ∀ (l : List Seg) (b : Nat), (tagS l b).map PSeg.s = l
  | [], b => rfl
  | s :: l, b => by simp [tagS, tagS_map l (b + 1)]
end Go.Proofs.YtilpencbbdpgfaaGreatDoor.ctr
namespace Go.Proofs.YtilpencbbdpgfaaGreatDoor.ctr
open Go.RowKit
structure Rdg where
  cal : Int
  year : Int
  sol : Int
  mon : Int
  day : Int
deriving DecidableEq
def rdgK : IK Rdg where
  m := 5
  iv := fun s => [s.cal, s.year, s.sol, s.mon, s.day]
  ofI := fun zs => ⟨zs.getD 0 0, zs.getD 1 0, zs.getD 2 0, zs.getD 3 0, zs.getD 4 0⟩
  d := ⟨0, 0, 0, 0, 0⟩
  len := fun _ => rfl
  back := fun zs h => by
    match zs, h with
    | [_, _, _, _, _], _ => rfl
abbrev rdgV (x : Rdg) : Value := .agg #[.int .i64 x.cal, .int .i64 x.year, .int .i64 x.sol, .int .i64 x.mon, .int .i64 x.day]
theorem toReading (x : Rdg) (w : World) : Calls Tryz.prog 22 #[rdgV x] w fun e w' => e = .returned (rdgV x) ∧ Below w.heap.size w w' := by
  go_enter Tryz.func22, Tryz.ntmps22
  go_wp2
  go_returns
  refine ⟨rfl, ?_⟩
  go_grown
def plainR (c : Int) (x : Rdg) : Value := if dateOk c x.sol x.mon x.day = true then .tuple #[.agg #[.int .i64 c, .int .i64 x.sol, .int .i64 x.mon, .int .i64 x.day], .bool true] else .tuple #[.agg #[.int .i64 0, .int .i64 0, .int .i64 0, .int .i64 0], .bool false]
theorem box3 (w : World) (o : Obj) (u v : Array Value) (t s : TypeId) : ∃ W0, W0 = ((w.alloc o).alloc (.cells u t)).alloc (.cells v s) ∧ Hid (∀ x : Later W0, Blk x.w (w.heap.size + 1) u t) ∧ Hid (∀ x : Later W0, Blk x.w (w.heap.size + 2) v s) ∧ Hid (∀ x : Later W0, Below w.heap.size w x.w) := by
  refine ⟨_, rfl, fun x => ?_, fun x => ?_, fun x => ?_⟩
  · have h := Blk.new (w.alloc o) u t
    rw [World.size_alloc] at h
    exact (h.alloc _).later x
  · have h := Blk.new ((w.alloc o).alloc (.cells u t)) v s
    rw [World.size_alloc, World.size_alloc] at h
    exact h.later x
  · exact below_alloc (below_alloc (below_alloc x.below))
theorem box2 (w : World) (o : Obj) (u : Array Value) (t : TypeId) : ∃ W0, W0 = (w.alloc o).alloc (.cells u t) ∧ Hid (∀ x : Later W0, Blk x.w (w.heap.size + 1) u t) ∧ Hid (∀ x : Later W0, Below w.heap.size w x.w) := by
  refine ⟨_, rfl, fun x => ?_, fun x => ?_⟩
  · have h := Blk.new (w.alloc o) u t
    rw [World.size_alloc] at h
    exact h.later x
  · exact below_alloc (below_alloc x.below)
set_option maxHeartbeats 1000000 in
theorem implSolarDate (c : Int) (x : Rdg) (w : World) (hT : Tab w) : Calls Tryz.prog 134 #[.int .i64 c, rdgV x] w fun e w' => e = .returned (plainR c x) ∧ Below w.heap.size w w' := by
  obtain ⟨W0, hW0, H1, H2, HB⟩ := box3 w (.cells #[.int .i64 x.cal, .int .i64 x.year, .int .i64 x.sol, .int .i64 x.mon, .int .i64 x.day] 29) #[.int .i64 0, .int .i64 0, .int .i64 0, .int .i64 0] #[.int .i64 (c), .int .i64 x.sol, .int .i64 x.mon, .int .i64 x.day] 92 92
  have HW0 := hideP hW0
  have KO : Calls Tryz.prog 190 #[.agg #[.int .i64 c, .int .i64 x.sol, .int .i64 x.mon, .int .i64 x.day]] W0 fun e w' => e = .returned (.bool (dateOk c x.sol x.mon x.day)) ∧ Below W0.heap.size W0 w' := implDateOk c x.sol x.mon x.day W0 (hT.later (HB.out ⟨W0, Below.refl _ _⟩))
  have u0 : ∀ z : Later W0, z.w.cell? ⟨w.heap.size + 1, 0, none⟩ = some (.int .i64 0) := fun z => (H1.out z).cell 0 rfl
  have u1 : ∀ z : Later W0, z.w.cell? ⟨w.heap.size + 1, 1, none⟩ = some (.int .i64 0) := fun z => (H1.out z).cell 1 rfl
  have u2 : ∀ z : Later W0, z.w.cell? ⟨w.heap.size + 1, 2, none⟩ = some (.int .i64 0) := fun z => (H1.out z).cell 2 rfl
  have u3 : ∀ z : Later W0, z.w.cell? ⟨w.heap.size + 1, 3, none⟩ = some (.int .i64 0) := fun z => (H1.out z).cell 3 rfl
  have c0 : ∀ z : Later W0, z.w.cell? ⟨w.heap.size + 2, 0, none⟩ = some (.int .i64 c) := fun z => (H2.out z).cell 0 rfl
  have c1 : ∀ z : Later W0, z.w.cell? ⟨w.heap.size + 2, 1, none⟩ = some (.int .i64 x.sol) := fun z => (H2.out z).cell 1 rfl
  have c2 : ∀ z : Later W0, z.w.cell? ⟨w.heap.size + 2, 2, none⟩ = some (.int .i64 x.mon) := fun z => (H2.out z).cell 2 rfl
  have c3 : ∀ z : Later W0, z.w.cell? ⟨w.heap.size + 2, 3, none⟩ = some (.int .i64 x.day) := fun z => (H2.out z).cell 3 rfl
  have f0 : ∀ z : Later W0, z.w.frozen? ⟨w.heap.size + 1, 0, none⟩ = false := fun z => (H1.out z).thaw 0
  have f1 : ∀ z : Later W0, z.w.frozen? ⟨w.heap.size + 1, 1, none⟩ = false := fun z => (H1.out z).thaw 1
  have f2 : ∀ z : Later W0, z.w.frozen? ⟨w.heap.size + 1, 2, none⟩ = false := fun z => (H1.out z).thaw 2
  have f3 : ∀ z : Later W0, z.w.frozen? ⟨w.heap.size + 1, 3, none⟩ = false := fun z => (H1.out z).thaw 3
  clear hW0 hT
  unfold plainR
  generalize dateOk c x.sol x.mon x.day = b at *
  cases b
  · rw [if_neg (by simp)]
    go_enter Tryz.func134, Tryz.ntmps134
    go_wp2_with fail
    rw [← HW0.out]
    refine KO.mono ?_
    rintro e w1 ⟨rfl, hb⟩
    obtain ⟨x1, rfl⟩ := Later.of hb
    clear hb
    go_wp2
    obtain ⟨W9, e9⟩ : ∃ W9, W9 = (((x1.w.setCell ⟨w.heap.size + 1, 0, none⟩ (.int .i64 0)).setCell ⟨w.heap.size + 1, 1, none⟩ (.int .i64 0)).setCell ⟨w.heap.size + 1, 2, none⟩ (.int .i64 0)).setCell ⟨w.heap.size + 1, 3, none⟩ (.int .i64 0) := ⟨_, rfl⟩
    have Z9 : Blk W9 (w.heap.size + 1) #[.int .i64 0, .int .i64 0, .int .i64 0, .int .i64 0] 92 := by rw [e9]; exact (((((H1.out x1).set 0 _).set 1 _).set 2 _).set 3 _)
    have B9 : Below w.heap.size w W9 := by rw [e9]; exact (Below.setCell (Below.setCell (Below.setCell (Below.setCell (HB.out x1) (p := ⟨w.heap.size + 1, 0, none⟩) (show w.heap.size ≤ w.heap.size + 1 by omega) _) (p := ⟨w.heap.size + 1, 1, none⟩) (show w.heap.size ≤ w.heap.size + 1 by omega) _) (p := ⟨w.heap.size + 1, 2, none⟩) (show w.heap.size ≤ w.heap.size + 1 by omega) _) (p := ⟨w.heap.size + 1, 3, none⟩) (show w.heap.size ≤ w.heap.size + 1 by omega) _)
    rw [← e9]
    clear e9
    have q0 : W9.cell? ⟨w.heap.size + 1, 0, none⟩ = some (.int .i64 0) := Z9.cell 0 rfl
    have q1 : W9.cell? ⟨w.heap.size + 1, 1, none⟩ = some (.int .i64 0) := Z9.cell 1 rfl
    have q2 : W9.cell? ⟨w.heap.size + 1, 2, none⟩ = some (.int .i64 0) := Z9.cell 2 rfl
    have q3 : W9.cell? ⟨w.heap.size + 1, 3, none⟩ = some (.int .i64 0) := Z9.cell 3 rfl
    exact bodyPost_ret (by simp [results, Tryz.results134, go_sem, q0, q1, q2, q3]; try rfl) rfl ⟨rfl, B9⟩
  · rw [if_pos rfl]
    go_enter Tryz.func134, Tryz.ntmps134
    go_wp2_with fail
    rw [← HW0.out]
    refine KO.mono ?_
    rintro e w1 ⟨rfl, hb⟩
    obtain ⟨x1, rfl⟩ := Later.of hb
    clear hb
    go_wp2
    obtain ⟨W9, e9⟩ : ∃ W9, W9 = (((x1.w.setCell ⟨w.heap.size + 1, 0, none⟩ (.int .i64 c)).setCell ⟨w.heap.size + 1, 1, none⟩ (.int .i64 x.sol)).setCell ⟨w.heap.size + 1, 2, none⟩ (.int .i64 x.mon)).setCell ⟨w.heap.size + 1, 3, none⟩ (.int .i64 x.day) := ⟨_, rfl⟩
    have Z9 : Blk W9 (w.heap.size + 1) #[.int .i64 c, .int .i64 x.sol, .int .i64 x.mon, .int .i64 x.day] 92 := by rw [e9]; exact (((((H1.out x1).set 0 _).set 1 _).set 2 _).set 3 _)
    have B9 : Below w.heap.size w W9 := by rw [e9]; exact (Below.setCell (Below.setCell (Below.setCell (Below.setCell (HB.out x1) (p := ⟨w.heap.size + 1, 0, none⟩) (show w.heap.size ≤ w.heap.size + 1 by omega) _) (p := ⟨w.heap.size + 1, 1, none⟩) (show w.heap.size ≤ w.heap.size + 1 by omega) _) (p := ⟨w.heap.size + 1, 2, none⟩) (show w.heap.size ≤ w.heap.size + 1 by omega) _) (p := ⟨w.heap.size + 1, 3, none⟩) (show w.heap.size ≤ w.heap.size + 1 by omega) _)
    rw [← e9]
    clear e9
    have q0 : W9.cell? ⟨w.heap.size + 1, 0, none⟩ = some (.int .i64 c) := Z9.cell 0 rfl
    have q1 : W9.cell? ⟨w.heap.size + 1, 1, none⟩ = some (.int .i64 x.sol) := Z9.cell 1 rfl
    have q2 : W9.cell? ⟨w.heap.size + 1, 2, none⟩ = some (.int .i64 x.mon) := Z9.cell 2 rfl
    have q3 : W9.cell? ⟨w.heap.size + 1, 3, none⟩ = some (.int .i64 x.day) := Z9.cell 3 rfl
    exact bodyPost_ret (by simp [results, Tryz.results134, go_sem, q0, q1, q2, q3]; try rfl) rfl ⟨rfl, B9⟩
set_option maxHeartbeats 1000000 in
theorem implPlain (x : Rdg) (w : World) (hT : Tab w) : Calls Tryz.prog 128 #[rdgV x] w fun e w' => e = .returned (plainR x.cal x) ∧ Below w.heap.size w w' := by
  obtain ⟨W0, hW0, H1, HB⟩ := box2 w (.cells #[.int .i64 x.cal, .int .i64 x.year, .int .i64 x.sol, .int .i64 x.mon, .int .i64 x.day] 29) #[.int .i64 0, .int .i64 0, .int .i64 0, .int .i64 0] 92
  have HW0 := hideP hW0
  have KO : Calls Tryz.prog 134 #[.int .i64 x.cal, rdgV x] W0 fun e w' => e = .returned (plainR x.cal x) ∧ Below W0.heap.size W0 w' := implSolarDate x.cal x W0 (hT.later (HB.out ⟨W0, Below.refl _ _⟩))
  obtain ⟨a, b, m, d, ok, h⟩ : ∃ a b m d ok, plainR x.cal x = .tuple #[.agg #[.int .i64 a, .int .i64 b, .int .i64 m, .int .i64 d], .bool ok] := by
    unfold plainR
    split
    · exact ⟨_, _, _, _, _, rfl⟩
    · exact ⟨_, _, _, _, _, rfl⟩
  rw [h] at KO ⊢
  have u0 : ∀ z : Later W0, z.w.cell? ⟨w.heap.size + 1, 0, none⟩ = some (.int .i64 0) := fun z => (H1.out z).cell 0 rfl
  have u1 : ∀ z : Later W0, z.w.cell? ⟨w.heap.size + 1, 1, none⟩ = some (.int .i64 0) := fun z => (H1.out z).cell 1 rfl
  have u2 : ∀ z : Later W0, z.w.cell? ⟨w.heap.size + 1, 2, none⟩ = some (.int .i64 0) := fun z => (H1.out z).cell 2 rfl
  have u3 : ∀ z : Later W0, z.w.cell? ⟨w.heap.size + 1, 3, none⟩ = some (.int .i64 0) := fun z => (H1.out z).cell 3 rfl
  have f0 : ∀ z : Later W0, z.w.frozen? ⟨w.heap.size + 1, 0, none⟩ = false := fun z => (H1.out z).thaw 0
  have f1 : ∀ z : Later W0, z.w.frozen? ⟨w.heap.size + 1, 1, none⟩ = false := fun z => (H1.out z).thaw 1
  have f2 : ∀ z : Later W0, z.w.frozen? ⟨w.heap.size + 1, 2, none⟩ = false := fun z => (H1.out z).thaw 2
  have f3 : ∀ z : Later W0, z.w.frozen? ⟨w.heap.size + 1, 3, none⟩ = false := fun z => (H1.out z).thaw 3
  clear hW0 hT h
  go_enter Tryz.func128, Tryz.ntmps128
  go_wp2_with fail
  rw [← HW0.out]
  refine KO.mono ?_
  rintro e w1 ⟨rfl, hb⟩
  obtain ⟨x1, rfl⟩ := Later.of hb
  clear hb
  go_wp2
  obtain ⟨W9, e9⟩ : ∃ W9, W9 = (((x1.w.setCell ⟨w.heap.size + 1, 0, none⟩ (.int .i64 a)).setCell ⟨w.heap.size + 1, 1, none⟩ (.int .i64 b)).setCell ⟨w.heap.size + 1, 2, none⟩ (.int .i64 m)).setCell ⟨w.heap.size + 1, 3, none⟩ (.int .i64 d) := ⟨_, rfl⟩
  have Z9 : Blk W9 (w.heap.size + 1) #[.int .i64 a, .int .i64 b, .int .i64 m, .int .i64 d] 92 := by rw [e9]; exact (((((H1.out x1).set 0 _).set 1 _).set 2 _).set 3 _)
  have B9 : Below w.heap.size w W9 := by rw [e9]; exact (Below.setCell (Below.setCell (Below.setCell (Below.setCell (HB.out x1) (p := ⟨w.heap.size + 1, 0, none⟩) (show w.heap.size ≤ w.heap.size + 1 by omega) _) (p := ⟨w.heap.size + 1, 1, none⟩) (show w.heap.size ≤ w.heap.size + 1 by omega) _) (p := ⟨w.heap.size + 1, 2, none⟩) (show w.heap.size ≤ w.heap.size + 1 by omega) _) (p := ⟨w.heap.size + 1, 3, none⟩) (show w.heap.size ≤ w.heap.size + 1 by omega) _)
  rw [← e9]
  clear e9
  have q0 : W9.cell? ⟨w.heap.size + 1, 0, none⟩ = some (.int .i64 a) := Z9.cell 0 rfl
  have q1 : W9.cell? ⟨w.heap.size + 1, 1, none⟩ = some (.int .i64 b) := Z9.cell 1 rfl
  have q2 : W9.cell? ⟨w.heap.size + 1, 2, none⟩ = some (.int .i64 m) := Z9.cell 2 rfl
  have q3 : W9.cell? ⟨w.heap.size + 1, 3, none⟩ = some (.int .i64 d) := Z9.cell 3 rfl
  exact bodyPost_ret (by simp [results, Tryz.results128, go_sem, q0, q1, q2, q3]; try rfl) rfl ⟨rfl, B9⟩
end Go.Proofs.YtilpencbbdpgfaaGreatDoor.ctr
namespace Go.Proofs.YtilpencbbdpgfaaGreatDoor.ctr
open Go.RowKit
def golden (y : Int) : Int := if 1 ≤ y ∧ y ≤ 3000 then y % 19 + 1 else 0
end Go.Proofs.YtilpencbbdpgfaaGreatDoor.ctr
namespace Go.Proofs.YtilpencbbdpgfaaGreatDoor.ctr
open Go.RowKit
def yearP (c y : Int) : Prop := (c = 0 ∨ c = 1) ∧ 1 ≤ y ∧ y ≤ 3000
instance (c y : Int) : Decidable (yearP c y) := by unfold yearP; infer_instance
def e0G (g y : Int) : Int := (11 * g + 20 + (8 * (y / 100 + 1) + 5) / 25 - 5 - (3 * (y / 100 + 1) / 4 - 12)) % 30
def adjG (e g : Int) : Int := if e = 24 ∨ (e = 25 ∧ 11 < g) then e + 1 else e
def ep (c g y : Int) : Int := if c = 0 then 11 * (g - 1) % 30 else adjG (e0G g y) g
def moonN (c g e : Int) : Int := if c = 0 then 20 + (19 * (g - 1) + 15) % 30 else if 43 - e < 20 then 43 - e + 30 else 43 - e
def epact (c y : Int) : Int := if yearP c y then ep c (y % 19 + 1) y else 0
def moonOff (c y : Int) : Int := moonN c (y % 19 + 1) (ep c (y % 19 + 1) y)
def march (c y : Int) : Int := first c y + before c y 2
def fullMoon (c y : Int) : Int := if yearP c y then march c y + moonOff c y else 0
def dJ (y : Int) : Int := (19 * (y % 19) + 15) % 30
def sumJ (y : Int) : Int := dJ y + (2 * (y % 4) + 4 * (y % 7) - dJ y + 34) % 7 + 114
def gG (y : Int) : Int := (y / 100 - (y / 100 + 8) / 25 + 1) / 3
def hG (y : Int) : Int := (19 * (y % 19) + y / 100 - y / 100 / 4 - gG y + 15) % 30
def lG (y : Int) : Int := (32 + 2 * (y / 100 % 4) + 2 * (y % 100 / 4) - hG y - y % 100 % 4) % 7
def mG (y : Int) : Int := (y % 19 + 11 * hG y + 22 * lG y) / 451
def sumG (y : Int) : Int := hG y + lG y - 7 * mG y + 114
def sumE (c y : Int) : Int := if c = 0 then sumJ y else sumG y
def easter (c y : Int) : Int := if yearP c y then dayOf c y (sumE c y / 31) (sumE c y % 31 + 1) else 0
def all2 (f : Nat → Bool) : Nat → Nat → Bool
  | 0, lo => f lo
  | k + 1, lo => all2 f k lo && all2 f k (lo + 2 ^ k)
theorem all2_at {f : Nat → Bool} : ∀ {k lo n}, all2 f k lo = true → lo ≤ n → n < lo + 2 ^ k → f n = true
  | 0, lo, n, h, h1, h2 => by
    have : n = lo := by simp at h2; omega
    subst this; exact h
  | k + 1, lo, n, h, h1, h2 => by
    simp only [all2, Bool.and_eq_true] at h
    by_cases hn : n < lo + 2 ^ k
    · exact all2_at h.1 h1 hn
    · exact all2_at h.2 (by omega) (by rw [Nat.pow_succ] at h2; omega)
def dN (y : Nat) : Nat := (19 * (y % 19) + 15) % 30
def sN (y : Nat) : Nat := dN y + (2 * (y % 4) + 4 * (y % 7) + 34 - dN y) % 7
def chkJ (y : Nat) : Bool :=
  Nat.ble (20 + dN y + 1) (sN y + 21) && Nat.ble (sN y + 21) (20 + dN y + 7) && Nat.beq ((365 * (y - 1) + (y - 1) / 4 + 58 + (if y % 4 = 0 then 1 else 0) + (sN y + 21)) % 7) 0 && Nat.ble (sN y) 34
def hN (y : Nat) : Nat := (19 * (y % 19) + y / 100 - y / 100 / 4 - (y / 100 + 1 - (y / 100 + 8) / 25) / 3 + 15) % 30
def lN (y : Nat) : Nat := (32 + 2 * (y / 100 % 4) + 2 * (y % 100 / 4) - hN y - y % 100 % 4) % 7
def mN (y : Nat) : Nat := (y % 19 + 11 * hN y + 22 * lN y) / 451
def tN (y : Nat) : Nat := hN y + lN y - 7 * mN y
def e0N (y : Nat) : Nat := (11 * (y % 19 + 1) + 20 + (8 * (y / 100 + 1) + 5) / 25 + 37 - 3 * (y / 100 + 1) / 4) % 30
def eN (y : Nat) : Nat := if e0N y = 24 ∨ (e0N y = 25 ∧ 11 < y % 19 + 1) then e0N y + 1 else e0N y
def mooN (y : Nat) : Nat := if 23 < eN y then 73 - eN y else 43 - eN y
def chkG (y : Nat) : Bool :=
  Nat.ble (7 * mN y) (hN y + lN y) && Nat.ble (mooN y + 1) (tN y + 21) && Nat.ble (tN y + 21) (mooN y + 7) && Nat.beq ((365 * (y - 1) + (y - 1) / 4 - (y - 1) / 100 + (y - 1) / 400 + 60 + (if (y % 4 = 0 ∧ ¬ y % 100 = 0) ∨ y % 400 = 0 then 1 else 0) + (tN y + 21)) % 7) 0 && Nat.ble (tN y) 34
theorem allJ : all2 chkJ 12 1 = true := by decide +kernel
theorem allG : all2 chkG 12 1 = true := by decide +kernel
theorem before_2 {c y : Int} (hc : c = 0 ∨ c = 1) : before c y 2 = 59 + (if leapP c y then 1 else 0) := by
  have m1 := monthDays_plain (y := y) hc (m := 1) (by omega) (by omega) (by omega)
  by_cases hl : leapP c y
  · have m2 := monthDays_leap hc hl
    simp [before, m1, m2, hl, tab12]
  · have m2 := monthDays_plain (y := y) hc (m := 2) (by omega) (by omega) (fun h => hl h.2)
    simp [before, m1, m2, hl, tab12]
theorem dN_cast (n : Nat) : (dN n : Int) = dJ n := by unfold dN dJ; omega
theorem dJ_b (y : Int) : 0 ≤ dJ y ∧ dJ y ≤ 29 := by unfold dJ; omega
theorem sN_cast (n : Nat) : (sN n : Int) = sumJ n - 114 := by
  unfold sN sumJ
  have h := dN_cast n
  have b := dJ_b n
  generalize dJ n = d at *
  generalize dN n = d' at *
  omega
theorem hG_b (y : Int) : 0 ≤ hG y ∧ hG y ≤ 29 := by unfold hG; omega
theorem gN_cast (b : Nat) : ((b + 1 - (b + 8) / 25 : Nat) : Int) = (b : Int) - ((b : Int) + 8) / 25 + 1 := by omega
theorem hN_cast (n : Nat) : (hN n : Int) = hG n := by
  unfold hN hG gG
  have e1 : (n : Int) / 100 = ((n / 100 : Nat) : Int) := by omega
  have e2 : (n : Int) % 19 = ((n % 19 : Nat) : Int) := by omega
  rw [e1, e2, ← gN_cast]
  generalize n % 19 = a
  have hg : n / 100 + 1 - (n / 100 + 8) / 25 ≤ n / 100 + 1 := Nat.sub_le _ _
  generalize n / 100 = b at *
  generalize b + 1 - (b + 8) / 25 = x at *
  have e3 : (b : Int) / 4 = ((b / 4 : Nat) : Int) := by omega
  have e4 : (x : Int) / 3 = ((x / 3 : Nat) : Int) := by omega
  rw [e3, e4]
  have h3 : b / 4 + x / 3 ≤ b + 1 := by omega
  generalize b / 4 = p at *
  generalize x / 3 = q at *
  by_cases hz : 19 * a + b < p + q
  · omega
  · omega
theorem lN_cast (n : Nat) : (lN n : Int) = lG n := by
  unfold lN lG
  have h := hN_cast n
  have b := hG_b n
  generalize hG n = d at *
  generalize hN n = d' at *
  have e1 : (n : Int) / 100 % 4 = ((n / 100 % 4 : Nat) : Int) := by omega
  have e2 : (n : Int) % 100 / 4 = ((n % 100 / 4 : Nat) : Int) := by omega
  have e3 : (n : Int) % 100 % 4 = ((n % 100 % 4 : Nat) : Int) := by omega
  rw [e1, e2, e3]
  have h3 : n % 100 % 4 ≤ 3 := by omega
  generalize n / 100 % 4 = x at *
  generalize n % 100 / 4 = y at *
  generalize n % 100 % 4 = z at *
  omega
theorem mN_cast (n : Nat) : (mN n : Int) = mG n := by
  unfold mN mG
  have h := hN_cast n
  have h' := lN_cast n
  generalize hG n = d at *
  generalize hN n = d' at *
  generalize lG n = e at *
  generalize lN n = e' at *
  omega
theorem e0N_cast (n : Nat) (hn : n ≤ 4096) : (e0N n : Int) = e0G ((n : Int) % 19 + 1) n := by
  unfold e0N e0G
  have e1 : (n : Int) / 100 = ((n / 100 : Nat) : Int) := by omega
  have e2 : (n : Int) % 19 = ((n % 19 : Nat) : Int) := by omega
  have hb : n / 100 ≤ 40 := by omega
  rw [e1, e2]
  generalize n % 19 = a
  generalize n / 100 = b at *
  have e3 : (8 * ((b : Int) + 1) + 5) / 25 = (((8 * (b + 1) + 5) / 25 : Nat) : Int) := by omega
  have e4 : 3 * ((b : Int) + 1) / 4 = ((3 * (b + 1) / 4 : Nat) : Int) := by omega
  rw [e3, e4]
  have h4 : 3 * (b + 1) / 4 ≤ 31 := by omega
  generalize (8 * (b + 1) + 5) / 25 = p at *
  generalize 3 * (b + 1) / 4 = q at *
  omega
theorem eN_cast (n : Nat) (hn : n ≤ 4096) : (eN n : Int) = ep 1 ((n : Int) % 19 + 1) n := by
  unfold eN ep adjG
  have h := e0N_cast n hn
  rw [if_neg (show ¬ (1 : Int) = 0 by omega)]
  generalize e0G ((n : Int) % 19 + 1) n = a at *
  generalize e0N n = b at *
  split <;> split <;> omega
theorem mooN_cast (n : Nat) (hn : n ≤ 4096) : (mooN n : Int) = moonOff 1 n := by
  unfold mooN moonOff moonN
  have h := eN_cast n hn
  have hb : eN n ≤ 30 := by
    unfold eN
    have : e0N n < 30 := by unfold e0N; omega
    split <;> omega
  rw [if_neg (show ¬ (1 : Int) = 0 by omega)]
  generalize ep 1 ((n : Int) % 19 + 1) n = a at *
  generalize eN n = b at *
  split <;> split <;> omega
theorem moonOff_jul (y : Int) : moonOff 0 y = 20 + dJ y := by
  unfold moonOff moonN dJ
  rw [if_pos rfl]
  omega
theorem easter_fact_at {c y : Int} (hc : c = 0 ∨ c = 1) (h1 : 1 ≤ y) (h2 : y ≤ 4000) : 114 ≤ sumE c y ∧ sumE c y ≤ 148 ∧ moonOff c y + 1 ≤ sumE c y - 93 ∧ sumE c y - 93 ≤ moonOff c y + 7 ∧ (march c y + (sumE c y - 93)) % 7 = 0 := by
  obtain ⟨n, rfl⟩ := Int.eq_ofNat_of_zero_le (show 0 ≤ y by omega)
  have hb := before_2 (y := (n : Int)) hc
  unfold march
  rw [hb]
  rcases hc with rfl | rfl
  · have k := all2_at allJ (n := n) (by omega) (by have : (2 : Nat) ^ 12 = 4096 := rfl; omega)
    simp only [chkJ, Bool.and_eq_true, Nat.ble_eq] at k
    obtain ⟨⟨⟨k1, k2⟩, k3⟩, k4⟩ := k
    have k3 := Nat.eq_of_beq_eq_true k3
    have e1 := sN_cast n
    have e2 := dN_cast n
    have e6 : ((n : Int) - 1) / 4 = (((n - 1) / 4 : Nat) : Int) := by omega
    rw [moonOff_jul, first_jul, e6]
    generalize (n - 1) / 4 = q4 at *
    have e3 : sumE 0 n = sumJ n := by unfold sumE; rw [if_pos rfl]
    rw [e3]
    clear hb e3
    generalize sumJ n = s at *
    generalize dJ n = d at *
    generalize sN n = s' at *
    generalize dN n = d' at *
    by_cases hl : leapP 0 n
    · rw [if_pos hl]
      rw [leap_jul] at hl
      rw [if_pos (by omega)] at k3
      omega
    · rw [if_neg hl]
      rw [leap_jul] at hl
      rw [if_neg (by omega)] at k3
      omega
  · have k := all2_at allG (n := n) (by omega) (by have : (2 : Nat) ^ 12 = 4096 := rfl; omega)
    simp only [chkG, Bool.and_eq_true, Nat.ble_eq] at k
    obtain ⟨⟨⟨⟨k0, k1⟩, k2⟩, k3⟩, k4⟩ := k
    have k3 := Nat.eq_of_beq_eq_true k3
    have e1 := hN_cast n
    have e2 := lN_cast n
    have e4 := mN_cast n
    have e5 := mooN_cast n (by omega)
    have e6 : ((n : Int) - 1) / 4 = (((n - 1) / 4 : Nat) : Int) := by omega
    have e7 : ((n : Int) - 1) / 100 = (((n - 1) / 100 : Nat) : Int) := by omega
    have e8 : ((n : Int) - 1) / 400 = (((n - 1) / 400 : Nat) : Int) := by omega
    have e9 : (n - 1) / 100 ≤ (n - 1) / 4 := by omega
    rw [first_gre, e6, e7, e8]
    clear e6 e7 e8
    generalize (n - 1) / 4 = q4 at *
    generalize (n - 1) / 100 = q100 at *
    generalize (n - 1) / 400 = q400 at *
    have e3 : sumE 1 n = sumG n := by unfold sumE; rw [if_neg (by omega)]
    rw [e3]
    unfold sumG
    unfold tN at k1 k2 k3 k4
    clear hb e3
    generalize hG n = s at *
    generalize lG n = d at *
    generalize mG n = m at *
    generalize hN n = s' at *
    generalize lN n = d' at *
    generalize mN n = m' at *
    generalize moonOff 1 n = o at *
    generalize mooN n = o' at *
    by_cases hl : leapP 1 n
    · rw [if_pos hl]
      rw [leap_gre] at hl
      rw [if_pos (by omega)] at k3
      omega
    · rw [if_neg hl]
      rw [leap_gre] at hl
      rw [if_neg (by omega)] at k3
      omega
def easL (c y : Int) : Int := first c y + before c y (sumE c y / 31 - 1).toNat + (sumE c y % 31 + 1) - 1
end Go.Proofs.YtilpencbbdpgfaaGreatDoor.ctr
