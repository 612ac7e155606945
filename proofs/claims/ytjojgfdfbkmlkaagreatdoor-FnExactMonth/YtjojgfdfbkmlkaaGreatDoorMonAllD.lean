/- The days of a month of a year: plain facts, the model's Month, the program's nearYear, daysNear and Month. -/
import Derived.Test.YtjojgfdfbkmlkaaGreatDoorJnDbj
import Derived.Test.YtjojgfdfbkmlkaaGreatDoorJnDxo
import Derived.Test.YtjojgfdfbkmlkaaGreatDoorJnDbh
import Derived.PlainAid
import Derived.Lib.MinMax
namespace Go.Proofs.YtjojgfdfbkmlkaaGreatDoor.ctr
open Go.RowKit
set_option linter.unusedSimpArgs false
section
variable {P : Program} {ops : Array Oper} {Q : Exit → Act → World → Prop}
theorem run_append_nilr (w : World) (t ty e : TypeId) (i : TypeInfo) (ht : P.underlying t = some (.slice e)) (hi : P.info? e = some i) {base size : Nat} {v : Value} {n c : Nat} {xs : List Value} (h : w.ownsRow base e size v n xs) : (Builtin.append_ #[t, t] ty #[v, .slice none 0 c]).run P w = .ok v w := by
  rcases h.2 with ⟨rfl, h0⟩ | ⟨g, cap, cur, rfl, hb, hh, hcap, _⟩
  · simp [Builtin.append_, run_underlying ht, sizeOf, typeInfo, hi, Builtin.lenOf, Builtin.firstCells]
  · simp [Builtin.append_, run_underlying ht, sizeOf, typeInfo, hi, Builtin.lenOf, hcap, Builtin.firstCells, storeCells]
end
theorem own_reads {W : World} {base size n : Nat} {T : TypeId} {v : Value} {xs : List Value} (h : W.ownsRow base T size v n xs) : ∃ ad c, v = .slice ad n c ∧ (ad = none → n = 0) ∧ ∀ ad', ad = some ad' → ∀ j u, xs[j]? = some u → W.cell? (ad'.add j) = some u := by
  rcases h.2 with ⟨rfl, h0⟩ | ⟨g, cap, cur, rfl, _⟩
  · exact ⟨none, 0, by rw [h0], fun _ => h0, fun _ e => by cases e⟩
  · exact ⟨_, cap, rfl, (fun e => by cases e), (fun ad' e j u hj => by cases e; exact h.cells (g := g) rfl j u hj)⟩
end Go.Proofs.YtjojgfdfbkmlkaaGreatDoor.ctr
namespace Go.Proofs.YtjojgfdfbkmlkaaGreatDoor.ctr
open Go.RowKit
def ymB (y m : Int) (x : Rdg) : Bool := x.year == y && x.mon == m
noncomputable def monthDaysOf (r : Rgm) (y m : Int) : List Int := if regimeB r = true ∧ 1 ≤ y ∧ y ≤ 3000 then daysWhere r.fr r.to (fun n => ymB y m (rdgOn r n)) else []
theorem ym_year {y m : Int} {x : Rdg} (h : ymB y m x = true) : x.year = y := by
  unfold ymB at h
  simp only [Bool.and_eq_true, beq_iff_eq] at h
  exact h.1
theorem month_len (r : Rgm) (y m : Int) : (monthDaysOf r y m).length ≤ 1090000 := by
  unfold monthDaysOf
  split
  · rename_i h
    exact right_len h.1 _
  · simp
def nearF (s : Seg) (y : Int) : Int := max s.fr (first s.cal (y - 1) - s.off)
def nearT (s : Seg) (y : Int) : Int := min s.to (first s.cal (y + 2) - 1 - s.off)
theorem span_in_near {s : Seg} (hs : segOkB s = true) {y : Int} (y1 : 1 ≤ y) (y2 : y ≤ 3000) : nearF s y ≤ spanF s y ∧ spanT s y ≤ nearT s y := by
  obtain ⟨n1, n2, n3, n4, n7, n5, n6⟩ := segOk_nums hs
  have hst : styleP s.sty := of_decide_eq_true n7
  have a := start_in (y := y) n4 hst y1 (by omega)
  have b := start_in (y := y + 1) n4 hst (by omega) (by omega)
  rw [show y + 1 + 1 = y + 2 by omega] at b
  unfold nearF nearT spanF spanT
  omega
theorem near_in (s : Seg) (y : Int) : s.fr ≤ nearF s y ∧ nearT s y ≤ s.to := by
  unfold nearF nearT
  omega
section
variable {r : Rgm} {p : Int → Bool} {y : Int} {xs ds : List Int} {i : Nat} {n : Int}
def SgN (s : Seg) (p : Int → Bool) (n z : Int) : Prop := (s.fr ≤ z ∧ z ≤ s.to ∧ z < n) ∧ p z = true
theorem sn_open (hr : regimeB r = true) (hi : i < r.segs.length) (y1 : 1 ≤ y) (y2 : y ≤ 3000) (hp : ∀ z, p z = true → (rdgOn r z).year = y) : DSet [] (SgN (atK segK r.segs i) p (nearF (atK segK r.segs i) y)) := by
  refine dset_nil (fun z h => ?_)
  obtain ⟨⟨h1, h2, h3⟩, h4⟩ := h
  have a := (year_span hr hi h1 h2 y1 y2).1 (hp z h4)
  have b := span_in_near (right_seg hr hi).1 y1 y2
  omega
theorem sn_miss {s : Seg} (hp : p n = false) (h : DSet xs (SgN s p n)) : DSet xs (SgN s p (n + 1)) := by
  refine h.imp (fun z => ⟨fun k => ⟨⟨k.1.1, k.1.2.1, by have := k.1.2.2; omega⟩, k.2⟩, fun k => ?_⟩)
  obtain ⟨⟨h1, h2, h3⟩, h4⟩ := k
  by_cases e : z = n
  · subst e
    rw [hp] at h4
    cases h4
  · exact ⟨⟨h1, h2, by omega⟩, h4⟩
theorem sn_hit {s : Seg} (h1 : s.fr ≤ n) (h2 : n ≤ s.to) (hp : p n = true) (h : DSet xs (SgN s p n)) : DSet (xs ++ [n]) (SgN s p (n + 1)) := by
  refine h.snoc (fun z k => k.1.2.2) (fun z => ⟨fun k => ?_, fun k => ?_⟩)
  · obtain ⟨⟨k1, k2, k3⟩, k4⟩ := k
    by_cases e : z = n
    · exact .inr e
    · exact .inl ⟨⟨k1, k2, by omega⟩, k4⟩
  · rcases k with ⟨⟨k1, k2, k3⟩, k4⟩ | rfl
    · exact ⟨⟨k1, k2, by omega⟩, k4⟩
    · exact ⟨⟨h1, h2, by omega⟩, hp⟩
theorem sn_close (hr : regimeB r = true) (hi : i < r.segs.length) (y1 : 1 ≤ y) (y2 : y ≤ 3000) (hp : ∀ z, p z = true → (rdgOn r z).year = y) (hn : nearT (atK segK r.segs i) y < n) (h : DSet xs (SgN (atK segK r.segs i) p n)) : xs = daysWhere (atK segK r.segs i).fr (atK segK r.segs i).to p := by
  refine h.eq ((daysWhere_set _ _ p).imp (fun z => ⟨fun k => ?_, fun k => ⟨k.1.1, k.1.2.1, k.2⟩⟩))
  have a := (year_span hr hi k.1 k.2.1 y1 y2).1 (hp z k.2.2)
  have b := span_in_near (right_seg hr hi).1 y1 y2
  exact ⟨⟨k.1, k.2.1, by omega⟩, k.2.2⟩
theorem sn_len {s : Seg} (hs : segOkB s = true) (h : DSet xs (SgN s p n)) : xs.length ≤ 1090000 := by
  obtain ⟨n1, n2, n3, _⟩ := segOk_nums hs
  have := dset_len h (a := 400) (b := 1090000) (fun z k => by have := k.1; omega)
  omega
theorem sg_join (hr : regimeB r = true) (hi : i < r.segs.length) (h : DSet xs (SgO r p i)) : DSet (xs ++ daysWhere (atK segK r.segs i).fr (atK segK r.segs i).to p) (SgO r p (i + 1)) := by
  have k := daysWhere_set (atK segK r.segs i).fr (atK segK r.segs i).to p
  refine ⟨List.pairwise_append.2 ⟨h.1, k.1, fun a ha b hb => ?_⟩, fun z => ?_⟩
  · obtain ⟨⟨j, hj, j1, j2⟩, _⟩ := (h.2 a).1 ha
    have := (k.2 b).1 hb
    have := right_far hr hj hi
    omega
  · rw [List.mem_append, h.2, k.2]
    constructor
    · rintro (⟨⟨j, hj, j1, j2⟩, j3⟩ | ⟨j1, j2, j3⟩)
      · exact ⟨⟨j, by omega, j1, j2⟩, j3⟩
      · exact ⟨⟨i, by omega, j1, j2⟩, j3⟩
    · rintro ⟨⟨j, hj, j1, j2⟩, j3⟩
      by_cases e : j = i
      · subst e
        exact .inr ⟨j1, j2, j3⟩
      · exact .inl ⟨⟨j, by omega, j1, j2⟩, j3⟩
theorem so_len (hr : regimeB r = true) (hi : i ≤ r.segs.length) (h : DSet xs (SgO r p i)) : xs.length ≤ 1090000 := by
  have := dset_len h (a := 400) (b := 1090000) (fun z k => by
    obtain ⟨⟨j, hj, j1, j2⟩, _⟩ := k
    have := segOk_nums (right_seg hr (k := j) (by omega)).1
    omega)
  omega
end
end Go.Proofs.YtjojgfdfbkmlkaaGreatDoor.ctr
namespace Go.Proofs.YtjojgfdfbkmlkaaGreatDoor.ctr
open Go.RowKit
set_option maxHeartbeats 2000000 in
theorem specSpanNo (s : Seg) (y : Int) (w : World) (hy : ¬ (1 ≤ y ∧ y ≤ 3000)) : Calls Tryz.prog 79 #[segV s, .int .i64 y] w fun e w' => e = .returned (.tuple #[.int .i64 1, .int .i64 0]) ∧ Below w.heap.size w w' := by
  have KY : ∀ W, Calls Tryz.prog 136 #[.int .i64 s.cal, .int .i64 y] W fun e w' => e = .returned (.bool false) ∧ w' = W := fun W => by
    have q := specYearOk s.cal y W
    rw [show yearB s.cal y = false by unfold yearB; exact decide_eq_false (fun k => hy ⟨k.2.1, k.2.2⟩)] at q
    exact q
  obtain ⟨W0, hW0, hC, hBl⟩ := box_any w #[.int .i64 s.fr, .int .i64 s.to, .int .i64 s.cal, .int .i64 s.sty, .int .i64 s.off] 92
  have c2 : ∀ x : Later W0, x.w.cell? ⟨w.heap.size, 2, none⟩ = some (.int .i64 s.cal) := fun x => (hC x).cell 2 rfl
  have HW0 := hideP hW0
  have HBl := hideP hBl
  clear hW0 hC hBl hy
  go_enter Tryz.func79, Tryz.ntmps79
  go_wp2_with fail
  rw [← HW0.out]
  refine (KY _).mono ?_
  rintro e w1 ⟨rfl, hw1⟩
  rw [hw1]
  clear hw1 w1
  go_wp2
  go_returns
  exact ⟨rfl, HBl.out ⟨W0, Below.refl _ _⟩⟩
set_option maxRecDepth 100000 in
set_option maxHeartbeats 8000000 in
theorem specDaysOfMonth (v : Value) (r : Rgm) (y m : Int) (w : World) (h : GRow w v r) (hf : -9223372036854775808 ≤ r.fr) (ht : r.to ≤ 9223372036854775807) : Calls Tryz.prog 25 #[v, .int .i64 y, .int .i64 m] w fun e w' => ∃ o, e = .returned o ∧ MovRow w w' o (monthDaysOf r y m) ∧ Below w.heap.size w w' := by
  obtain ⟨i0, hi, hz0, hz1, hz2⟩ := info_parts info_int
  have hG := h
  obtain ⟨v1, v2, v3, rfl, _, x1, x2, x3⟩ := h
  obtain ⟨a1, c1, rfl, _, hc1, hcS⟩ := x1
  obtain ⟨W0, hW0, hD, hBl⟩ := box_any w #[.string r.name, .int .i64 r.fr, .int .i64 r.to, .slice a1 r.segs.length c1, v2, v3, .int .i64 r.rule] 36
  have cr0 : ∀ x : Later W0, x.w.cell? ⟨w.heap.size, 0, none⟩ = some (.string r.name) := fun x => (hD x).cell 0 rfl
  have cr1 : ∀ x : Later W0, x.w.cell? ⟨w.heap.size, 1, none⟩ = some (.int .i64 r.fr) := fun x => (hD x).cell 1 rfl
  have cr2 : ∀ x : Later W0, x.w.cell? ⟨w.heap.size, 2, none⟩ = some (.int .i64 r.to) := fun x => (hD x).cell 2 rfl
  have cr3 : ∀ x : Later W0, x.w.cell? ⟨w.heap.size, 3, none⟩ = some (.slice a1 r.segs.length c1) := fun x => (hD x).cell 3 rfl
  have cr4 : ∀ x : Later W0, x.w.cell? ⟨w.heap.size, 4, none⟩ = some (v2) := fun x => (hD x).cell 4 rfl
  have cr5 : ∀ x : Later W0, x.w.cell? ⟨w.heap.size, 5, none⟩ = some (v3) := fun x => (hD x).cell 5 rfl
  have cr6 : ∀ x : Later W0, x.w.cell? ⟨w.heap.size, 6, none⟩ = some (.int .i64 r.rule) := fun x => (hD x).cell 6 rfl
  have KO : ∀ x : Later W0, Calls Tryz.prog 57 #[.agg #[.string r.name, .int .i64 r.fr, .int .i64 r.to, .slice a1 r.segs.length c1, v2, v3, .int .i64 r.rule]] x.w fun e w' => e = .returned (.bool (regimeB r)) ∧ Below x.w.heap.size x.w w' := fun x => specRegimeOk _ r x.w (hG.below (hBl x)) hf ht
  have KM : Hid (regimeB r = true → ∀ (n : Int) (x : Later W0), r.fr ≤ n → n ≤ r.to → Calls Tryz.prog 59 #[.agg #[.string r.name, .int .i64 r.fr, .int .i64 r.to, .slice a1 r.segs.length c1, v2, v3, .int .i64 r.rule], .int .i64 n] x.w fun e w' => e = .returned (.tuple #[rdgV (rdgOn r n), .bool true]) ∧ Below x.w.heap.size x.w w') := fun a1 n x q1 q2 => specRead _ r n x.w (hG.below (hBl x)) a1 q1 q2
  have HS : Hid (∀ (V : World), Below W0.heap.size W0 V → ∀ k, k < r.segs.length → ∃ g, a1 = some ⟨g, 0, none⟩ ∧ IAt segK V g k (atK segK r.segs k)) := fun V hb k hk => by
    obtain ⟨g, e, hg, x⟩ := hcS k hk
    exact ⟨g, e, x.below (hBl ⟨V, hb⟩) hg⟩
  have HW0 := hideP hW0
  have HB0 : Hid (Below w.heap.size w W0) := hBl ⟨W0, Below.refl _ _⟩
  clear hW0 hBl hD hcS hG hf ht x2 x3 hc1
  have S0 : Hid (ISt W0 (.slice (some ⟨W0.heap.size, 0, none⟩) 0 0) [] (W0.alloc (.cells #[] 3))) := ⟨iown_empty W0 _, (Below.refl _ _).alloc (Nat.le_refl _) _⟩
  obtain ⟨xE, hxE⟩ : ∃ xE : Later W0, W0.alloc (.cells #[] 3) = xE.w := ⟨⟨_, S0.out.below⟩, rfl⟩
  have HxE := hideP hxE
  rw [hxE] at S0
  clear hxE
  have HSz : Hid (w.heap.size + 1 = W0.heap.size) := by unfold Hid; rw [HW0.out, World.size_alloc]
  by_cases hO : regimeB r = true
  case neg =>
    have hO' : regimeB r = false := by simpa using hO
    rw [show monthDaysOf r y m = [] by unfold monthDaysOf; rw [if_neg (fun q => hO q.1)]]
    rw [hO'] at KO
    clear KM hO hO'
    by_cases hl : r.segs.length = 0
    · have hl' : ¬ (0 : Int) < (r.segs.length : Int) := by omega
      clear hl
      go_enter Tryz.func25, Tryz.ntmps25
      go_upto_region 2 with fail
      rw [← HW0.out, HxE.out]
      rw [HSz.out]
      go_wp2_with fail
      go_loopw [7, 8] (fun o i wr => i = .int .i64 0 ∧ ISt W0 o [] wr) (fun _ _ _ => 0)
      case atStart => exact ⟨rfl, S0.out⟩
      case round =>
        obtain ⟨rfl, hS⟩ := hrel
        have S := hideP hS
        have d3 := cr3 ⟨wr, S.out.below⟩
        dsimp only at d3
        clear hS S0
        go_wp2_with fail
        go_ret
        exact ⟨_, rfl, S.out.done HB0.out⟩
    · have hl' : (0 : Int) < (r.segs.length : Int) := by omega
      clear hl
      go_enter Tryz.func25, Tryz.ntmps25
      go_upto_region 2 with fail
      rw [← HW0.out, HxE.out]
      rw [HSz.out]
      go_wp2_with fail
      go_loopw [7, 8] (fun o i wr => i = .int .i64 0 ∧ ISt W0 o [] wr) (fun _ _ _ => 0)
      case atStart => exact ⟨rfl, S0.out⟩
      case round =>
        obtain ⟨rfl, hS⟩ := hrel
        have S := hideP hS
        have K := KO ⟨wr, S.out.below⟩
        have d0 := cr0 ⟨_, S.out.below⟩
        have d1 := cr1 ⟨_, S.out.below⟩
        have d2 := cr2 ⟨_, S.out.below⟩
        have d3 := cr3 ⟨_, S.out.below⟩
        have d4 := cr4 ⟨_, S.out.below⟩
        have d5 := cr5 ⟨_, S.out.below⟩
        have d6 := cr6 ⟨_, S.out.below⟩
        dsimp only at d0 d1 d2 d3 d4 d5 d6
        dsimp only at K
        clear hS S0 KO
        go_wp2_with fail
        refine K.mono ?_
        rintro e w1 ⟨rfl, hb⟩
        have S1 := hideP (S.out.later hb)
        clear hb
        go_wp2
        go_ret
        exact ⟨_, rfl, S1.out.done HB0.out⟩
  have hlen := right_segs hO
  have hl0 : (0 : Int) < (r.segs.length : Int) := by omega
  have HO := hideP hO
  simp only [hO] at KO
  have KM1 := hideP (KM.out hO)
  obtain ⟨gs, rfl, _⟩ := HS.out W0 (Below.refl _ _) 0 (by omega)
  have HS' : Hid (∀ (V : World), Below W0.heap.size W0 V → ∀ k, k < r.segs.length → IAt segK V gs k (atK segK r.segs k)) := fun V hb k hk => by
    obtain ⟨g, e, x⟩ := HS.out V hb k hk
    cases e
    exact x
  clear KM HS
  by_cases hy : 1 ≤ y ∧ y ≤ 3000
  case neg =>
    rw [show monthDaysOf r y m = [] by unfold monthDaysOf; rw [if_neg (fun q => hy q.2)]]
    clear hO
    go_enter Tryz.func25, Tryz.ntmps25
    go_upto_region 2 with fail
    rw [← HW0.out, HxE.out]
    rw [HSz.out]
    go_wp2_with fail
    go_loopw [7, 8] (fun o i wr => ∃ j : Nat, j ≤ r.segs.length ∧ i = .int .i64 (j : Int) ∧ ISt W0 o [] wr) (fun _ i _ => ((r.segs.length : Int) - intOf i).toNat)
    case atStart => exact ⟨0, Nat.zero_le _, rfl, S0.out⟩
    case round =>
      obtain ⟨j, hj, rfl, hS⟩ := hrel
      have S := hideP hS
      clear hS S0
      have d0 := cr0 ⟨_, S.out.below⟩
      have d1 := cr1 ⟨_, S.out.below⟩
      have d2 := cr2 ⟨_, S.out.below⟩
      have d3 := cr3 ⟨_, S.out.below⟩
      have d4 := cr4 ⟨_, S.out.below⟩
      have d5 := cr5 ⟨_, S.out.below⟩
      have d6 := cr6 ⟨_, S.out.below⟩
      dsimp only at d0 d1 d2 d3 d4 d5 d6
      by_cases hlt : (j : Int) < (r.segs.length : Int)
      case neg =>
        obtain rfl : j = r.segs.length := by omega
        go_wp2
        go_ret
        exact ⟨_, rfl, S.out.done HB0.out⟩
      have hjn : j < r.segs.length := by omega
      have K := KO ⟨wr, S.out.below⟩
      dsimp only at K
      go_wp2_with fail
      refine K.mono ?_
      rintro e w2 ⟨rfl, hb⟩
      have S2 := hideP (S.out.later hb)
      clear hb K d0 d1 d2 d3 d4 d5 d6
      have k3 := cr3 ⟨w2, S2.out.below⟩
      obtain ⟨g0, g1, g2, g3, g4⟩ := (HS'.out w2 S2.out.below j hjn).seg
      dsimp only at k3
      have KSp := specSpanNo (atK segK r.segs j) y w2 hy
      generalize atK segK r.segs j = s at *
      have KSp' : Calls Tryz.prog 79 #[.agg #[.int .i64 s.fr, .int .i64 s.to, .int .i64 s.cal, .int .i64 s.sty, .int .i64 s.off], .int .i64 y] w2 fun e w' => e = .returned (.tuple #[.int .i64 1, .int .i64 0]) ∧ Below w2.heap.size w2 w' := KSp
      clear KSp
      go_wp2_with fail
      refine KSp'.mono ?_
      rintro e w5 ⟨rfl, hb⟩
      have S5 := hideP (S2.out.later hb)
      clear hb k3 g0 g1 g2 g3 g4 KSp' S2
      go_wp2_with fail
      go_loopw [7, 11] (fun o i wr => i = .int .i64 1 ∧ ISt W0 o [] wr) (fun _ _ _ => 0)
      case atStart => exact ⟨rfl, S5.out⟩
      case round =>
        obtain ⟨rfl, hS⟩ := hrel
        have Z := hideP hS
        clear hS S5
        go_wp2
        exact ⟨⟨j + 1, by omega, by apply congrArg (Value.int .i64); omega, Z.out⟩, by simp [intOf]; omega⟩
  obtain ⟨y1, y2⟩ := hy
  rw [show monthDaysOf r y m = daysWhere r.fr r.to (fun n => ymB y m (rdgOn r n)) by unfold monthDaysOf; rw [if_pos ⟨hO, y1, y2⟩]]
  have HP : Hid (∀ z, (fun n => ymB y m (rdgOn r n)) z = true → (rdgOn r z).year = y) := fun z hz => ym_year hz
  have HM1 : Hid (∀ n j, j < r.segs.length → spanF (atK segK r.segs j) y ≤ n → n ≤ spanT (atK segK r.segs j) y → (fun n => ymB y m (rdgOn r n)) n = ((rdgOn r n).mon == m)) := fun n j hj q1 q2 => by
    have e := (year_span hO hj (n := n) (by have := span_near (atK segK r.segs j) y; omega) (by have := span_near (atK segK r.segs j) y; omega) y1 y2).2 ⟨q1, q2⟩
    show (((rdgOn r n).year == y) && ((rdgOn r n).mon == m)) = _
    rw [e, beq_self_eq_true, Bool.true_and]
  generalize (fun n => ymB y m (rdgOn r n)) = sB at *
  clear hO
  go_enter Tryz.func25, Tryz.ntmps25
  go_upto_region 2 with fail
  rw [← HW0.out, HxE.out]
  rw [HSz.out]
  go_wp2_with fail
  have SS := S0
  go_loopw [7, 8] (fun o i wr => ∃ (j : Nat) (xs : List Int), j ≤ r.segs.length ∧ i = .int .i64 (j : Int) ∧ Hid (DSet xs (SgO r sB j)) ∧ ISt W0 o xs wr) (fun _ i _ => ((r.segs.length : Int) - intOf i).toNat)
  case atStart => exact ⟨0, [], Nat.zero_le _, rfl, sg_nil, SS.out⟩
  case round =>
    obtain ⟨j, xs, hj, rfl, hDS, hS⟩ := hrel
    have S := hideP hS
    clear hS SS S0
    have d0 := cr0 ⟨_, S.out.below⟩
    have d1 := cr1 ⟨_, S.out.below⟩
    have d2 := cr2 ⟨_, S.out.below⟩
    have d3 := cr3 ⟨_, S.out.below⟩
    have d4 := cr4 ⟨_, S.out.below⟩
    have d5 := cr5 ⟨_, S.out.below⟩
    have d6 := cr6 ⟨_, S.out.below⟩
    dsimp only at d0 d1 d2 d3 d4 d5 d6
    by_cases hlt : (j : Int) < (r.segs.length : Int)
    case neg =>
      obtain rfl : j = r.segs.length := by omega
      have HX : Hid (xs = daysWhere r.fr r.to sB) := sg_all HO.out hDS.out
      clear hDS
      go_wp2
      go_ret
      exact ⟨_, rfl, by rw [← HX.out]; exact S.out.done HB0.out⟩
    have hjn : j < r.segs.length := by omega
    have K := KO ⟨wr, S.out.below⟩
    dsimp only at K
    go_wp2_with fail
    refine K.mono ?_
    rintro e w2 ⟨rfl, hb⟩
    have S2 := hideP (S.out.later hb)
    clear hb K d0 d1 d2 d3 d4 d5 d6
    have k3 := cr3 ⟨w2, S2.out.below⟩
    obtain ⟨g0, g1, g2, g3, g4⟩ := (HS'.out w2 S2.out.below j hjn).seg
    dsimp only at k3
    have KSp : Calls Tryz.prog 79 #[.agg #[.int .i64 (atK segK r.segs j).fr, .int .i64 (atK segK r.segs j).to, .int .i64 (atK segK r.segs j).cal, .int .i64 (atK segK r.segs j).sty, .int .i64 (atK segK r.segs j).off], .int .i64 y] w2 fun e w' => e = .returned (.tuple #[.int .i64 (spanF (atK segK r.segs j) y), .int .i64 (spanT (atK segK r.segs j) y)]) ∧ Below w2.heap.size w2 w' := specSpan (atK segK r.segs j) y w2 (right_seg HO.out hjn).1 y1 y2
    have hsn := span_near (atK segK r.segs j) y
    have hsk := right_seg HO.out hjn
    have hsk2 := segOk_nums hsk.1
    have HOp : Hid (DSet xs (SgP r sB j (spanF (atK segK r.segs j) y))) := sg_open HO.out hjn y1 y2 HP.out hDS.out
    have HCl : Hid (∀ (zs : List Int) (n : Int), spanT (atK segK r.segs j) y < n → DSet zs (SgP r sB j n) → DSet zs (SgO r sB (j + 1))) := fun zs n q1 q2 => sg_close HO.out hjn y1 y2 HP.out q1 q2
    have HHit : Hid (∀ (zs : List Int) (n : Int), spanF (atK segK r.segs j) y ≤ n → n ≤ spanT (atK segK r.segs j) y → sB n = true → DSet zs (SgP r sB j n) → DSet (zs ++ [n]) (SgP r sB j (n + 1))) := fun zs n q1 q2 q3 q4 => sg_hit HO.out hjn (by omega) (by omega) q3 q4
    have HMis : Hid (∀ (zs : List Int) (n : Int), sB n = false → DSet zs (SgP r sB j n) → DSet zs (SgP r sB j (n + 1))) := fun zs n q1 q2 => sg_miss q1 q2
    have HLen : Hid (∀ (zs : List Int) (n : Int), DSet zs (SgP r sB j n) → zs.length ≤ 1090000) := fun zs n q => sg_len HO.out hjn q
    have HMn : Hid (∀ n, spanF (atK segK r.segs j) y ≤ n → n ≤ spanT (atK segK r.segs j) y → sB n = ((rdgOn r n).mon == m)) := fun n q1 q2 => HM1.out n j hjn q1 q2
    have HRn : Hid (∀ n, spanF (atK segK r.segs j) y ≤ n → n ≤ spanT (atK segK r.segs j) y → r.fr ≤ n ∧ n ≤ r.to) := fun n q1 q2 => by omega
    have bF : 400 ≤ spanF (atK segK r.segs j) y := by omega
    have bT : spanT (atK segK r.segs j) y ≤ 1090000 := by omega
    clear hsn hsk hsk2 hDS
    generalize spanF (atK segK r.segs j) y = F at *
    generalize spanT (atK segK r.segs j) y = E at *
    generalize atK segK r.segs j = s at *
    go_wp2_with fail
    refine KSp.mono ?_
    rintro e w5 ⟨rfl, hb⟩
    have S5 := hideP (S2.out.later hb)
    clear hb k3 g0 g1 g2 g3 g4 KSp S2
    go_wp2_with fail
    go_loopw [7, 11] (fun o i wr => ∃ (n : Int) (zs : List Int), i = .int .i64 n ∧ F ≤ n ∧ Hid (DSet zs (SgP r sB j n)) ∧ ISt W0 o zs wr) (fun _ i _ => (E - intOf i + 1).toNat)
    case atStart => exact ⟨F, xs, rfl, Int.le_refl _, HOp, S5.out⟩
    case round =>
      obtain ⟨n, zs, rfl, hn1, hDZ, hS⟩ := hrel
      have Z := hideP hS
      clear hS S5
      by_cases hle : n ≤ E
      case neg =>
        have HN : Hid (DSet zs (SgO r sB (j + 1))) := HCl.out zs n (by omega) hDZ.out
        clear hDZ
        go_wp2
        exact ⟨⟨j + 1, zs, by omega, by apply congrArg (Value.int .i64); omega, HN, Z.out⟩, by simp [intOf]; omega⟩
      have hMn := HMn.out n hn1 hle
      obtain ⟨hr1, hr2⟩ := HRn.out n hn1 hle
      have K0 := KM1.out n ⟨_, Z.out.below⟩ hr1 hr2
      have hzl := HLen.out zs n hDZ.out
      have HHn : Hid (sB n = true → DSet (zs ++ [n]) (SgP r sB j (n + 1))) := fun q => HHit.out zs n hn1 hle q hDZ.out
      have HMs : Hid (sB n = false → DSet zs (SgP r sB j (n + 1))) := fun q => HMis.out zs n q hDZ.out
      rw [hMn] at HHn HMs
      clear hDZ hMn hr1 hr2
      generalize rdgOn r n = x at *
      obtain ⟨xc, xy, xs', xm, xd⟩ := x
      have K : Calls Tryz.prog 59 #[.agg #[.string r.name, .int .i64 r.fr, .int .i64 r.to, .slice (some ⟨gs, 0, none⟩) r.segs.length c1, v2, v3, .int .i64 r.rule], .int .i64 n] wr fun e w' => e = .returned (.tuple #[.agg #[.int .i64 xc, .int .i64 xy, .int .i64 xs', .int .i64 xm, .int .i64 xd], .bool true]) ∧ Below wr.heap.size wr w' := K0
      clear K0
      dsimp only at HHn HMs
      have d0 := cr0 ⟨_, Z.out.below⟩
      have d1 := cr1 ⟨_, Z.out.below⟩
      have d2 := cr2 ⟨_, Z.out.below⟩
      have d3 := cr3 ⟨_, Z.out.below⟩
      have d4 := cr4 ⟨_, Z.out.below⟩
      have d5 := cr5 ⟨_, Z.out.below⟩
      have d6 := cr6 ⟨_, Z.out.below⟩
      dsimp only at d0 d1 d2 d3 d4 d5 d6
      go_wp2_with fail
      refine K.mono ?_
      rintro e w6 ⟨rfl, hb⟩
      have Z1 := hideP (Z.out.later hb)
      clear hb K d0 d1 d2 d3 d4 d5 d6 Z
      obtain ⟨W2, hW2⟩ : ∃ W2, W2 = w6.alloc (.cells #[.int .i64 xc, .int .i64 xy, .int .i64 xs', .int .i64 xm, .int .i64 xd] 38) := ⟨_, rfl⟩
      have S2 : Hid (ISt W0 u7 zs W2) := by unfold Hid; rw [hW2]; exact Z1.out.later ((Below.refl _ _).alloc (Nat.le_refl _) _)
      have b3 : W2.cell? ⟨w6.heap.size, 3, none⟩ = some (.int .i64 xm) := by rw [hW2]; exact (Blk.new w6 _ _).cell 3 rfl
      have HW2 := hideP hW2
      clear hW2
      go_upto_region 10 with fail
      rw [← HW2.out]
      clear HW2 Z1
      cases hxm : (xm == m)
      · have HN := hideP (HMs.out hxm)
        clear HMs HHn
        go_wp2
        exact ⟨⟨n + 1, zs, rfl, by omega, HN.out, S2.out⟩, by simp [intOf]; omega⟩
      · have HN := hideP (HHn.out hxm)
        clear HMs HHn
        go_wp2_with (at_builtin; refine wpList_append_own _ rfl _ _ 30 rfl W0.heap.size 3 i0 (.int .i64 0) 1 8 Tryz.underlying30 hi hz0 hz1 hz2 rfl (by decide) _ _ _ rfl (S2.out.row.alloc _) ⟨W2.heap.size, 0, none⟩ 1 1 [.int .i64 n] rfl rfl (cell_one_new _ _ _) (by simp [Value.oneCell']) (by unfold maxLen; omega) (by omega) (by have := S2.out.below.size; rw [inew]; omega) ?_; intro v' w9 hown' hgrow _)
        exact ⟨⟨n + 1, zs ++ [n], rfl, by omega, HN.out, S2.out.app n hown' hgrow⟩, by simp [intOf]; omega⟩
end Go.Proofs.YtjojgfdfbkmlkaaGreatDoor.ctr
namespace Go.Proofs.YtjojgfdfbkmlkaaGreatDoor.ctr
open Go.RowKit
theorem lib_max (a b : Int) : (if b > a then b else a) = max a b := by omega
theorem lib_min (a b : Int) : (if b < a then b else a) = min a b := by omega
set_option maxHeartbeats 4000000 in
theorem implNear (s : Seg) (y : Int) (w : World) (hs : segOkB s = true) (y1 : 1 ≤ y) (y2 : y ≤ 3000) : Calls Tryz.prog 138 #[segV s, .int .i64 y] w fun e w' => e = .returned (.tuple #[.int .i64 (nearF s y), .int .i64 (nearT s y)]) ∧ Below w.heap.size w w' := by
  obtain ⟨n1, n2, n3, n4, n7, n5, n6⟩ := segOk_nums hs
  have bA := first_bound (c := s.cal) (y := y - 1) n4 (by omega) (by omega)
  have bB := first_bound (c := s.cal) (y := y + 2) n4 (by omega) (by omega)
  obtain ⟨W0, hW0, hC, hBl⟩ := box_any w #[.int .i64 s.fr, .int .i64 s.to, .int .i64 s.cal, .int .i64 s.sty, .int .i64 s.off] 92
  have K0 : ∀ W, Calls Tryz.prog 144 #[.int .i64 s.cal] W fun e w' => e = .returned (.iface (calT s.cal) (.agg #[])) ∧ w' = W := fun W => implCal s.cal n4 W
  have KE : ∀ z, Hid (-5 ≤ z ∧ z ≤ 4000) → ∀ W, Calls Tryz.prog 189 #[.iface (calT s.cal) (.agg #[]), .int .i64 z] W fun e w' => e = .returned (.int .i64 (first s.cal z - 1)) ∧ w' = W := fun z q W => implEve s.cal z W n4 q.out.1 q.out.2
  obtain ⟨F, hF⟩ : ∃ F, F = nearF s y := ⟨_, rfl⟩
  obtain ⟨E, hE⟩ : ∃ E, E = nearT s y := ⟨_, rfl⟩
  rw [← hF, ← hE]
  unfold nearF at hF
  unfold nearT at hE
  generalize first s.cal = fC at *
  have D0 : Below W0.heap.size W0 W0.drew := (Below.refl _ _).drew
  have c0 : ∀ x : Later W0, x.w.cell? ⟨w.heap.size, 0, none⟩ = some (.int .i64 s.fr) := fun x => (hC x).cell 0 rfl
  have c1 : ∀ x : Later W0, x.w.cell? ⟨w.heap.size, 1, none⟩ = some (.int .i64 s.to) := fun x => (hC x).cell 1 rfl
  have c2 : ∀ x : Later W0, x.w.cell? ⟨w.heap.size, 2, none⟩ = some (.int .i64 s.cal) := fun x => (hC x).cell 2 rfl
  have c4 : ∀ x : Later W0, x.w.cell? ⟨w.heap.size, 4, none⟩ = some (.int .i64 s.off) := fun x => (hC x).cell 4 rfl
  have k2 := c2 ⟨_, Below.refl _ _⟩
  dsimp only at k2
  have HW0 := hideP hW0
  have HBl := hideP hBl
  have KL : ∀ z, Hid (-5 ≤ z ∧ z ≤ 4000) → ∀ x : Later W0, Calls Tryz.prog 189 #[.iface (calT s.cal) (.agg #[]), .int .i64 z] x.w fun e w' => e = .returned (.int .i64 (fC z - 1)) ∧ Below x.w.heap.size x.w w' := fun z q x => (KE z q x.w).mono (by rintro e w' ⟨rfl, rfl⟩; exact ⟨rfl, Below.refl _ _⟩)
  clear hW0 hC hBl hs n7 c2 D0 KE
  generalize calT s.cal = ct at *
  have e1 : IntKind.i64.wrap (y - 1) = y - 1 := by rw [PlainAid.i64_is]; unfold wrap64; omega
  have e2 : IntKind.i64.wrap (y + 2) = y + 2 := by rw [PlainAid.i64_is]; unfold wrap64; omega
  go_enter Tryz.func138, Tryz.ntmps138
  go_wp2_with fail
  rw [← HW0.out]
  refine (K0 _).mono ?_
  rintro e w1 ⟨rfl, hw1⟩
  rw [hw1]
  clear hw1 w1 K0 k2
  go_upto_region 2 with fail
  refine wp_region_later (W := W0) (Below.refl _ _) (by kernel_rfl) (by kernel_rfl) ?_
  repeat (go_big_quiet_step (first | (go_at_call 189; exact calls_later (KL _ (by unfold Hid; omega) _)) | fail))
  refine wpQuiet_nil ?_
  intro _ hw'
  obtain ⟨x2, rfl⟩ := hw'
  go_wp2
  go_returns
  refine ⟨?_, HBl.out x2⟩
  rw [hF, hE]
  rfl
end Go.Proofs.YtjojgfdfbkmlkaaGreatDoor.ctr
namespace Go.Proofs.YtjojgfdfbkmlkaaGreatDoor.ctr
open Go.RowKit
set_option maxHeartbeats 2000000 in
theorem cloMonth (x : Rdg) (y m : Int) (p1 p2 : Nat) (w : World) (h1 : w.cell? ⟨p1, 0, none⟩ = some (.int .i64 y)) (h2 : w.cell? ⟨p2, 0, none⟩ = some (.int .i64 m)) : Calls Tryz.prog 80 #[rdgV x, .pointer (some ⟨p1, 0, none⟩), .pointer (some ⟨p2, 0, none⟩)] w fun e w' => e = .returned (.bool (ymB y m x)) ∧ Below w.heap.size w w' := by
  obtain ⟨xc, xy, xs, xm, xd⟩ := x
  have K : Calls Tryz.prog 80 #[.agg #[.int .i64 xc, .int .i64 xy, .int .i64 xs, .int .i64 xm, .int .i64 xd], .pointer (some ⟨p1, 0, none⟩), .pointer (some ⟨p2, 0, none⟩)] w fun e w' => e = .returned (.bool (xy == y && xm == m)) ∧ Below w.heap.size w w' := by
    obtain ⟨W0, hW0, hC, hBl⟩ := box_any w #[.int .i64 xc, .int .i64 xy, .int .i64 xs, .int .i64 xm, .int .i64 xd] 38
    have hB : Below w.heap.size w W0 := hBl ⟨W0, Below.refl _ _⟩
    have c1 : W0.cell? ⟨w.heap.size, 1, none⟩ = some (.int .i64 xy) := (hC ⟨W0, Below.refl _ _⟩).cell 1 rfl
    have c3 : W0.cell? ⟨w.heap.size, 3, none⟩ = some (.int .i64 xm) := (hC ⟨W0, Below.refl _ _⟩).cell 3 rfl
    have e1 : W0.cell? ⟨p1, 0, none⟩ = some (.int .i64 y) := Later.at h1 ⟨W0, hB⟩
    have e2 : W0.cell? ⟨p2, 0, none⟩ = some (.int .i64 m) := Later.at h2 ⟨W0, hB⟩
    have HW0 := hideP hW0
    have HB := hideP hB
    clear hW0 hB hC hBl h1 h2
    by_cases hy : xy = y
    · subst hy
      rw [beq_self_eq_true, Bool.true_and]
      go_enter Tryz.func80, Tryz.ntmps80
      go_upto_region 1 with fail
      rw [← HW0.out]
      go_wp2
      go_ret
      exact ⟨rfl, HB.out⟩
    · rw [show (xy == y) = false from by simpa using hy, Bool.false_and]
      go_enter Tryz.func80, Tryz.ntmps80
      go_upto_region 1 with fail
      rw [← HW0.out]
      go_wp2
      go_ret
      exact ⟨rfl, HB.out⟩
  exact K
set_option maxRecDepth 100000 in
set_option maxHeartbeats 8000000 in
theorem implDaysNear (r : Rgm) (v1 v2 v3 : Value) (k : Nat) (y m : Int) (p1 p2 : Nat) (w : World) (h : GRow w (.agg #[.string r.name, .int .i64 r.fr, .int .i64 r.to, v1, v2, v3, .int .i64 r.rule]) r) (hr : regimeB r = true) (hk : k < r.segs.length) (hT : Tab w) (y1 : 1 ≤ y) (y2 : y ≤ 3000) (h1 : w.cell? ⟨p1, 0, none⟩ = some (.int .i64 y)) (h2 : w.cell? ⟨p2, 0, none⟩ = some (.int .i64 m)) :
    Calls Tryz.prog 81 #[.agg #[.string r.name, .int .i64 r.fr, .int .i64 r.to, v1, v2, v3, .int .i64 r.rule], segV (atK segK r.segs k), .int .i64 y, .func (.func 80) #[] #[.pointer (some ⟨p1, 0, none⟩), .pointer (some ⟨p2, 0, none⟩)]] w fun e w' => ∃ o, e = .returned o ∧ ISt w o (daysWhere (atK segK r.segs k).fr (atK segK r.segs k).to (fun n => ymB y m (rdgOn r n))) w' := by
  obtain ⟨i0, hi, hz0, hz1, hz2⟩ := info_parts info_int
  have HP : ∀ z, (fun n => ymB y m (rdgOn r n)) z = true → (rdgOn r z).year = y := fun z hz => ym_year hz
  have hsk := right_seg hr hk
  have hsn := near_in (atK segK r.segs k) y
  have hsk2 := segOk_nums hsk.1
  have KR : Hid (∀ n V, Below w.heap.size w V → r.fr ≤ n → n ≤ r.to → Calls Tryz.prog 70 #[.agg #[.string r.name, .int .i64 r.fr, .int .i64 r.to, v1, v2, v3, .int .i64 r.rule], .int .i64 n] V fun e w' => e = .returned (rdgV (rdgOn r n)) ∧ Below V.heap.size V w') := fun n V hb q1 q2 => implReadingOn _ r n V (h.below hb) hr q1 q2 (hT.later hb)
  have KC : Hid (∀ x V, Below w.heap.size w V → Calls Tryz.prog 80 #[rdgV x, .pointer (some ⟨p1, 0, none⟩), .pointer (some ⟨p2, 0, none⟩)] V fun e w' => e = .returned (.bool (ymB y m x)) ∧ Below V.heap.size V w') := fun x V hb => cloMonth x y m p1 p2 V (Later.at h1 ⟨V, hb⟩) (Later.at h2 ⟨V, hb⟩)
  have KN : ∀ W, Calls Tryz.prog 138 #[segV (atK segK r.segs k), .int .i64 y] W fun e w' => e = .returned (.tuple #[.int .i64 (nearF (atK segK r.segs k) y), .int .i64 (nearT (atK segK r.segs k) y)]) ∧ Below W.heap.size W w' := fun W => implNear _ y W hsk.1 y1 y2
  obtain ⟨sB, hsB⟩ : ∃ sB : Int → Bool, sB = fun n => ymB y m (rdgOn r n) := ⟨_, rfl⟩
  rw [← hsB] at HP
  rw [← hsB]
  have HOp : Hid (DSet [] (SgN (atK segK r.segs k) sB (nearF (atK segK r.segs k) y))) := sn_open hr hk y1 y2 HP
  have HCl : Hid (∀ (zs : List Int) (n : Int), nearT (atK segK r.segs k) y < n → DSet zs (SgN (atK segK r.segs k) sB n) → zs = daysWhere (atK segK r.segs k).fr (atK segK r.segs k).to sB) := fun zs n q1 q2 => sn_close hr hk y1 y2 HP q1 q2
  have HHit : Hid (∀ (zs : List Int) (n : Int), nearF (atK segK r.segs k) y ≤ n → n ≤ nearT (atK segK r.segs k) y → sB n = true → DSet zs (SgN (atK segK r.segs k) sB n) → DSet (zs ++ [n]) (SgN (atK segK r.segs k) sB (n + 1))) := fun zs n q1 q2 q3 q4 => sn_hit (by omega) (by omega) q3 q4
  have HMis : Hid (∀ (zs : List Int) (n : Int), sB n = false → DSet zs (SgN (atK segK r.segs k) sB n) → DSet zs (SgN (atK segK r.segs k) sB (n + 1))) := fun zs n q1 q2 => sn_miss q1 q2
  have HLen : Hid (∀ (zs : List Int) (n : Int), DSet zs (SgN (atK segK r.segs k) sB n) → zs.length ≤ 1090000) := fun zs n q => sn_len hsk.1 q
  have HMn : Hid (∀ n, sB n = ymB y m (rdgOn r n)) := fun n => by rw [hsB]
  have HRn : Hid (∀ n, nearF (atK segK r.segs k) y ≤ n → n ≤ nearT (atK segK r.segs k) y → r.fr ≤ n ∧ n ≤ r.to) := fun n q1 q2 => by omega
  have bF : 400 ≤ nearF (atK segK r.segs k) y := by omega
  have bT : nearT (atK segK r.segs k) y ≤ 1090000 := by omega
  generalize daysWhere (atK segK r.segs k).fr (atK segK r.segs k).to sB = ds at *
  generalize nearF (atK segK r.segs k) y = F at *
  generalize nearT (atK segK r.segs k) y = E at *
  clear hsk hsn hsk2 HP hr hk hsB h hT h1 h2
  generalize SgN (atK segK r.segs k) sB = SN at *
  generalize atK segK r.segs k = s at *
  have KN' : ∀ W, Calls Tryz.prog 138 #[.agg #[.int .i64 s.fr, .int .i64 s.to, .int .i64 s.cal, .int .i64 s.sty, .int .i64 s.off], .int .i64 y] W fun e w' => e = .returned (.tuple #[.int .i64 F, .int .i64 E]) ∧ Below W.heap.size W w' := KN
  clear KN
  show Calls Tryz.prog 81 #[.agg #[.string r.name, .int .i64 r.fr, .int .i64 r.to, v1, v2, v3, .int .i64 r.rule], .agg #[.int .i64 s.fr, .int .i64 s.to, .int .i64 s.cal, .int .i64 s.sty, .int .i64 s.off], .int .i64 y, .func (.func 80) #[] #[.pointer (some ⟨p1, 0, none⟩), .pointer (some ⟨p2, 0, none⟩)]] w fun e w' => ∃ o, e = .returned o ∧ ISt w o ds w'
  obtain ⟨W0, hW0, hD, hR, hBl⟩ := two_box w #[.string r.name, .int .i64 r.fr, .int .i64 r.to, v1, v2, v3, .int .i64 r.rule] #[.int .i64 s.fr, .int .i64 s.to, .int .i64 s.cal, .int .i64 s.sty, .int .i64 s.off] 36 92
  have cr0 : ∀ x : Later W0, x.w.cell? ⟨w.heap.size, 0, none⟩ = some (.string r.name) := fun x => (hD x).cell 0 rfl
  have cr1 : ∀ x : Later W0, x.w.cell? ⟨w.heap.size, 1, none⟩ = some (.int .i64 r.fr) := fun x => (hD x).cell 1 rfl
  have cr2 : ∀ x : Later W0, x.w.cell? ⟨w.heap.size, 2, none⟩ = some (.int .i64 r.to) := fun x => (hD x).cell 2 rfl
  have cr3 : ∀ x : Later W0, x.w.cell? ⟨w.heap.size, 3, none⟩ = some (v1) := fun x => (hD x).cell 3 rfl
  have cr4 : ∀ x : Later W0, x.w.cell? ⟨w.heap.size, 4, none⟩ = some (v2) := fun x => (hD x).cell 4 rfl
  have cr5 : ∀ x : Later W0, x.w.cell? ⟨w.heap.size, 5, none⟩ = some (v3) := fun x => (hD x).cell 5 rfl
  have cr6 : ∀ x : Later W0, x.w.cell? ⟨w.heap.size, 6, none⟩ = some (.int .i64 r.rule) := fun x => (hD x).cell 6 rfl
  have s0 : W0.cell? ⟨w.heap.size + 1, 0, none⟩ = some (.int .i64 s.fr) := (hR ⟨W0, Below.refl _ _⟩).cell 0 rfl
  have s1 : W0.cell? ⟨w.heap.size + 1, 1, none⟩ = some (.int .i64 s.to) := (hR ⟨W0, Below.refl _ _⟩).cell 1 rfl
  have s2 : W0.cell? ⟨w.heap.size + 1, 2, none⟩ = some (.int .i64 s.cal) := (hR ⟨W0, Below.refl _ _⟩).cell 2 rfl
  have s3 : W0.cell? ⟨w.heap.size + 1, 3, none⟩ = some (.int .i64 s.sty) := (hR ⟨W0, Below.refl _ _⟩).cell 3 rfl
  have s4 : W0.cell? ⟨w.heap.size + 1, 4, none⟩ = some (.int .i64 s.off) := (hR ⟨W0, Below.refl _ _⟩).cell 4 rfl
  have HW0 := hideP hW0
  have HBl := hideP hBl
  clear hW0 hBl hD hR
  go_enter Tryz.func81, Tryz.ntmps81
  go_upto_region 1 with fail
  rw [← HW0.out]
  go_wp2_with fail
  refine (KN' _).mono ?_
  rintro e w5 ⟨rfl, hb⟩
  have S5 : Hid (ISt W0 (.slice none 0 0) [] w5) := (ISt.nil W0).later hb
  clear hb s0 s1 s2 s3 s4 KN'
  go_wp2_with fail
  go_loopw [9, 12] (fun o i wr => ∃ (n : Int) (zs : List Int), i = .int .i64 n ∧ F ≤ n ∧ Hid (DSet zs (SN n)) ∧ ISt W0 o zs wr) (fun _ i _ => (E - intOf i + 1).toNat)
  case atStart => exact ⟨F, [], rfl, Int.le_refl _, HOp, S5.out⟩
  case round =>
    obtain ⟨n, zs, rfl, hn1, hDZ, hS⟩ := hrel
    have Z := hideP hS
    clear hS S5
    by_cases hle : n ≤ E
    case neg =>
      have HN : Hid (zs = ds) := HCl.out zs n (by omega) hDZ.out
      have hZ := Z.out.done (HBl.out ⟨W0, Below.refl _ _⟩)
      clear hDZ
      go_wp2
      go_ret
      rw [← HN.out]
      exact ⟨_, rfl, ⟨own_mono1 Z.out.row (HBl.out ⟨W0, Below.refl _ _⟩).size, hZ.2⟩⟩
    obtain ⟨hr1, hr2⟩ := HRn.out n hn1 hle
    have K0 := KR.out n wr (HBl.out ⟨_, Z.out.below⟩) hr1 hr2
    have hzl := HLen.out zs n hDZ.out
    have HHn : Hid (sB n = true → DSet (zs ++ [n]) (SN (n + 1))) := fun q => HHit.out zs n hn1 hle q hDZ.out
    have HMs : Hid (sB n = false → DSet zs (SN (n + 1))) := fun q => HMis.out zs n q hDZ.out
    rw [HMn.out n] at HHn HMs
    clear hDZ hr1 hr2
    generalize rdgOn r n = x at *
    have d0 := cr0 ⟨_, Z.out.below⟩
    have d1 := cr1 ⟨_, Z.out.below⟩
    have d2 := cr2 ⟨_, Z.out.below⟩
    have d3 := cr3 ⟨_, Z.out.below⟩
    have d4 := cr4 ⟨_, Z.out.below⟩
    have d5 := cr5 ⟨_, Z.out.below⟩
    have d6 := cr6 ⟨_, Z.out.below⟩
    dsimp only at d0 d1 d2 d3 d4 d5 d6
    go_wp2_with fail
    refine K0.mono ?_
    rintro e w6 ⟨rfl, hb⟩
    have Z1 := hideP (Z.out.later hb)
    clear hb K0 d0 d1 d2 d3 d4 d5 d6 Z
    have K1 := KC.out x w6 (HBl.out ⟨_, Z1.out.below⟩)
    generalize ymB y m x = tb at *
    generalize rdgV x = xv at *
    go_wp2_with fail
    refine K1.mono ?_
    rintro e w7 ⟨rfl, hb⟩
    have Z2 := hideP (Z1.out.later hb)
    clear hb K1 Z1
    cases tb
    · have HN := hideP (HMs.out rfl)
      clear HMs HHn
      go_wp2
      exact ⟨⟨n + 1, zs, rfl, by omega, HN.out, Z2.out⟩, by simp [intOf]; omega⟩
    · have HN := hideP (HHn.out rfl)
      clear HMs HHn
      go_wp2_with (at_builtin; refine wpList_append_own _ rfl _ _ 30 rfl W0.heap.size 3 i0 (.int .i64 0) 1 8 Tryz.underlying30 hi hz0 hz1 hz2 rfl (by decide) _ _ _ rfl (Z2.out.row.alloc _) ⟨w7.heap.size, 0, none⟩ 1 1 [.int .i64 n] rfl rfl (cell_one_new _ _ _) (by simp [Value.oneCell']) (by unfold maxLen; omega) (by omega) (by have := Z2.out.below.size; rw [inew]; omega) ?_; intro v' w9 hown' hgrow _)
      exact ⟨⟨n + 1, zs ++ [n], rfl, by omega, HN.out, Z2.out.app n hown' hgrow⟩, by simp [intOf]; omega⟩
end Go.Proofs.YtjojgfdfbkmlkaaGreatDoor.ctr
namespace Go.Proofs.YtjojgfdfbkmlkaaGreatDoor.ctr
open Go.RowKit
set_option linter.unusedSimpArgs false
section
variable {P : Program} {ops : Array Oper} {Q : Exit → Act → World → Prop}
theorem wpList_append_any {rest : List Oper} {o : Oper} {a : Act} {w : World} (hgd : o.guard = none) (s x : Operand) (t : TypeId) (ho : o.op = .call { callee := .builtin .append, args := #[s, x], argTypes := #[t, t] })
    (base : Nat) (e : TypeId) (ti : TypeInfo) (z : Value) (size bytes : Nat) (ht : P.underlying t = some (.slice e)) (hti : P.info? e = some ti) (hz : ti.zero = some z)
    (hsize : ti.size = size) (hby : ti.bytes = bytes) (hzs : z.cells.size = size) (hsz : 0 < size)
    (v : Value) (n : Nat) (xs : List Value) (hs : a.eval s = v) (hown : w.ownsRow base e size v n xs)
    (ad : Option Addr) (m c : Nat) (news : List Value) (hx : a.eval x = .slice ad m c) (hl : news.length = m * size) (hm : ad = none → m = 0) (hnews : ∀ ad', ad = some ad' → ∀ j u, news[j]? = some u → w.cell? (ad'.add j) = some u) (h1 : ∀ u ∈ news, u.oneCell' = true)
    (h63 : n + m ≤ maxLen) (hbytes : (n + m) * bytes ≤ 140737488355328) (hbase : base ≤ w.heap.size)
    (h : ∀ v' w', w'.ownsRow base e size v' (n + m) (xs ++ news) → w.grownBy w' v.ownBlock → wpList P ops Q rest (a.put o.dst v') w') : wpList P ops Q (o :: rest) a w := by
  cases ad with
  | none =>
    obtain rfl := hm rfl
    obtain rfl : news = [] := List.eq_nil_of_length_eq_zero (by simpa using hl)
    refine wpList_plain hgd fun _ hK => ?_
    unfold Oper.wp execOp
    simp only [ho, resolve, invoke, builtin, Sem.run_bind, Sem.run_pure, Result.andThen_ok, List.map_toArray, List.map_cons, List.map_nil, hs, hx, run_append_nilr w t o.type e ti ht hti hown]
    refine hK _ _ (h _ _ (by rw [Nat.add_zero, List.append_nil]; exact hown) ?_)
    exact ⟨rfl, rfl, rfl, Nat.le_refl _, fun _ _ _ => rfl⟩
  | some ad => exact wpList_append_own w hgd s x t ho base e ti z size bytes ht hti hz hsize hby hzs hsz v n xs hs hown ad m c news hx hl (hnews ad rfl) h1 h63 hbytes hbase fun v' w' h2 h3 _ => h v' w' h2 h3
end
set_option maxHeartbeats 2000000 in
theorem implDaysNearNo (r : Rgm) (v1 v2 v3 f : Value) (s : Seg) (y : Int) (w : World) (hy : ¬ (1 ≤ y ∧ y ≤ 3000)) :
    Calls Tryz.prog 81 #[.agg #[.string r.name, .int .i64 r.fr, .int .i64 r.to, v1, v2, v3, .int .i64 r.rule], .agg #[.int .i64 s.fr, .int .i64 s.to, .int .i64 s.cal, .int .i64 s.sty, .int .i64 s.off], .int .i64 y, f] w fun e w' => e = .returned (.slice none 0 0) ∧ Below w.heap.size w w' := by
  obtain ⟨W0, hW0, _, _, hBl⟩ := two_box w #[.string r.name, .int .i64 r.fr, .int .i64 r.to, v1, v2, v3, .int .i64 r.rule] #[.int .i64 s.fr, .int .i64 s.to, .int .i64 s.cal, .int .i64 s.sty, .int .i64 s.off] 36 92
  have HB : Hid (Below w.heap.size w W0) := hBl ⟨W0, Below.refl _ _⟩
  have HW0 := hideP hW0
  clear hW0 hBl
  by_cases h1 : y < 1
  · clear hy
    go_enter Tryz.func81, Tryz.ntmps81
    go_upto_region 1 with fail
    rw [← HW0.out]
    go_wp2
    go_ret
    exact ⟨rfl, HB.out⟩
  · have h2 : 3000 < y := by omega
    clear hy
    go_enter Tryz.func81, Tryz.ntmps81
    go_upto_region 1 with fail
    rw [← HW0.out]
    go_wp2
    go_ret
    exact ⟨rfl, HB.out⟩
set_option maxRecDepth 100000 in
set_option maxHeartbeats 8000000 in
theorem implMonth (v : Value) (r : Rgm) (y m : Int) (q : Addr) (w : World) (h : GRow w v r) (ht : r.to ≤ 9223372036854775807) (hE : ErrT w) (hT : Tab w) (hS : Sent w q) : Calls Tryz.prog 26 #[v, .int .i64 y, .int .i64 m] w fun e w' => ∃ o, e = .returned o ∧ MovRow w w' o (monthDaysOf r y m) ∧ Below w.heap.size w w' := by
  obtain ⟨i0, hi, hz0, hz1, hz2⟩ := info_parts info_int
  have hG := h
  obtain ⟨v1, v2, v3, rfl, _, x1, x2, x3⟩ := h
  obtain ⟨a1, c1, rfl, _, hc1, hcS⟩ := x1
  obtain ⟨W1, hW1, hD, hR, hBl1⟩ := two_box w #[.string r.name, .int .i64 r.fr, .int .i64 r.to, .slice a1 r.segs.length c1, v2, v3, .int .i64 r.rule] #[.int .i64 y] 36 3
  obtain ⟨W0, hW0, hC, hBl2⟩ := box_any W1 #[.int .i64 m] 3
  have hsz1 : W1.heap.size = w.heap.size + 1 + 1 := by rw [hW1, World.size_alloc, World.size_alloc]
  rw [hsz1] at hC
  have up : ∀ x : Later W0, Below W1.heap.size W1 x.w := hBl2
  have hBl : ∀ x : Later W0, Below w.heap.size w x.w := fun x => hBl1 ⟨x.w, up x⟩
  have cr0 : ∀ x : Later W0, x.w.cell? ⟨w.heap.size, 0, none⟩ = some (.string r.name) := fun x => (hD ⟨x.w, up x⟩).cell 0 rfl
  have cr1 : ∀ x : Later W0, x.w.cell? ⟨w.heap.size, 1, none⟩ = some (.int .i64 r.fr) := fun x => (hD ⟨x.w, up x⟩).cell 1 rfl
  have cr2 : ∀ x : Later W0, x.w.cell? ⟨w.heap.size, 2, none⟩ = some (.int .i64 r.to) := fun x => (hD ⟨x.w, up x⟩).cell 2 rfl
  have cr3 : ∀ x : Later W0, x.w.cell? ⟨w.heap.size, 3, none⟩ = some (.slice a1 r.segs.length c1) := fun x => (hD ⟨x.w, up x⟩).cell 3 rfl
  have cr4 : ∀ x : Later W0, x.w.cell? ⟨w.heap.size, 4, none⟩ = some (v2) := fun x => (hD ⟨x.w, up x⟩).cell 4 rfl
  have cr5 : ∀ x : Later W0, x.w.cell? ⟨w.heap.size, 5, none⟩ = some (v3) := fun x => (hD ⟨x.w, up x⟩).cell 5 rfl
  have cr6 : ∀ x : Later W0, x.w.cell? ⟨w.heap.size, 6, none⟩ = some (.int .i64 r.rule) := fun x => (hD ⟨x.w, up x⟩).cell 6 rfl
  have cy : ∀ x : Later W0, x.w.cell? ⟨w.heap.size + 1, 0, none⟩ = some (.int .i64 y) := fun x => (hR ⟨x.w, up x⟩).cell 0 rfl
  have cm : ∀ x : Later W0, x.w.cell? ⟨w.heap.size + 1 + 1, 0, none⟩ = some (.int .i64 m) := fun x => (hC x).cell 0 rfl
  have KO : ∀ x : Later W0, Calls Tryz.prog 65 #[.agg #[.string r.name, .int .i64 r.fr, .int .i64 r.to, .slice a1 r.segs.length c1, v2, v3, .int .i64 r.rule]] x.w fun e w' => e = .returned (.bool (regimeB r)) ∧ Below x.w.heap.size x.w w' := fun x => implRegimeOk _ r q x.w (hG.below (hBl x)) ht (hE.below (hBl x)) (hT.later (hBl x)) (hS.later (hBl x))
  have HS : Hid (∀ (V : World), Below W0.heap.size W0 V → ∀ k, k < r.segs.length → ∃ g, a1 = some ⟨g, 0, none⟩ ∧ IAt segK V g k (atK segK r.segs k)) := fun V hb k hk => by
    obtain ⟨g, e, hg, x⟩ := hcS k hk
    exact ⟨g, e, x.below (hBl ⟨V, hb⟩) hg⟩
  have k0 := cr0 ⟨W0, Below.refl _ _⟩
  have k1 := cr1 ⟨W0, Below.refl _ _⟩
  have k2 := cr2 ⟨W0, Below.refl _ _⟩
  have k3 := cr3 ⟨W0, Below.refl _ _⟩
  have k4 := cr4 ⟨W0, Below.refl _ _⟩
  have k5 := cr5 ⟨W0, Below.refl _ _⟩
  have k6 := cr6 ⟨W0, Below.refl _ _⟩
  dsimp only at k0 k1 k2 k3 k4 k5 k6
  have HW1 := hideP hW1
  have HW0 := hideP hW0
  have HB0 : Hid (Below w.heap.size w W0) := hBl ⟨W0, Below.refl _ _⟩
  by_cases hO : regimeB r = true
  case neg =>
    have hO' : regimeB r = false := by simpa using hO
    rw [show monthDaysOf r y m = [] by unfold monthDaysOf; rw [if_neg (fun k => hO k.1)]]
    rw [hO'] at KO
    have HBl := hideP hBl
    clear hO hO' hBl hBl1 hBl2 hD hR hC hG hE hT hS ht hW0 hW1 up hcS x2 x3 hc1 HS
    go_enter Tryz.func26, Tryz.ntmps26
    go_upto_region 1 with fail
    rw [← HW1.out, ← HW0.out]
    go_wp2_with fail
    refine (KO ⟨W0, Below.refl _ _⟩).mono ?_
    rintro e w1 ⟨rfl, hb⟩
    obtain ⟨x1, rfl⟩ := Later.of hb
    clear hb
    go_wp2
    go_ret
    exact ⟨_, rfl, movRow_nil _ _, HBl.out x1⟩
  have hTT : ∀ x : Later W0, Tab x.w := fun x => hT.later (hBl x)
  obtain ⟨DS, pd, D0, DJ, DA, KD⟩ : ∃ (DS : Nat → List Int → Prop) (pd : Nat → List Int), Hid (DS 0 []) ∧ Hid (∀ (j : Nat) (xs : List Int), j < r.segs.length → DS j xs → DS (j + 1) (xs ++ pd j) ∧ (xs ++ pd j).length ≤ 1090000) ∧ Hid (∀ xs : List Int, DS r.segs.length xs → xs = monthDaysOf r y m) ∧
      Hid (∀ j V, Below W0.heap.size W0 V → j < r.segs.length → Calls Tryz.prog 81 #[.agg #[.string r.name, .int .i64 r.fr, .int .i64 r.to, .slice a1 r.segs.length c1, v2, v3, .int .i64 r.rule], segV (atK segK r.segs j), .int .i64 y, .func (.func 80) #[] #[.pointer (some ⟨w.heap.size + 1, 0, none⟩), .pointer (some ⟨w.heap.size + 1 + 1, 0, none⟩)]] V fun e w' => ∃ o, e = .returned o ∧ ISt V o (pd j) w') := by
    by_cases hy : 1 ≤ y ∧ y ≤ 3000
    · obtain ⟨y1, y2⟩ := hy
      refine ⟨fun j xs => DSet xs (SgO r (fun n => ymB y m (rdgOn r n)) j), fun j => daysWhere (atK segK r.segs j).fr (atK segK r.segs j).to (fun n => ymB y m (rdgOn r n)), sg_nil, fun j xs q1 q2 => ⟨sg_join hO q1 q2, so_len hO (Nat.succ_le_of_lt q1) (sg_join hO q1 q2)⟩, fun xs q => ?_, fun j V hb hj => implDaysNear r _ v2 v3 j y m (w.heap.size + 1) (w.heap.size + 1 + 1) V (hG.below (hBl ⟨V, hb⟩)) hO hj (hTT ⟨V, hb⟩) y1 y2 (cy ⟨V, hb⟩) (cm ⟨V, hb⟩)⟩
      rw [show monthDaysOf r y m = daysWhere r.fr r.to (fun n => ymB y m (rdgOn r n)) by unfold monthDaysOf; rw [if_pos ⟨hO, y1, y2⟩]]
      exact sg_all hO q
    · refine ⟨fun _ xs => xs = [], fun _ => [], rfl, fun j xs q1 q2 => ?_, fun xs q => ?_, fun j V hb hj => ?_⟩
      · have q2' : xs = [] := q2
        subst q2'
        exact ⟨rfl, by simp⟩
      · rw [show monthDaysOf r y m = [] by unfold monthDaysOf; rw [if_neg (fun k => hy k.2)]]
        exact q
      · refine Calls.mono (implDaysNearNo r _ v2 v3 _ (atK segK r.segs j) y V hy) ?_
        rintro e w' ⟨rfl, hb'⟩
        exact ⟨_, rfl, (ISt.nil V).later hb'⟩
  rw [hO] at KO
  have hsl := right_segs hO
  have KO1 := KO ⟨W0, Below.refl _ _⟩
  dsimp only at KO1
  clear hBl1 hBl2 hD hR hC hG hE hT hS ht hW0 hW1 up hcS x2 x3 hc1 hO hBl hTT KO
  generalize monthDaysOf r y m = ds at *
  go_enter Tryz.func26, Tryz.ntmps26
  go_upto_region 1 with fail
  rw [← HW1.out, ← HW0.out]
  go_wp2_with fail
  refine KO1.mono ?_
  rintro e w1 ⟨rfl, hb⟩
  have S1 : Hid (ISt W0 (.slice none 0 0) [] w1) := (ISt.nil W0).later hb
  have B1 := hideP hb
  clear hb KO1 k0 k1 k2 k3 k4 k5 k6
  have k3 := cr3 ⟨w1, B1.out⟩
  dsimp only at k3
  go_wp2_with fail
  go_loopw [8, 18] (fun o i wr => ∃ (j : Nat) (xs : List Int), j ≤ r.segs.length ∧ i = .int .i64 (j : Int) ∧ Hid (DS j xs) ∧ ISt W0 o xs wr) (fun _ i _ => ((r.segs.length : Int) - intOf i).toNat)
  case atStart => exact ⟨0, [], Nat.zero_le _, rfl, D0, S1.out⟩
  case round =>
    obtain ⟨j, xs, hj, rfl, hDS, hT⟩ := hrel
    have S := hideP hT
    clear hT S1 B1 k3
    by_cases hlt : (j : Int) < (r.segs.length : Int)
    case neg =>
      obtain rfl : j = r.segs.length := by omega
      have HX : Hid (xs = ds) := DA.out xs hDS.out
      clear hDS
      go_wp2
      go_ret
      exact ⟨_, rfl, by rw [← HX.out]; exact S.out.done HB0.out⟩
    have hjn : j < r.segs.length := by omega
    obtain ⟨gs, rfl, hIA⟩ := HS.out wr S.out.below j hjn
    obtain ⟨g0, g1, g2, g3, g4⟩ := hIA.seg
    obtain ⟨HJ1, HJ2⟩ := DJ.out j xs hjn hDS.out
    have HJ := hideP HJ1
    have KDj := KD.out j
    clear HJ1 hDS DJ DA KD hIA
    generalize pd j = zs at *
    generalize atK segK r.segs j = s at *
    rw [List.length_append] at HJ2
    obtain ⟨W2, hW2⟩ : ∃ W2, W2 = wr.alloc (.cells #[.int .i64 s.fr, .int .i64 s.to, .int .i64 s.cal, .int .i64 s.sty, .int .i64 s.off] 92) := ⟨_, rfl⟩
    have S2 : Hid (ISt W0 u8 xs W2) := by unfold Hid; rw [hW2]; exact S.out.later ((Below.refl _ _).alloc (Nat.le_refl _) _)
    have b0 : W2.cell? ⟨wr.heap.size, 0, none⟩ = some (.int .i64 s.fr) := by rw [hW2]; exact (Blk.new wr _ _).cell 0 rfl
    have b1 : W2.cell? ⟨wr.heap.size, 1, none⟩ = some (.int .i64 s.to) := by rw [hW2]; exact (Blk.new wr _ _).cell 1 rfl
    have b2 : W2.cell? ⟨wr.heap.size, 2, none⟩ = some (.int .i64 s.cal) := by rw [hW2]; exact (Blk.new wr _ _).cell 2 rfl
    have b3 : W2.cell? ⟨wr.heap.size, 3, none⟩ = some (.int .i64 s.sty) := by rw [hW2]; exact (Blk.new wr _ _).cell 3 rfl
    have b4 : W2.cell? ⟨wr.heap.size, 4, none⟩ = some (.int .i64 s.off) := by rw [hW2]; exact (Blk.new wr _ _).cell 4 rfl
    have d0 := cr0 ⟨W2, S2.out.below⟩
    have d1 := cr1 ⟨W2, S2.out.below⟩
    have d2 := cr2 ⟨W2, S2.out.below⟩
    have d3 := cr3 ⟨W2, S2.out.below⟩
    have d4 := cr4 ⟨W2, S2.out.below⟩
    have d5 := cr5 ⟨W2, S2.out.below⟩
    have d6 := cr6 ⟨W2, S2.out.below⟩
    have d7 := cy ⟨W2, S2.out.below⟩
    dsimp only at d0 d1 d2 d3 d4 d5 d6 d7
    have K := KDj W2 S2.out.below hjn
    have HW2 := hideP hW2
    clear hW2 KDj
    go_upto_region 8 with fail
    rw [← HW2.out]
    clear HW2
    go_wp2_with fail
    refine K.mono ?_
    rintro e w3 ⟨o3, rfl, hI⟩
    have S3 : Hid (ISt W0 u8 xs w3) := S2.out.later hI.below
    obtain ⟨ad, cp, rfl, hn0, hcl⟩ := own_reads hI.row
    clear hI K S2 S b0 b1 b2 b3 b4 d0 d1 d2 d3 d4 d5 d6 d7 g0 g1 g2 g3 g4
    go_wp2_with (at_builtin; refine wpList_append_any rfl _ _ 30 rfl W0.heap.size 3 i0 (.int .i64 0) 1 8 Tryz.underlying30 hi hz0 hz1 hz2 rfl (by decide) _ _ _ rfl S3.out.row ad zs.length cp (zs.map (Value.int .i64)) rfl (by rw [List.length_map, Nat.mul_one]) hn0 hcl (by intro u hu; obtain ⟨z, _, rfl⟩ := List.mem_map.1 hu; rfl) (by unfold maxLen; omega) (by omega) S3.out.below.size ?_; intro v' w9 hown' hgrow)
    have S9 : ISt W0 v' (xs ++ zs) w9 := ⟨by rw [List.length_append, List.map_append]; exact hown', S3.out.below.grown hgrow S3.out.below.size (ibase S3.out.row)⟩
    exact ⟨⟨j + 1, xs ++ zs, by omega, by apply congrArg (Value.int .i64); omega, HJ.out, S9⟩, by simp [intOf]; omega⟩
end Go.Proofs.YtjojgfdfbkmlkaaGreatDoor.ctr
