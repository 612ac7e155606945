/- slices.IndexFunc and slices.DeleteFunc at the closure of impl.DaysOf$1, which makes memory at each call: what it keeps, in order, at the head of the row. The program's DaysOf: the days of a reading, ascending, in a row of its own. What the model reads of any day in a right regime. The days that the model's DaysOf gathers, segment by segment and patch by patch: plain, of no program. -/
import Derived.Test.YtilpencbbdpgfaaGreatDoorJnQbm
import Derived.Lib.SliceRun
import Derived.Shelf.Abstract
import Derived.Deep.CutRange
import Derived.Test.YtilpencbbdpgfaaGreatDoorJnQbp
import Derived.Test.YtilpencbbdpgfaaGreatDoorDofCQ
import Derived.Test.YtilpencbbdpgfaaGreatDoorJnQaz
namespace Go.Proofs.YtilpencbbdpgfaaGreatDoor.ctr
open Go.RowKit
set_option maxHeartbeats 4000000 in
theorem idxDof (g cap : Nat) (xs : List Int) (a1 a2 : Value) (p : Int → Bool) (W : World) (hR : RowI W g xs) (hl : xs.length ≤ 2000000) (KC : ∀ V x, Below W.heap.size W V → x ∈ xs → Calls Tryz.prog 73 #[.int .i64 x, a1, a2] V fun e w' => e = .returned (.bool (!p x)) ∧ Below V.heap.size V w') :
    Calls Tryz.prog 130 #[.slice (some ⟨g, 0, none⟩) xs.length cap, .func (.func 73) #[] #[a1, a2]] W fun e w' => ∃ z : Int, e = .returned (.int .i64 z) ∧ ((z = -1 ∧ ∀ x ∈ xs, p x = true) ∨ ∃ k : Nat, k < xs.length ∧ z = (k : Int) ∧ p (xs.getD k 0) = false ∧ ∀ j, j < k → p (xs.getD j 0) = true) ∧ Below W.heap.size W w' := by
  have HR := hideP hR
  have HK := hideP KC
  clear hR KC
  go_enter Tryz.func130, Tryz.ntmps130
  go_wp2_with fail
  go_loopw [5, 8] (fun _ i wr => ∃ k : Nat, k ≤ xs.length ∧ i = .int .i64 (k : Int) ∧ Hid (∀ j, j < k → p (xs.getD j 0) = true) ∧ Below W.heap.size W wr) (fun _ i _ => ((xs.length : Int) - intOf i).toNat)
  case atStart => exact ⟨0, Nat.zero_le _, rfl, fun j hj => absurd hj (Nat.not_lt_zero _), Below.refl _ _⟩
  case round =>
    obtain ⟨k, hk, rfl, hA, hB⟩ := hrel
    have B := hideP hB
    clear hB
    by_cases hlt : (k : Int) < (xs.length : Int)
    · have hkn : k < xs.length := by omega
      have hc : wr.cell? ⟨g, k, none⟩ = some (.int .i64 (xs.getD k 0)) := (HR.out.below B.out).cell hkn
      have hm : xs.getD k 0 ∈ xs := by simp only [List.getD, List.getElem?_eq_getElem hkn, Option.getD_some]; exact List.getElem_mem hkn
      have K := HK.out wr (xs.getD k 0) B.out hm
      cases hp : p (xs.getD k 0)
      · rw [hp] at K
        have HP := hideP hp
        clear hp hm
        generalize xs.getD k 0 = x at hc K
        go_wp2_with fail
        refine K.mono ?_
        rintro e w1 ⟨rfl, hb⟩
        go_wp2
        go_ret
        exact ⟨_, rfl, .inr ⟨k, hkn, rfl, HP.out, hA.out⟩, B.out.trans (hb.mono B.out.size)⟩
      · rw [hp] at K
        have HA2 : Hid (∀ j, j < k + 1 → p (xs.getD j 0) = true) := fun j hj => by
          by_cases e : j = k
          · rw [e]; exact hp
          · exact hA.out j (by omega)
        clear hp hm hA
        generalize xs.getD k 0 = x at hc K
        go_wp2_with fail
        refine K.mono ?_
        rintro e w1 ⟨rfl, hb⟩
        go_wp2
        exact ⟨⟨k + 1, hkn, by apply congrArg (Value.int .i64); omega, HA2, B.out.trans (hb.mono B.out.size)⟩, by simp [intOf]; omega⟩
    · obtain rfl : k = xs.length := by omega
      go_wp2
      go_ret
      exact ⟨_, rfl, .inl ⟨rfl, fun x hx => by
        obtain ⟨j, hj, rfl⟩ := List.getElem_of_mem hx
        have := hA.out j hj
        simpa [List.getD, hj] using this⟩, B.out⟩
set_option maxHeartbeats 4000000 in
theorem delDof (g cap : Nat) (xs : List Int) (a1 a2 : Value) (p : Int → Bool) (W0 W : World) (hg : W0.heap.size ≤ g) (hB : Below W0.heap.size W0 W) (hR : RowI W g xs) (hl : xs.length ≤ 2000000) (hcap : xs.length ≤ cap) (KC : ∀ V x, Below W0.heap.size W0 V → x ∈ xs → Calls Tryz.prog 73 #[.int .i64 x, a1, a2] V fun e w' => e = .returned (.bool (!p x)) ∧ Below V.heap.size V w') :
    Calls Tryz.prog 72 #[.slice (some ⟨g, 0, none⟩) xs.length cap, .func (.func 73) #[] #[a1, a2]] W fun e w' => e = .returned (.slice (some ⟨g, 0, none⟩) (xs.filter p).length cap) ∧ RowI w' g (xs.filter p) ∧ Below W0.heap.size W0 w' := by
  have KX := idxDof g cap xs a1 a2 p W hR hl (fun V x hb hx => KC V x (hB.trans (hb.mono hB.size)) hx)
  have HR := hideP hR
  have HB := hideP hB
  have HK := hideP KC
  have HG := hideP hg
  clear hR KC hB
  go_enter Tryz.func72, Tryz.ntmps72
  go_wp2_with fail
  refine KX.mono ?_
  rintro e w1 ⟨z, rfl, hz, hb⟩
  have B1 := hideP hb
  clear hb KX
  rcases hz with ⟨rfl, hall⟩ | ⟨k, hk, rfl, hp0, hbe⟩
  · have e : xs.filter p = xs := List.filter_eq_self.2 hall
    have He := hideP e
    clear e hall
    go_wp2
    go_ret
    exact ⟨(by rw [He.out]; rfl), by rw [He.out]; exact HR.out.below B1.out, HB.out.trans (B1.out.mono HB.out.size)⟩
  have KS : Hid (Kpt p xs xs k (k + 1)) := Kpt.start hk hp0 hbe
  have R1 : Hid (RowI w1 g xs) := HR.out.below B1.out
  have B2 : Hid (Below W0.heap.size W0 w1) := HB.out.trans (B1.out.mono HB.out.size)
  clear hp0 hbe HR HB B1
  have hne1 : ((k : Int) == -1) = false := beq_eq_false_iff_ne.2 (by omega)
  go_wp2_with fail
  go_loopw [5, 6, 7] (fun i j _ wr => ∃ (a b : Nat) (L : List Int), i = .int .i64 (a : Int) ∧ j = .int .i64 (b : Int) ∧ Hid (Kpt p xs L a b) ∧ Hid (RowI wr g L) ∧ Hid (Below W0.heap.size W0 wr)) (fun _ j _ _ => ((xs.length : Int) - intOf j).toNat)
  case atStart => exact ⟨k, k + 1, xs, rfl, by apply congrArg (Value.int .i64); omega, KS, R1, B2⟩
  case round =>
    obtain ⟨a, b, L, rfl, rfl, KP, R, B⟩ := hrel
    have hbl := KP.out.le
    have hab := KP.out.lt
    have hLl := KP.out.len
    clear KS R1 B2
    by_cases hlt : (b : Int) < (xs.length : Int)
    · have hbn : b < xs.length := by omega
      have hc : wr.cell? ⟨g, b, none⟩ = some (.int .i64 (xs.getD b 0)) := by rw [R.out.cell (by omega), KP.out.at]
      have hm : xs.getD b 0 ∈ xs := by simp only [List.getD, List.getElem?_eq_getElem hbn, Option.getD_some]; exact List.getElem_mem hbn
      have K := HK.out wr (xs.getD b 0) B.out hm
      have hac : wr.cell? ⟨g, a, none⟩ = some (.int .i64 (L.getD a 0)) := R.out.cell (by omega)
      have HL := hideP hLl
      clear hLl
      cases hp : p (xs.getD b 0)
      · rw [hp] at K
        have KN : Hid (Kpt p xs L a (b + 1)) := KP.out.skip hbn hp
        clear hp hm KP
        generalize xs.getD b 0 = x at hc K
        go_wp2_with fail
        refine K.mono ?_
        rintro e w2 ⟨rfl, hb⟩
        go_wp2
        exact ⟨⟨a, b + 1, L, rfl, by apply congrArg (Value.int .i64); omega, KN, R.out.below hb, B.out.trans (hb.mono B.out.size)⟩, by simp [intOf]; omega⟩
      · rw [hp] at K
        have KN : Hid (Kpt p xs (L.set a (xs.getD b 0)) (a + 1) (b + 1)) := KP.out.keep hbn hp
        clear hp hm KP
        generalize xs.getD b 0 = x at hc K KN
        generalize L.getD a 0 = y at hac
        go_wp2_with fail
        refine K.mono ?_
        rintro e w2 ⟨rfl, hb⟩
        have R2 := hideP (R.out.below hb)
        have B2 := hideP (B.out.trans (hb.mono B.out.size))
        have c2 : w2.cell? ⟨g, a, none⟩ = some (.int .i64 (L.getD a 0)) := R2.out.cell (Nat.lt_of_lt_of_eq (Nat.lt_of_lt_of_le hab hbl) HL.out.symm)
        have f2 : w2.frozen? ⟨g, a, none⟩ = false := R2.out.thaw a
        clear hb
        go_wp2
        exact ⟨⟨a + 1, b + 1, L.set a x, by apply congrArg (Value.int .i64); omega, by apply congrArg (Value.int .i64); omega, KN, R2.out.set (by have := HL.out; omega) x, below_store B2.out _ HG.out⟩, by simp [intOf]; omega⟩
    · obtain rfl : b = xs.length := by omega
      obtain ⟨e1, e2⟩ := KP.out.done
      have RF : Hid (RowI (wr.setCells g a (List.replicate (xs.length - a) (.int .i64 0))) g (xs.filter p)) := by
        have q := R.out.clear (k := a) (List.replicate (xs.length - a) (.int .i64 0))
        rw [e1] at q
        exact q
      have BF : Hid (Below W0.heap.size W0 (wr.setCells g a (List.replicate (xs.length - a) (.int .i64 0)))) := below_setCells HG.out _ _ _ B.out
      have hcl : ∀ ty, (Builtin.clear_ #[42] ty #[.slice (some ⟨g, a, none⟩) (xs.length - a) (cap - a)]).run Tryz.prog wr = .ok (.tuple #[]) (wr.setCells g a (List.replicate (xs.length - a) (.int .i64 0))) :=
        fun ty => Lib.run_clear_slice wr _ _ ty _ Tryz.underlying42 Tryz.zeroValue3 rfl rfl g a _ _ (by omega) (fun t ht => by rw [R.out.cell (by omega)]; rfl) (fun t ht => R.out.thaw _)
      have HE2 := hideP e2
      clear e1 e2 KP hLl
      go_wp2
      go_ret
      exact ⟨(by rw [← HE2.out]; rfl), RF.out, BF.out⟩
end Go.Proofs.YtilpencbbdpgfaaGreatDoor.ctr
namespace Go.Proofs.YtilpencbbdpgfaaGreatDoor.ctr
open Go.RowKit
set_option linter.unusedSimpArgs false
set_option maxRecDepth 100000 in
set_option maxHeartbeats 8000000 in
theorem implDaysOf (v : Value) (r : Rgm) (x : Rdg) (q : Addr) (w : World) (h : GRow w v r) (ht : r.to ≤ 9223372036854775807) (hE : ErrT w) (hT : Tab w) (hS : Sent w q) : Calls Tryz.prog 23 #[v, rdgV x] w fun e w' => ∃ o, e = .returned o ∧ MovRow w w' o (daysOfR r x) ∧ Below w.heap.size w w' := by
  obtain ⟨i0, hi, hz0, hz1, hz2⟩ := info_parts info_int
  have hG := h
  obtain ⟨v1, v2, v3, rfl, _⟩ := h
  obtain ⟨xc, xy, xo, xm, xd⟩ := x
  obtain ⟨W0, hW0, hD, hR, hBl⟩ := two_box w #[.string r.name, .int .i64 r.fr, .int .i64 r.to, v1, v2, v3, .int .i64 r.rule] #[.int .i64 xc, .int .i64 xy, .int .i64 xo, .int .i64 xm, .int .i64 xd] 36 29
  have cr0 : ∀ x : Later W0, x.w.cell? ⟨w.heap.size, 0, none⟩ = some (.string r.name) := fun x => (hD x).cell 0 rfl
  have cr1 : ∀ x : Later W0, x.w.cell? ⟨w.heap.size, 1, none⟩ = some (.int .i64 r.fr) := fun x => (hD x).cell 1 rfl
  have cr2 : ∀ x : Later W0, x.w.cell? ⟨w.heap.size, 2, none⟩ = some (.int .i64 r.to) := fun x => (hD x).cell 2 rfl
  have cr3 : ∀ x : Later W0, x.w.cell? ⟨w.heap.size, 3, none⟩ = some (v1) := fun x => (hD x).cell 3 rfl
  have cr4 : ∀ x : Later W0, x.w.cell? ⟨w.heap.size, 4, none⟩ = some (v2) := fun x => (hD x).cell 4 rfl
  have cr5 : ∀ x : Later W0, x.w.cell? ⟨w.heap.size, 5, none⟩ = some (v3) := fun x => (hD x).cell 5 rfl
  have cr6 : ∀ x : Later W0, x.w.cell? ⟨w.heap.size, 6, none⟩ = some (.int .i64 r.rule) := fun x => (hD x).cell 6 rfl
  have cs0 : ∀ x : Later W0, x.w.cell? ⟨w.heap.size + 1, 0, none⟩ = some (.int .i64 xc) := fun x => (hR x).cell 0 rfl
  have cs1 : ∀ x : Later W0, x.w.cell? ⟨w.heap.size + 1, 1, none⟩ = some (.int .i64 xy) := fun x => (hR x).cell 1 rfl
  have cs2 : ∀ x : Later W0, x.w.cell? ⟨w.heap.size + 1, 2, none⟩ = some (.int .i64 xo) := fun x => (hR x).cell 2 rfl
  have cs3 : ∀ x : Later W0, x.w.cell? ⟨w.heap.size + 1, 3, none⟩ = some (.int .i64 xm) := fun x => (hR x).cell 3 rfl
  have cs4 : ∀ x : Later W0, x.w.cell? ⟨w.heap.size + 1, 4, none⟩ = some (.int .i64 xd) := fun x => (hR x).cell 4 rfl
  have KO : ∀ x : Later W0, Calls Tryz.prog 69 #[.agg #[.string r.name, .int .i64 r.fr, .int .i64 r.to, v1, v2, v3, .int .i64 r.rule]] x.w fun e w' => e = .returned (.bool (regimeB r)) ∧ Below x.w.heap.size x.w w' := fun x => implRegimeOk _ r q x.w (hG.below (hBl x)) ht (hE.below (hBl x)) (hT.later (hBl x)) (hS.later (hBl x))
  have HW0 := hideP hW0
  have HBl := hideP hBl
  have HB0 : Hid (Below w.heap.size w W0) := hBl ⟨W0, Below.refl _ _⟩
  by_cases hO : regimeB r = true
  case neg =>
    have hO' : regimeB r = false := by simpa using hO
    rw [show daysOfR r ⟨xc, xy, xo, xm, xd⟩ = [] by unfold daysOfR; rw [if_neg hO]]
    rw [hO'] at KO
    clear hO hO' hD hR hBl hG hE hT hS ht hW0
    go_enter Tryz.func23, Tryz.ntmps23
    go_wp2_with fail
    rw [← HW0.out]
    refine (KO ⟨W0, Below.refl _ _⟩).mono ?_
    rintro e w1 ⟨rfl, hb⟩
    obtain ⟨x1, rfl⟩ := Later.of hb
    clear hb
    go_wp2
    go_ret
    exact ⟨_, rfl, movRow_nil _ _, HBl.out x1⟩
  have KW : Hid (∀ W, Below W0.heap.size W0 W → Calls Tryz.prog 70 #[.agg #[.string r.name, .int .i64 r.fr, .int .i64 r.to, v1, v2, v3, .int .i64 r.rule], .agg #[.int .i64 xc, .int .i64 xy, .int .i64 xo, .int .i64 xm, .int .i64 xd]] W fun e w' => ∃ o, e = .returned o ∧ ∃ zs, ISt W o zs w' ∧ zs = dated r ⟨xc, xy, xo, xm, xd⟩) := fun W hb => (implDated _ r ⟨xc, xy, xo, xm, xd⟩ W (hG.below (hBl ⟨W, hb⟩)) hO (hT.later (hBl ⟨W, hb⟩))).mono (by rintro e w' ⟨o, h1, h2⟩; exact ⟨o, h1, _, h2, rfl⟩)
  have hpl := right_pats hO
  have hsl := right_segs hO
  have KP : Hid (∀ W, Below W0.heap.size W0 W → Calls Tryz.prog 71 #[.agg #[.string r.name, .int .i64 r.fr, .int .i64 r.to, v1, v2, v3, .int .i64 r.rule]] W fun e w' => ∃ o, e = .returned o ∧ ISt W o (r.pats.map Pat.day) w') := fun W hb => implPatched _ r W (hG.below (hBl ⟨W, hb⟩)) hpl
  have KC : Hid (∀ V n, Below W0.heap.size W0 V → r.fr ≤ n → n ≤ r.to → Calls Tryz.prog 73 #[.int .i64 n, .pointer (some ⟨w.heap.size, 0, none⟩), .pointer (some ⟨w.heap.size + 1, 0, none⟩)] V fun e w' => e = .returned (.bool (!rdgIs r ⟨xc, xy, xo, xm, xd⟩ n)) ∧ Below V.heap.size V w') := fun V n hb h1 h2 => cloDof w.heap.size (w.heap.size + 1) v1 v2 v3 r xc xy xo xm xd n V (hG.below (hBl ⟨V, hb⟩)) hO h1 h2 (hT.later (hBl ⟨V, hb⟩)) (hD ⟨V, hb⟩) (hR ⟨V, hb⟩)
  have HF : Hid (∀ xs, xs = dated r ⟨xc, xy, xo, xm, xd⟩ → Lib.compact (((xs ++ r.pats.map Pat.day).filter (rdgIs r ⟨xc, xy, xo, xm, xd⟩)).mergeSort (fun x y => decide (x ≤ y))) = daysOfR r ⟨xc, xy, xo, xm, xd⟩) := fun xs h => by rw [h]; exact daysOf_final hO
  have HIn : Hid (∀ xs, xs = dated r ⟨xc, xy, xo, xm, xd⟩ → ∀ z, z ∈ xs ++ r.pats.map Pat.day → r.fr ≤ z ∧ z ≤ r.to) := fun xs h z hz => by
    rcases List.mem_append.1 hz with q | q
    · rw [h] at q; exact dated_in hO q
    · exact pat_days hO q
  have HLn : Hid (∀ xs, xs = dated r ⟨xc, xy, xo, xm, xd⟩ → xs.length ≤ 60) := fun xs h => by rw [h]; have := dated_len r ⟨xc, xy, xo, xm, xd⟩; omega
  have hpd : (r.pats.map Pat.day).length = r.pats.length := List.length_map ..
  rw [hO] at KO
  have KE : Hid (∀ V, Below W0.heap.size W0 V → V.cell? ⟨w.heap.size, 0, none⟩ = some (.string r.name) ∧ V.cell? ⟨w.heap.size, 1, none⟩ = some (.int .i64 r.fr) ∧ V.cell? ⟨w.heap.size, 2, none⟩ = some (.int .i64 r.to) ∧ V.cell? ⟨w.heap.size, 3, none⟩ = some (v1) ∧ V.cell? ⟨w.heap.size, 4, none⟩ = some (v2) ∧ V.cell? ⟨w.heap.size, 5, none⟩ = some (v3) ∧ V.cell? ⟨w.heap.size, 6, none⟩ = some (.int .i64 r.rule) ∧ V.cell? ⟨w.heap.size + 1, 0, none⟩ = some (.int .i64 xc) ∧ V.cell? ⟨w.heap.size + 1, 1, none⟩ = some (.int .i64 xy) ∧ V.cell? ⟨w.heap.size + 1, 2, none⟩ = some (.int .i64 xo) ∧ V.cell? ⟨w.heap.size + 1, 3, none⟩ = some (.int .i64 xm) ∧ V.cell? ⟨w.heap.size + 1, 4, none⟩ = some (.int .i64 xd)) := fun V hb => ⟨cr0 ⟨V, hb⟩, cr1 ⟨V, hb⟩, cr2 ⟨V, hb⟩, cr3 ⟨V, hb⟩, cr4 ⟨V, hb⟩, cr5 ⟨V, hb⟩, cr6 ⟨V, hb⟩, cs0 ⟨V, hb⟩, cs1 ⟨V, hb⟩, cs2 ⟨V, hb⟩, cs3 ⟨V, hb⟩, cs4 ⟨V, hb⟩⟩
  clear hO hD hR hBl hG hE hT hS ht hW0
  generalize rdgIs r ⟨xc, xy, xo, xm, xd⟩ = sB at *
  generalize daysOfR r ⟨xc, xy, xo, xm, xd⟩ = ds at *
  generalize dated r ⟨xc, xy, xo, xm, xd⟩ = wd at *
  generalize r.pats.map Pat.day = pd at *
  go_enter Tryz.func23, Tryz.ntmps23
  go_wp2_with fail
  rw [← HW0.out]
  refine (KO ⟨W0, Below.refl _ _⟩).mono ?_
  rintro e w1 ⟨rfl, hb⟩
  obtain ⟨x1, rfl⟩ := Later.of hb
  clear hb KO
  go_upto_region 3 with fail
  have B2 : Hid (Below W0.heap.size W0 x1.w.drew) := Below.drew x1.below
  generalize x1.w = w2 at *
  clear x1 cr0 cr1 cr2 cr3 cr4 cr5 cr6 cs0 cs1 cs2 cs3 cs4
  refine wp_region_held_drew (S := (fun V => V.cell? ⟨w.heap.size, 0, none⟩ = some (.string r.name) ∧ V.cell? ⟨w.heap.size, 1, none⟩ = some (.int .i64 r.fr) ∧ V.cell? ⟨w.heap.size, 2, none⟩ = some (.int .i64 r.to) ∧ V.cell? ⟨w.heap.size, 3, none⟩ = some (v1) ∧ V.cell? ⟨w.heap.size, 4, none⟩ = some (v2) ∧ V.cell? ⟨w.heap.size, 5, none⟩ = some (v3) ∧ V.cell? ⟨w.heap.size, 6, none⟩ = some (.int .i64 r.rule) ∧ V.cell? ⟨w.heap.size + 1, 0, none⟩ = some (.int .i64 xc) ∧ V.cell? ⟨w.heap.size + 1, 1, none⟩ = some (.int .i64 xy) ∧ V.cell? ⟨w.heap.size + 1, 2, none⟩ = some (.int .i64 xo) ∧ V.cell? ⟨w.heap.size + 1, 3, none⟩ = some (.int .i64 xm) ∧ V.cell? ⟨w.heap.size + 1, 4, none⟩ = some (.int .i64 xd))) (by kernel_rfl) (KE.out _ B2.out) (fun hHeld => ?_)
  refine held_take (i := 0) (d := 9) (v := ?_) rfl rfl (by kernel_rfl) (by decide +kernel) (by decide +kernel) (fun _ _ _ h => h) (by rfl) ?_ (by assumption) ?_
  rotate_left
  · intro wq hSw
    obtain ⟨q0, q1, q2, q3, q4, q5, q6, q7, q8, q9, q10, q11⟩ := hSw
    go_simp
    (try rfl)
  simp only [Act.put, List.setIfInBounds_toArray, List.set_cons_zero, List.set_cons_succ]
  refine held_take (i := 1) (d := 10) (v := ?_) rfl rfl (by kernel_rfl) (by decide +kernel) (by decide +kernel) (fun _ _ _ h => h) (by rfl) ?_ (by assumption) ?_
  rotate_left
  · intro wq hSw
    obtain ⟨q0, q1, q2, q3, q4, q5, q6, q7, q8, q9, q10, q11⟩ := hSw
    go_simp
    (try rfl)
  simp only [Act.put, List.setIfInBounds_toArray, List.set_cons_zero, List.set_cons_succ]
  refine held_take (i := 3) (d := 12) (v := ?_) rfl rfl (by kernel_rfl) (by decide +kernel) (by decide +kernel) (fun _ _ _ h => h) (by rfl) ?_ (by assumption) ?_
  rotate_left
  · intro wq hSw
    obtain ⟨q0, q1, q2, q3, q4, q5, q6, q7, q8, q9, q10, q11⟩ := hSw
    go_simp
    (try rfl)
  simp only [Act.put, List.setIfInBounds_toArray, List.set_cons_zero, List.set_cons_succ]
  refine held_one (i := 2) (by decide +kernel) (op_call (args := #[.agg #[.string r.name, .int .i64 r.fr, .int .i64 r.to, v1, v2, v3, .int .i64 r.rule], .agg #[.int .i64 xc, .int .i64 xy, .int .i64 xo, .int .i64 xm, .int .i64 xd]]) (T := fun u w' => ∃ xs, ISt w2.drew u xs w' ∧ xs = wd) rfl rfl rfl (by rfl) (by simp only [List.map_toArray, List.map_cons, List.map_nil]; rfl) (enters_of Tryz.func70 (by kernel_rfl) rfl) ((KW.out _ B2.out).mono ?_) ?_)
  · rintro e V ⟨o, rfl, hx⟩
    exact ⟨o, rfl, hx⟩
  rintro u V5 ⟨xs, hS5, hwd⟩
  have S5 := hideP hS5
  have B5 : Hid (Below W0.heap.size W0 V5) := B2.out.trans (hS5.below.mono B2.out.size)
  have hS6 := KE.out V5 B5.out
  refine ⟨hS6, ?_⟩
  clear hS5 hHeld
  simp only [Act.put, List.setIfInBounds_toArray, List.set_cons_zero, List.set_cons_succ]
  refine held_one (i := 4) (by decide +kernel) (op_call (args := #[.agg #[.string r.name, .int .i64 r.fr, .int .i64 r.to, v1, v2, v3, .int .i64 r.rule]]) (T := fun u' w' => ISt V5 u' pd w') rfl rfl rfl (by rfl) (by simp only [List.map_toArray, List.map_cons, List.map_nil]; rfl) (enters_of Tryz.func71 (by kernel_rfl) rfl) ((KP.out _ B5.out).mono ?_) ?_)
  · rintro e V ⟨o, rfl, hx⟩
    exact ⟨o, rfl, hx⟩
  rintro u' V6 hS6'
  have S6 := hideP hS6'
  have B6 : Hid (Below W0.heap.size W0 V6) := B5.out.trans (hS6'.below.mono B5.out.size)
  have S56 : Hid (ISt w2.drew u xs V6) := S5.out.later hS6'.below
  obtain ⟨ad, cp, rfl, hn0, hcl⟩ := own_reads hS6'.row
  have hS7 := KE.out V6 B6.out
  refine ⟨hS7, ?_⟩
  clear hS6 hS6'
  simp only [Act.put, List.setIfInBounds_toArray, List.set_cons_zero, List.set_cons_succ]
  have hxl := HLn.out xs hwd
  refine held_one (i := 5) (by decide +kernel) (op_append rfl (by rfl) (.tmp 11) (.tmp 13) 42 rfl w2.drew.heap.size 3 i0 (.int .i64 0) 1 8 Tryz.underlying42 hi hz0 hz1 hz2 rfl (by decide) u xs.length (xs.map (Value.int .i64)) rfl S56.out.row ad pd.length cp (pd.map (Value.int .i64)) rfl (by simp) hn0 hcl (fun z hz => by obtain ⟨q, _, rfl⟩ := List.mem_map.1 hz; rfl) (by unfold maxLen; omega) (by omega) (by have := S56.out.below.size; omega) ?_)
  intro v' w9 hown hgrow
  have S9 : Hid (ISt w2.drew v' (xs ++ pd) w9) := ⟨by rw [List.length_append, List.map_append]; exact hown, S56.out.below.grown hgrow S56.out.below.size (ibase S56.out.row)⟩
  have B9 : Hid (Below W0.heap.size W0 w9) := B2.out.trans (S9.out.below.mono B2.out.size)
  have hS9 := KE.out w9 B9.out
  refine ⟨hS9, ?_⟩
  clear hS7 hcl hn0 hown hgrow S56 S6 S5
  simp only [Act.put, List.setIfInBounds_toArray, List.set_cons_zero, List.set_cons_succ]
  refine held_take (i := 6) (d := 5) (v := ?_) rfl rfl (by kernel_rfl) (by decide +kernel) (by decide +kernel) (fun _ _ _ h => h) (by rfl) ?_ (by assumption) ?_
  rotate_left
  · intro wq hSw
    obtain ⟨q0, q1, q2, q3, q4, q5, q6, q7, q8, q9, q10, q11⟩ := hSw
    go_simp
    (try rfl)
  simp only [Act.put, List.setIfInBounds_toArray, List.set_cons_zero, List.set_cons_succ]
  refine wpAnyH_done (by kernel_rfl) ?_ _
  have hyl : (xs ++ pd).length ≤ 68 := by rw [List.length_append]; omega
  have HFx := hideP (HF.out xs hwd)
  have HIx := hideP (HIn.out xs hwd)
  have hgW : W0.heap.size ≤ w2.drew.heap.size := B2.out.size
  clear HF HIn HLn hwd hS9 KW KP B5 B6
  generalize xs ++ pd = ys at *
  rcases own_rowI S9.out.row with ⟨rfl, rfl⟩ | ⟨g, cap, rfl, hcap, hg, hRow⟩
  · have HD : Hid (ds = []) := by
      unfold Hid
      rw [← HFx.out]
      simp [Lib.compact, Lib.compactUpTo]
    clear S9 HFx
    go_wp2_with fail
    refine (delNone _ _ _).mono ?_
    rintro e w10 ⟨rfl, hw⟩
    subst hw
    go_wp2_with fail
    refine (Tryz.slices_Sort_int_none _ _ _).mono ?_
    rintro e w11 ⟨rfl, hw⟩
    subst hw
    go_wp2_with fail
    refine (Tryz.slices_Compact_int_empty _ _ _).mono ?_
    rintro e w12 ⟨rfl, hw⟩
    subst hw
    go_wp2
    go_ret
    exact ⟨_, rfl, by rw [HD.out]; exact movRow_nil _ _, HB0.out.trans (B9.out.mono HB0.out.size)⟩
  have hg0 : W0.heap.size ≤ g := Nat.le_trans hgW hg
  have KD := delDof g cap ys (.pointer (some ⟨w.heap.size, 0, none⟩)) (.pointer (some ⟨w.heap.size + 1, 0, none⟩)) sB W0 w9 hg0 B9.out hRow (by omega) hcap (fun V x hb hx => KC.out V x hb (HIx.out x hx).1 (HIx.out x hx).2)
  have hfl : (ys.filter sB).length ≤ ys.length := List.length_filter_le ..
  clear S9 hRow KC HIx KE
  generalize ys.filter sB = fs at *
  go_wp2_with fail
  refine KD.mono ?_
  rintro e w10 ⟨rfl, hR10, hB10⟩
  have R10 := hideP hR10
  have B10 := hideP hB10
  have KSo := Tryz.slices_Sort_int g 0 cap fs w10 hR10.holds hR10.lt (by omega)
  clear KD hR10 hB10
  have hzl : (fs.mergeSort (fun x y => decide (x ≤ y))).length = fs.length := List.length_mergeSort ..
  generalize fs.mergeSort (fun x y => decide (x ≤ y)) = zs at *
  go_wp2_with fail
  refine KSo.mono ?_
  rintro e w11 ⟨rfl, n1, os, hw11⟩
  have R11 : Hid (RowI w11 g zs) := by unfold Hid; rw [hw11]; exact (R10.out.put hzl n1).grow os
  have B11 : Hid (Below W0.heap.size W0 w11) := by unfold Hid; rw [hw11]; exact below_grow (below_map (below_ahead B10.out n1) hg0 _) (by show _ ≤ (w10.heap.modify g _).size; rw [Array.size_modify]; exact B10.out.size) os
  clear hw11 KSo
  have KCo := Tryz.slices_Compact_int g 0 cap zs w11 R11.out.holds (by omega) (by omega)
  have hcl2 : (Lib.compact zs).length ≤ zs.length := by
    unfold Lib.compact Lib.compactUpTo
    rw [List.length_map]
    refine Nat.le_trans (List.length_filter_le ..) ?_
    rw [List.length_range]
    exact Nat.le_refl _
  rw [hzl] at KCo hcl2
  have HZ := hideP hzl
  clear hzl
  generalize Lib.compact zs = cs at *
  go_wp2_with fail
  refine KCo.mono ?_
  rintro e w12 ⟨rfl, n2, hw12⟩
  have R12 : Hid (RowI w12 g cs) := by
    unfold Hid
    rw [hw12]
    have q := (R11.out.put (ys := cs ++ List.replicate (fs.length - cs.length) 0) (by rw [List.length_append, List.length_replicate, HZ.out]; omega) n2).take cs.length
    rw [List.take_left'] at q
    · exact q
    · rfl
  have B12 : Hid (Below W0.heap.size W0 w12) := by unfold Hid; rw [hw12]; exact below_map (below_ahead B11.out n2) hg0 _
  clear hw12 KCo
  go_wp2
  go_ret
  exact ⟨_, rfl, by rw [← HFx.out]; exact R12.out.mov (Nat.le_trans HB0.out.size hg0), HB0.out.trans (B12.out.mono HB0.out.size)⟩
end Go.Proofs.YtilpencbbdpgfaaGreatDoor.ctr
namespace Go.Proofs.YtilpencbbdpgfaaGreatDoor.ctr
open Go.RowKit
noncomputable def rdgX (r : Rgm) (n : Int) : Rdg := if r.fr ≤ n ∧ n ≤ r.to then rdgOn r n else rdg0
theorem specReadX (v : Value) (r : Rgm) (n : Int) (w : World) (h : GRow w v r) (hr : regimeB r = true) : Calls Tryz.prog 57 #[v, .int .i64 n] w fun e w' => e = .returned (.tuple #[rdgV (rdgX r n), .bool (decide (r.fr ≤ n ∧ n ≤ r.to))]) ∧ Below w.heap.size w w' := by
  unfold rdgX
  by_cases hn : r.fr ≤ n ∧ n ≤ r.to
  · rw [if_pos hn, decide_eq_true hn]
    exact specRead v r n w h hr hn.1 hn.2
  · rw [if_neg hn, decide_eq_false hn]
    refine specReadNo v r n w h ?_
    rcases segAt_cases r.segs n with ⟨k, _⟩ | ⟨j, _, k, _⟩
    · exact k
    · exact absurd ((seg_fact hr n).1 (by omega)) hn
end Go.Proofs.YtilpencbbdpgfaaGreatDoor.ctr
namespace Go.Proofs.YtilpencbbdpgfaaGreatDoor.ctr
open Go.RowKit
noncomputable def hitB (r : Rgm) (x : Rdg) (z : Int) : Bool := decide ((r.fr ≤ z ∧ z ≤ r.to) ∧ rdgX r z = x)
noncomputable def Got1 (r : Rgm) (x : Rdg) (i : Nat) (z : Int) : Prop := ∃ j, j < i ∧ j < r.segs.length ∧ z = dayOf x.cal x.sol x.mon x.day - (atK segK r.segs j).off ∧ hitB r x z = true ∧ dateOk x.cal x.sol x.mon x.day = true
noncomputable def Got2 (r : Rgm) (x : Rdg) (i : Nat) (z : Int) : Prop := Got1 r x r.segs.length z ∨ ∃ j, j < i ∧ j < r.pats.length ∧ z = (atK patK r.pats j).day ∧ hitB r x z = true
theorem got1_open (r : Rgm) (x : Rdg) : DSet [] (Got1 r x 0) := dset_nil (fun z q => by obtain ⟨j, q, _⟩ := q; omega)
theorem got1_hit {r : Rgm} {x : Rdg} {i : Nat} {zs ys : List Int} (h : DSet zs (Got1 r x i)) (hi : i < r.segs.length) (hh : hitB r x (dayOf x.cal x.sol x.mon x.day - (atK segK r.segs i).off) = true) (ho : dateOk x.cal x.sol x.mon x.day = true) (hy : DSet ys (fun z => z ∈ zs ∨ z = dayOf x.cal x.sol x.mon x.day - (atK segK r.segs i).off)) : DSet ys (Got1 r x (i + 1)) := by
  refine hy.imp (fun z => ⟨?_, ?_⟩)
  · rintro (q | q)
    · obtain ⟨j, q1, q2⟩ := (h.2 z).1 q
      exact ⟨j, by omega, q2⟩
    · exact ⟨i, by omega, hi, q, by rw [q]; exact hh, ho⟩
  · rintro ⟨j, q1, q2, q3, q4⟩
    by_cases e : j = i
    · rw [e] at q3
      exact .inr q3
    · exact .inl ((h.2 z).2 ⟨j, by omega, q2, q3, q4⟩)
theorem got1_miss {r : Rgm} {x : Rdg} {i : Nat} {zs : List Int} (h : DSet zs (Got1 r x i)) (hn : ¬ (hitB r x (dayOf x.cal x.sol x.mon x.day - (atK segK r.segs i).off) = true ∧ dateOk x.cal x.sol x.mon x.day = true)) : DSet zs (Got1 r x (i + 1)) := by
  refine h.imp (fun z => ⟨?_, ?_⟩)
  · rintro ⟨j, q1, q2⟩
    exact ⟨j, by omega, q2⟩
  · rintro ⟨j, q1, q2, q3, q4, q5⟩
    by_cases e : j = i
    · rw [e] at q3
      rw [q3] at q4
      exact absurd ⟨q4, q5⟩ hn
    · exact ⟨j, by omega, q2, q3, q4, q5⟩
theorem got2_open {r : Rgm} {x : Rdg} {zs : List Int} (h : DSet zs (Got1 r x r.segs.length)) : DSet zs (Got2 r x 0) := h.imp (fun z => ⟨fun q => .inl q, fun q => by
  rcases q with q | ⟨j, q, _⟩
  · exact q
  · omega⟩)
theorem got2_hit {r : Rgm} {x : Rdg} {i : Nat} {zs ys : List Int} (h : DSet zs (Got2 r x i)) (hi : i < r.pats.length) (hh : hitB r x (atK patK r.pats i).day = true) (hy : DSet ys (fun z => z ∈ zs ∨ z = (atK patK r.pats i).day)) : DSet ys (Got2 r x (i + 1)) := by
  refine hy.imp (fun z => ⟨?_, ?_⟩)
  · rintro (q | q)
    · rcases (h.2 z).1 q with q | ⟨j, q1, q2⟩
      · exact .inl q
      · exact .inr ⟨j, by omega, q2⟩
    · exact .inr ⟨i, by omega, hi, q, by rw [q]; exact hh⟩
  · rintro (q | ⟨j, q1, q2, q3, q4⟩)
    · exact .inl ((h.2 z).2 (.inl q))
    · by_cases e : j = i
      · rw [e] at q3
        exact .inr q3
      · exact .inl ((h.2 z).2 (.inr ⟨j, by omega, q2, q3, q4⟩))
theorem got2_miss {r : Rgm} {x : Rdg} {i : Nat} {zs : List Int} (h : DSet zs (Got2 r x i)) (hn : ¬ hitB r x (atK patK r.pats i).day = true) : DSet zs (Got2 r x (i + 1)) := by
  refine h.imp (fun z => ⟨?_, ?_⟩)
  · rintro (q | ⟨j, q1, q2⟩)
    · exact .inl q
    · exact .inr ⟨j, by omega, q2⟩
  · rintro (q | ⟨j, q1, q2, q3, q4⟩)
    · exact .inl q
    · by_cases e : j = i
      · rw [e] at q3
        rw [q3] at q4
        exact absurd q4 hn
      · exact .inr ⟨j, by omega, q2, q3, q4⟩
theorem hit_is {r : Rgm} {x : Rdg} {z : Int} (h : hitB r x z = true) : r.fr ≤ z ∧ z ≤ r.to ∧ rdgIs r x z = true := by
  unfold hitB rdgX at h
  have h := of_decide_eq_true h
  rw [if_pos h.1] at h
  exact ⟨h.1.1, h.1.2, decide_eq_true h.2⟩
theorem is_hit {r : Rgm} {x : Rdg} {z : Int} (h1 : r.fr ≤ z) (h2 : z ≤ r.to) (h : rdgIs r x z = true) : hitB r x z = true := by
  unfold hitB rdgX
  refine decide_eq_true ⟨⟨h1, h2⟩, ?_⟩
  rw [if_pos ⟨h1, h2⟩]
  exact of_decide_eq_true h
theorem got_all {r : Rgm} {x : Rdg} (hr : regimeB r = true) {zs : List Int} (h : DSet zs (Got2 r x r.pats.length)) : zs = daysOfR r x := by
  unfold daysOfR
  rw [if_pos hr]
  refine DSet.eq h ((daysWhere_set r.fr r.to (rdgIs r x)).imp (fun z => ⟨fun q => ?_, fun q => ?_⟩))
  · obtain ⟨q1, q2, q3⟩ := q
    have hh := is_hit q1 q2 q3
    by_cases hp : 0 ≤ patAt r.pats z
    · obtain ⟨p, hp1, hp2⟩ := List.mem_map.1 (pat_mem hp)
      obtain ⟨j, hj, rfl⟩ := List.getElem_of_mem hp1
      exact .inr ⟨j, hj, hj, by rw [atK_eq hj]; exact hp2.symm, hh⟩
    · obtain ⟨Y, m, d, _, e1, e2, e3, e4, hok, hday⟩ := rdg_date hr q1 q2 hp
      have he := of_decide_eq_true q3
      have h0 := (seg_fact hr z).2 ⟨q1, q2⟩
      rcases segAt_cases r.segs z with ⟨h3, _⟩ | ⟨j, hj, h3, _⟩
      · omega
      · have es : segN r z = atK segK r.segs j := by
          unfold segN
          rw [h3, Int.toNat_natCast]
        rw [es] at hok hday e1
        rw [he] at e1 e2 e3 e4
        refine .inl ⟨j, hj, hj, ?_, hh, ?_⟩
        · rw [e1, e2, e3, e4, hday]
          omega
        · rw [e1, e2, e3, e4]
          exact hok
  · rcases q with ⟨j, _, _, _, q, _⟩ | ⟨j, _, _, _, q⟩
    · exact hit_is q
    · exact hit_is q
end Go.Proofs.YtilpencbbdpgfaaGreatDoor.ctr
