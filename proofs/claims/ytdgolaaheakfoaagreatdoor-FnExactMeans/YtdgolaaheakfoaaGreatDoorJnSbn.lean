/- What a When is, and what is right; contracts of the program's kindOf, WhenOk and of what they call, and of the model's WhenOk. Contracts of the program's kindOf and of both WhenOk. Contracts of both WhenOk: the same plain function. -/
import Derived.Test.YtdgolaaheakfoaaGreatDoorJnSbk
import Derived.Test.YtdgolaaheakfoaaGreatDoorJnSbl
import Derived.Test.YtdgolaaheakfoaaGreatDoorJnSbm
namespace Go.Proofs.YtdgolaaheakfoaaGreatDoor.ctr
open Go.RowKit
structure Whn where
  kind : Int
  mon : Int
  day : Int
  rom : Rom
  feast : ByteArray
  plus : Int
abbrev whnC (s : Whn) : Array Value := #[.int .i64 s.kind, .int .i64 s.mon, .int .i64 s.day, .int .i64 s.rom.count, .int .i64 s.rom.mark, .int .i64 s.rom.month, .bool s.rom.twice, .string s.feast, .int .i64 s.plus]
abbrev whnV (s : Whn) : Value := .agg (whnC s)
theorem box_any (w : World) (cs : Array Value) (t : TypeId) : ∃ W0, W0 = w.alloc (.cells cs t) ∧ (∀ x : Later W0, Blk x.w w.heap.size cs t) ∧ (∀ x : Later W0, Below w.heap.size w x.w) :=
  ⟨_, rfl, fun x => (Blk.new _ _ _).later x, fun x => below_alloc x.below⟩
def feaOf (s : ByteArray) : Fea := if findFeast s < 0 then fea0 else feaAt (findFeast s).toNat
theorem feaAt_yes : ∀ i : Fin 20, feaOk (feaAt i.val).name (feaAt i.val).mv (feaAt i.val).off (feaAt i.val).m (feaAt i.val).d = true := by decide +kernel
theorem feaAt_len : ∀ i : Fin 20, (feaAt i.val).name.size ≤ 16 := feaAt_size0
theorem fea0_no : feaOk fea0.name fea0.mv fea0.off fea0.m fea0.d = false := by decide +kernel
theorem feaOf_len (s : ByteArray) : (feaOf s).name.size ≤ 16 := by
  unfold feaOf
  split
  · decide
  · have := find_b s
    exact feaAt_len ⟨(findFeast s).toNat, by omega⟩
theorem feaOf_ok (s : ByteArray) : feaOk (feaOf s).name (feaOf s).mv (feaOf s).off (feaOf s).m (feaOf s).d = decide (0 ≤ findFeast s) := by
  unfold feaOf
  by_cases h : findFeast s < 0
  · rw [if_pos h, fea0_no, decide_eq_false (by omega)]
  · rw [if_neg h, decide_eq_true (by omega)]
    have := find_b s
    exact feaAt_yes ⟨(findFeast s).toNat, by omega⟩
set_option maxHeartbeats 4000000 in
theorem implFeastNamed (s : ByteArray) (w : World) : Calls Tryz.prog 121 #[.string s] w fun e w' => e = .returned (.agg #[.string (feaOf s).name, .bool (feaOf s).mv, .int .i64 (feaOf s).off, .int .i64 (feaOf s).m, .int .i64 (feaOf s).d]) ∧ Below w.heap.size w w' := by
  obtain ⟨W0, hW0, hC, hBl⟩ := box_any w #[.string ⟨#[]⟩, .bool false, .int .i64 0, .int .i64 0, .int .i64 0] 159
  have u0 : ∀ x : Later W0, x.w.cell? ⟨w.heap.size, 0, none⟩ = some (.string ⟨#[]⟩) := fun x => (hC x).cell 0 rfl
  have f0 : ∀ x : Later W0, x.w.frozen? ⟨w.heap.size, 0, none⟩ = false := fun x => (hC x).thaw 0
  have u1 : ∀ x : Later W0, x.w.cell? ⟨w.heap.size, 1, none⟩ = some (.bool false) := fun x => (hC x).cell 1 rfl
  have f1 : ∀ x : Later W0, x.w.frozen? ⟨w.heap.size, 1, none⟩ = false := fun x => (hC x).thaw 1
  have u2 : ∀ x : Later W0, x.w.cell? ⟨w.heap.size, 2, none⟩ = some (.int .i64 0) := fun x => (hC x).cell 2 rfl
  have f2 : ∀ x : Later W0, x.w.frozen? ⟨w.heap.size, 2, none⟩ = false := fun x => (hC x).thaw 2
  have u3 : ∀ x : Later W0, x.w.cell? ⟨w.heap.size, 3, none⟩ = some (.int .i64 0) := fun x => (hC x).cell 3 rfl
  have f3 : ∀ x : Later W0, x.w.frozen? ⟨w.heap.size, 3, none⟩ = false := fun x => (hC x).thaw 3
  have u4 : ∀ x : Later W0, x.w.cell? ⟨w.heap.size, 4, none⟩ = some (.int .i64 0) := fun x => (hC x).cell 4 rfl
  have f4 : ∀ x : Later W0, x.w.frozen? ⟨w.heap.size, 4, none⟩ = false := fun x => (hC x).thaw 4
  have HW0 := hideP hW0
  have HC := hideP hC
  have HBl := hideP hBl
  have KF : ∀ W, Calls Tryz.prog 151 #[.string s] W fun e w' => e = .returned (.int .i64 (findFeast s)) ∧ Below W.heap.size W w' := fun W => implFind s W
  have hb := find_b s
  clear hW0 hC hBl
  by_cases hn : findFeast s < 0
  · rw [show feaOf s = fea0 by unfold feaOf; rw [if_pos hn]]
    generalize findFeast s = z at *
    go_enter Tryz.func121, Tryz.ntmps121
    go_wp2_with fail
    rw [← HW0.out]
    refine (KF _).mono ?_
    rintro e w1 ⟨rfl, hb1⟩
    obtain ⟨x1, rfl⟩ := Later.of hb1
    clear hb1
    go_wp2
    obtain ⟨W9, e9⟩ : ∃ W9, W9 = ((((x1.w.setCell ⟨w.heap.size, 0, none⟩ (.string ⟨#[]⟩)).setCell ⟨w.heap.size, 1, none⟩ (.bool false)).setCell ⟨w.heap.size, 2, none⟩ (.int .i64 0)).setCell ⟨w.heap.size, 3, none⟩ (.int .i64 0)).setCell ⟨w.heap.size, 4, none⟩ (.int .i64 0) := ⟨_, rfl⟩
    have Z9 : Blk W9 w.heap.size #[.string ⟨#[]⟩, .bool false, .int .i64 0, .int .i64 0, .int .i64 0] 159 := by rw [e9]; exact ((((((HC.out x1).set 0 _).set 1 _).set 2 _).set 3 _).set 4 _)
    have B9 : Below w.heap.size w W9 := by rw [e9]; exact (Below.setCell (Below.setCell (Below.setCell (Below.setCell (Below.setCell (HBl.out x1) (p := ⟨w.heap.size, 0, none⟩) (Nat.le_refl _) _) (p := ⟨w.heap.size, 1, none⟩) (Nat.le_refl _) _) (p := ⟨w.heap.size, 2, none⟩) (Nat.le_refl _) _) (p := ⟨w.heap.size, 3, none⟩) (Nat.le_refl _) _) (p := ⟨w.heap.size, 4, none⟩) (Nat.le_refl _) _)
    rw [← e9]
    clear e9
    have q0 : W9.cell? ⟨w.heap.size, 0, none⟩ = some (.string ⟨#[]⟩) := Z9.cell 0 rfl
    have q1 : W9.cell? ⟨w.heap.size, 1, none⟩ = some (.bool false) := Z9.cell 1 rfl
    have q2 : W9.cell? ⟨w.heap.size, 2, none⟩ = some (.int .i64 0) := Z9.cell 2 rfl
    have q3 : W9.cell? ⟨w.heap.size, 3, none⟩ = some (.int .i64 0) := Z9.cell 3 rfl
    have q4 : W9.cell? ⟨w.heap.size, 4, none⟩ = some (.int .i64 0) := Z9.cell 4 rfl
    exact bodyPost_ret (by simp [results, Tryz.results121, go_sem, q0, q1, q2, q3, q4]; first | done | rfl | exact ⟨rfl, rfl, rfl, rfl, rfl⟩) rfl ⟨rfl, B9⟩
  · rw [show feaOf s = feaAt (findFeast s).toNat by unfold feaOf; rw [if_neg hn]]
    obtain ⟨k, hk⟩ := Int.eq_ofNat_of_zero_le (show 0 ≤ findFeast s by omega)
    rw [hk] at KF
    rw [hk, Int.toNat_natCast]
    have hk20 : k < 20 := by omega
    clear hb hn hk
    go_enter Tryz.func121, Tryz.ntmps121
    go_wp2_with fail
    rw [← HW0.out]
    refine (KF _).mono ?_
    rintro e w1 ⟨rfl, hb1⟩
    obtain ⟨x1, rfl⟩ := Later.of hb1
    clear hb1
    go_wp2_with fail
    refine (implFeasts _).mono ?_
    rintro e w2 ⟨v, rfl, ho, hb2⟩
    obtain ⟨x2, rfl⟩ := x1.next hb2
    obtain ⟨g, cap, rfl, hg, hcell⟩ := ho.row
    have e0 : x2.w.cell? ⟨g, k * 5, none⟩ = some (.string (feaAt k).name) := by rw [show k * 5 = k * 5 + 0 from rfl, hcell k hk20 0 (by omega)]; rfl
    have e1 : x2.w.cell? ⟨g, k * 5 + 1, none⟩ = some (.bool (feaAt k).mv) := by rw [hcell k hk20 1 (by omega)]; rfl
    have e2 : x2.w.cell? ⟨g, k * 5 + 2, none⟩ = some (.int .i64 (feaAt k).off) := by rw [hcell k hk20 2 (by omega)]; rfl
    have e3 : x2.w.cell? ⟨g, k * 5 + 3, none⟩ = some (.int .i64 (feaAt k).m) := by rw [hcell k hk20 3 (by omega)]; rfl
    have e4 : x2.w.cell? ⟨g, k * 5 + 4, none⟩ = some (.int .i64 (feaAt k).d) := by rw [hcell k hk20 4 (by omega)]; rfl
    clear hb2 ho hcell
    go_wp2
    obtain ⟨W9, e9⟩ : ∃ W9, W9 = ((((x2.w.setCell ⟨w.heap.size, 0, none⟩ (.string (feaAt k).name)).setCell ⟨w.heap.size, 1, none⟩ (.bool (feaAt k).mv)).setCell ⟨w.heap.size, 2, none⟩ (.int .i64 (feaAt k).off)).setCell ⟨w.heap.size, 3, none⟩ (.int .i64 (feaAt k).m)).setCell ⟨w.heap.size, 4, none⟩ (.int .i64 (feaAt k).d) := ⟨_, rfl⟩
    have Z9 : Blk W9 w.heap.size #[.string (feaAt k).name, .bool (feaAt k).mv, .int .i64 (feaAt k).off, .int .i64 (feaAt k).m, .int .i64 (feaAt k).d] 159 := by rw [e9]; exact ((((((HC.out x2).set 0 _).set 1 _).set 2 _).set 3 _).set 4 _)
    have B9 : Below w.heap.size w W9 := by rw [e9]; exact (Below.setCell (Below.setCell (Below.setCell (Below.setCell (Below.setCell (HBl.out x2) (p := ⟨w.heap.size, 0, none⟩) (Nat.le_refl _) _) (p := ⟨w.heap.size, 1, none⟩) (Nat.le_refl _) _) (p := ⟨w.heap.size, 2, none⟩) (Nat.le_refl _) _) (p := ⟨w.heap.size, 3, none⟩) (Nat.le_refl _) _) (p := ⟨w.heap.size, 4, none⟩) (Nat.le_refl _) _)
    rw [← e9]
    clear e9
    have q0 : W9.cell? ⟨w.heap.size, 0, none⟩ = some (.string (feaAt k).name) := Z9.cell 0 rfl
    have q1 : W9.cell? ⟨w.heap.size, 1, none⟩ = some (.bool (feaAt k).mv) := Z9.cell 1 rfl
    have q2 : W9.cell? ⟨w.heap.size, 2, none⟩ = some (.int .i64 (feaAt k).off) := Z9.cell 2 rfl
    have q3 : W9.cell? ⟨w.heap.size, 3, none⟩ = some (.int .i64 (feaAt k).m) := Z9.cell 3 rfl
    have q4 : W9.cell? ⟨w.heap.size, 4, none⟩ = some (.int .i64 (feaAt k).d) := Z9.cell 4 rfl
    exact bodyPost_ret (by simp [results, Tryz.results121, go_sem, q0, q1, q2, q3, q4]; first | done | rfl | exact ⟨rfl, rfl, rfl, rfl, rfl⟩) rfl ⟨rfl, B9⟩
set_option maxHeartbeats 2000000 in
theorem implDayRight (m d : Int) (w : World) : Calls Tryz.prog 231 #[.agg #[.int .i64 m, .int .i64 d]] w fun e w' => e = .returned (.bool (decide (1 ≤ m ∧ m ≤ 12 ∧ 1 ≤ d ∧ d ≤ 31))) ∧ Below w.heap.size w w' := by
  obtain ⟨W0, hW0, hC, hBl⟩ := box_any w #[.int .i64 m, .int .i64 d] 167
  have c0 : ∀ x : Later W0, x.w.cell? ⟨w.heap.size, 0, none⟩ = some (.int .i64 m) := fun x => (hC x).cell 0 rfl
  have c1 : ∀ x : Later W0, x.w.cell? ⟨w.heap.size, 1, none⟩ = some (.int .i64 d) := fun x => (hC x).cell 1 rfl
  obtain ⟨x0, hx0⟩ : ∃ x0 : Later W0, W0 = x0.w := ⟨⟨W0, Below.refl _ _⟩, rfl⟩
  have HW0 := hideP (hW0.symm.trans hx0)
  have HBl := hideP (hBl x0)
  clear hW0 hC hBl hx0
  by_cases h1 : 1 ≤ m
  case neg =>
    rw [decide_eq_false (by omega)]
    go_enter Tryz.func231, Tryz.ntmps231
    go_wp2_with fail
    rw [HW0.out]
    go_wp2
    go_ret
    exact ⟨rfl, HBl.out⟩
  by_cases h2 : m ≤ 12
  case neg =>
    rw [decide_eq_false (by omega)]
    go_enter Tryz.func231, Tryz.ntmps231
    go_wp2_with fail
    rw [HW0.out]
    go_wp2
    go_ret
    exact ⟨rfl, HBl.out⟩
  by_cases h3 : 1 ≤ d
  case neg =>
    rw [decide_eq_false (by omega)]
    go_enter Tryz.func231, Tryz.ntmps231
    go_wp2_with fail
    rw [HW0.out]
    go_wp2
    go_ret
    exact ⟨rfl, HBl.out⟩
  by_cases h4 : d ≤ 31
  case neg =>
    rw [decide_eq_false (by omega)]
    go_enter Tryz.func231, Tryz.ntmps231
    go_wp2_with fail
    rw [HW0.out]
    go_wp2
    go_ret
    exact ⟨rfl, HBl.out⟩
  rw [decide_eq_true (by omega)]
  go_enter Tryz.func231, Tryz.ntmps231
  go_wp2_with fail
  rw [HW0.out]
  go_wp2
  go_ret
  exact ⟨rfl, HBl.out⟩
theorem implRomanOk (r : Rom) (w : World) (hT : Tab w) : Calls Tryz.prog 236 #[romV r] w fun e w' => e = .returned (.bool (romB r)) ∧ Below w.heap.size w w' := by
  obtain ⟨cn, mk, mo, tw⟩ := r
  obtain ⟨W0, hW0, c0, c1, c2, c3, hBl⟩ := rom_box w cn mk mo tw
  have K4 : ∀ W, Tab W → Calls Tryz.prog 241 #[.int .i64 0, .int .i64 4, .agg #[.int .i64 cn, .int .i64 mk, .int .i64 mo, .bool tw]] W fun e w' => e = .returned (dayV (dayOfRoman 0 4 ⟨cn, mk, mo, tw⟩)) ∧ Below W.heap.size W w' := fun W h => implDayOfRoman 0 4 ⟨cn, mk, mo, tw⟩ W h
  have o4 := day_ok 0 4 ⟨cn, mk, mo, tw⟩
  obtain ⟨B, hB⟩ : ∃ B, B = romB ⟨cn, mk, mo, tw⟩ := ⟨_, rfl⟩
  rw [show dayR 0 4 ⟨cn, mk, mo, tw⟩ = B from hB.symm] at o4
  rw [← hB]
  have HW0 := hideP hW0
  have HBl := hideP hBl
  have HT : Hid (∀ x : Later W0, Tab x.w) := fun x => hT.later (hBl x)
  obtain ⟨x0, hx0⟩ := Later.of (Below.refl W0.heap.size W0)
  have HX0 := hideP hx0
  clear hB hW0 hBl hT hx0
  generalize dayOfRoman 0 4 ⟨cn, mk, mo, tw⟩ = q4 at *
  obtain ⟨s0, s1, s2, s3⟩ := q4
  have D4 : ∀ W, Tab W → Calls Tryz.prog 109 #[.agg #[.int .i64 s0, .int .i64 s1, .int .i64 s2, .int .i64 s3]] W fun e w' => e = .returned (.bool B) ∧ Below W.heap.size W w' := fun W h => by rw [← o4]; exact implDateOk s0 s1 s2 s3 W h
  clear o4
  go_enter Tryz.func236, Tryz.ntmps236
  go_wp2_with fail
  rw [← HW0.out, HX0.out]
  refine (K4 _ (HT.out x0)).mono ?_
  rintro e w1 ⟨rfl, hb⟩
  obtain ⟨x1, rfl⟩ := x0.next hb
  clear hb
  go_wp2_with fail
  refine (D4 _ (HT.out x1)).mono ?_
  rintro e w2 ⟨rfl, hb⟩
  obtain ⟨x2, rfl⟩ := x1.next hb
  clear hb
  go_wp2
  go_ret
  exact ⟨rfl, HBl.out x2⟩
set_option maxHeartbeats 2000000 in
theorem implRomRight (a b c : Int) (t : Bool) (w : World) (hT : Tab w) : Calls Tryz.prog 234 #[.agg #[.int .i64 a, .int .i64 b, .int .i64 c, .bool t]] w fun e w' => e = .returned (.bool (romB ⟨a, b, c, t⟩)) ∧ Below w.heap.size w w' := by
  obtain ⟨W0, hW0, hC, hBl⟩ := box_any w #[.int .i64 a, .int .i64 b, .int .i64 c, .bool t] 169
  have c0 : ∀ x : Later W0, x.w.cell? ⟨w.heap.size, 0, none⟩ = some (.int .i64 a) := fun x => (hC x).cell 0 rfl
  have c1 : ∀ x : Later W0, x.w.cell? ⟨w.heap.size, 1, none⟩ = some (.int .i64 b) := fun x => (hC x).cell 1 rfl
  have c2 : ∀ x : Later W0, x.w.cell? ⟨w.heap.size, 2, none⟩ = some (.int .i64 c) := fun x => (hC x).cell 2 rfl
  have c3 : ∀ x : Later W0, x.w.cell? ⟨w.heap.size, 3, none⟩ = some (.bool t) := fun x => (hC x).cell 3 rfl
  obtain ⟨x0, hx0⟩ : ∃ x0 : Later W0, W0 = x0.w := ⟨⟨W0, Below.refl _ _⟩, rfl⟩
  have HW0 := hideP (hW0.symm.trans hx0)
  have HBl := hideP hBl
  have K : ∀ x : Later W0, Calls Tryz.prog 236 #[.agg #[.int .i64 a, .int .i64 b, .int .i64 c, .bool t]] x.w fun e w' => e = .returned (.bool (romB ⟨a, b, c, t⟩)) ∧ Below x.w.heap.size x.w w' := fun x => implRomanOk ⟨a, b, c, t⟩ x.w (hT.later (hBl x))
  generalize romB ⟨a, b, c, t⟩ = B at *
  clear hW0 hC hBl hx0 hT
  go_enter Tryz.func234, Tryz.ntmps234
  go_wp2_with fail
  rw [HW0.out]
  refine (K x0).mono ?_
  rintro e w1 ⟨rfl, hb⟩
  obtain ⟨x1, rfl⟩ := x0.next hb
  clear hb
  go_wp2
  go_ret
  exact ⟨rfl, HBl.out x1⟩
set_option maxHeartbeats 2000000 in
theorem implFeaRight (s : ByteArray) (mv : Bool) (o m d p : Int) (w : World) (hs : s.size ≤ maxLen) (hT : Tab w) : Calls Tryz.prog 247 #[.agg #[.string s, .bool mv, .int .i64 o, .int .i64 m, .int .i64 d, .int .i64 p]] w fun e w' => e = .returned (.bool (feaOk s mv o m d && (decide (0 ≤ p) && decide (p ≤ 99)))) ∧ Below w.heap.size w w' := by
  obtain ⟨W0, hW0, hC, hBl⟩ := box_any w #[.string s, .bool mv, .int .i64 o, .int .i64 m, .int .i64 d, .int .i64 p] 172
  have c0 : ∀ x : Later W0, x.w.cell? ⟨w.heap.size, 0, none⟩ = some (.string s) := fun x => (hC x).cell 0 rfl
  have c1 : ∀ x : Later W0, x.w.cell? ⟨w.heap.size, 1, none⟩ = some (.bool mv) := fun x => (hC x).cell 1 rfl
  have c2 : ∀ x : Later W0, x.w.cell? ⟨w.heap.size, 2, none⟩ = some (.int .i64 o) := fun x => (hC x).cell 2 rfl
  have c3 : ∀ x : Later W0, x.w.cell? ⟨w.heap.size, 3, none⟩ = some (.int .i64 m) := fun x => (hC x).cell 3 rfl
  have c4 : ∀ x : Later W0, x.w.cell? ⟨w.heap.size, 4, none⟩ = some (.int .i64 d) := fun x => (hC x).cell 4 rfl
  have c5 : ∀ x : Later W0, x.w.cell? ⟨w.heap.size, 5, none⟩ = some (.int .i64 p) := fun x => (hC x).cell 5 rfl
  obtain ⟨x0, hx0⟩ : ∃ x0 : Later W0, W0 = x0.w := ⟨⟨W0, Below.refl _ _⟩, rfl⟩
  have HW0 := hideP (hW0.symm.trans hx0)
  have HBl := hideP hBl
  have K : ∀ x : Later W0, Calls Tryz.prog 249 #[.agg #[.string s, .bool mv, .int .i64 o, .int .i64 m, .int .i64 d]] x.w fun e w' => e = .returned (.bool (feaOk s mv o m d)) ∧ Below x.w.heap.size x.w w' := fun x => implFeaOk s mv o m d x.w hs (hT.later (hBl x))
  generalize feaOk s mv o m d = B at *
  clear hW0 hC hBl hx0 hT
  rcases Int.lt_or_le p 0 with h1 | h1
  all_goals rcases Int.lt_or_le 99 p with h2 | h2
  all_goals try (exfalso; omega)
  all_goals
    cases B
    all_goals
      go_enter Tryz.func247, Tryz.ntmps247
      go_wp2_with fail
      rw [HW0.out]
      refine (K x0).mono ?_
      rintro e w1 ⟨rfl, hb⟩
      obtain ⟨x1, rfl⟩ := x0.next hb
      clear hb
      go_wp2
      go_ret
      refine ⟨?_, HBl.out x1⟩
      simp only [Bool.false_and, Bool.true_and]
      try (first | rw [decide_eq_true (show 0 ≤ p by omega)] | rw [decide_eq_false (show ¬ 0 ≤ p by omega)])
      try (first | rw [decide_eq_true (show p ≤ 99 by omega)] | rw [decide_eq_false (show ¬ p ≤ 99 by omega)])
      try rfl
end Go.Proofs.YtdgolaaheakfoaaGreatDoor.ctr
namespace Go.Proofs.YtdgolaaheakfoaaGreatDoor.ctr
open Go.RowKit
set_option maxHeartbeats 2000000 in
theorem kindDay (m d : Int) (w : World) : Calls Tryz.prog 85 #[.agg #[.int .i64 0, .int .i64 m, .int .i64 d, .int .i64 0, .int .i64 0, .int .i64 0, .bool false, .string ⟨#[]⟩, .int .i64 0]] w fun e w' => e = .returned (.iface 167 (.agg #[.int .i64 m, .int .i64 d])) ∧ Below w.heap.size w w' := by
  obtain ⟨W0, hW0, hC, hBl⟩ := box_any w #[.int .i64 0, .int .i64 m, .int .i64 d, .int .i64 0, .int .i64 0, .int .i64 0, .bool false, .string ⟨#[]⟩, .int .i64 0] 44
  have c0 : ∀ x : Later W0, x.w.cell? ⟨w.heap.size, 0, none⟩ = some (.int .i64 0) := fun x => (hC x).cell 0 rfl
  have c1 : ∀ x : Later W0, x.w.cell? ⟨w.heap.size, 1, none⟩ = some (.int .i64 m) := fun x => (hC x).cell 1 rfl
  have c2 : ∀ x : Later W0, x.w.cell? ⟨w.heap.size, 2, none⟩ = some (.int .i64 d) := fun x => (hC x).cell 2 rfl
  have c3 : ∀ x : Later W0, x.w.cell? ⟨w.heap.size, 3, none⟩ = some (.int .i64 0) := fun x => (hC x).cell 3 rfl
  have c4 : ∀ x : Later W0, x.w.cell? ⟨w.heap.size, 4, none⟩ = some (.int .i64 0) := fun x => (hC x).cell 4 rfl
  have c5 : ∀ x : Later W0, x.w.cell? ⟨w.heap.size, 5, none⟩ = some (.int .i64 0) := fun x => (hC x).cell 5 rfl
  have c6 : ∀ x : Later W0, x.w.cell? ⟨w.heap.size, 6, none⟩ = some (.bool false) := fun x => (hC x).cell 6 rfl
  have c7 : ∀ x : Later W0, x.w.cell? ⟨w.heap.size, 7, none⟩ = some (.string ⟨#[]⟩) := fun x => (hC x).cell 7 rfl
  have c8 : ∀ x : Later W0, x.w.cell? ⟨w.heap.size, 8, none⟩ = some (.int .i64 0) := fun x => (hC x).cell 8 rfl
  obtain ⟨x0, hx0⟩ : ∃ x0 : Later W0, W0 = x0.w := ⟨⟨W0, Below.refl _ _⟩, rfl⟩
  have HW0 := hideP (hW0.symm.trans hx0)
  have HBl := hideP hBl
  clear hW0 hC hBl hx0
  go_enter Tryz.func85, Tryz.ntmps85
  go_wp2_with fail
  rw [HW0.out]
  go_wp2
  go_ret
  exact ⟨rfl, HBl.out x0⟩
set_option maxHeartbeats 2000000 in
theorem kindRom (a b c : Int) (t : Bool) (w : World) : Calls Tryz.prog 85 #[.agg #[.int .i64 1, .int .i64 0, .int .i64 0, .int .i64 a, .int .i64 b, .int .i64 c, .bool t, .string ⟨#[]⟩, .int .i64 0]] w fun e w' => e = .returned (.iface 169 (.agg #[.int .i64 a, .int .i64 b, .int .i64 c, .bool t])) ∧ Below w.heap.size w w' := by
  obtain ⟨W0, hW0, hC, hBl⟩ := box_any w #[.int .i64 1, .int .i64 0, .int .i64 0, .int .i64 a, .int .i64 b, .int .i64 c, .bool t, .string ⟨#[]⟩, .int .i64 0] 44
  have c0 : ∀ x : Later W0, x.w.cell? ⟨w.heap.size, 0, none⟩ = some (.int .i64 1) := fun x => (hC x).cell 0 rfl
  have c1 : ∀ x : Later W0, x.w.cell? ⟨w.heap.size, 1, none⟩ = some (.int .i64 0) := fun x => (hC x).cell 1 rfl
  have c2 : ∀ x : Later W0, x.w.cell? ⟨w.heap.size, 2, none⟩ = some (.int .i64 0) := fun x => (hC x).cell 2 rfl
  have c3 : ∀ x : Later W0, x.w.cell? ⟨w.heap.size, 3, none⟩ = some (.int .i64 a) := fun x => (hC x).cell 3 rfl
  have c4 : ∀ x : Later W0, x.w.cell? ⟨w.heap.size, 4, none⟩ = some (.int .i64 b) := fun x => (hC x).cell 4 rfl
  have c5 : ∀ x : Later W0, x.w.cell? ⟨w.heap.size, 5, none⟩ = some (.int .i64 c) := fun x => (hC x).cell 5 rfl
  have c6 : ∀ x : Later W0, x.w.cell? ⟨w.heap.size, 6, none⟩ = some (.bool t) := fun x => (hC x).cell 6 rfl
  have c7 : ∀ x : Later W0, x.w.cell? ⟨w.heap.size, 7, none⟩ = some (.string ⟨#[]⟩) := fun x => (hC x).cell 7 rfl
  have c8 : ∀ x : Later W0, x.w.cell? ⟨w.heap.size, 8, none⟩ = some (.int .i64 0) := fun x => (hC x).cell 8 rfl
  obtain ⟨x0, hx0⟩ : ∃ x0 : Later W0, W0 = x0.w := ⟨⟨W0, Below.refl _ _⟩, rfl⟩
  have HW0 := hideP (hW0.symm.trans hx0)
  have HBl := hideP hBl
  clear hW0 hC hBl hx0
  go_enter Tryz.func85, Tryz.ntmps85
  go_wp2_with fail
  rw [HW0.out]
  go_wp2
  go_ret
  exact ⟨rfl, HBl.out x0⟩
set_option maxHeartbeats 2000000 in
theorem kindFea (f : ByteArray) (p : Int) (w : World) : Calls Tryz.prog 85 #[.agg #[.int .i64 2, .int .i64 0, .int .i64 0, .int .i64 0, .int .i64 0, .int .i64 0, .bool false, .string f, .int .i64 p]] w fun e w' => e = .returned (.iface 172 (.agg #[.string (feaOf f).name, .bool (feaOf f).mv, .int .i64 (feaOf f).off, .int .i64 (feaOf f).m, .int .i64 (feaOf f).d, .int .i64 p])) ∧ Below w.heap.size w w' := by
  obtain ⟨W0, hW0, hC, hBl⟩ := box_any w #[.int .i64 2, .int .i64 0, .int .i64 0, .int .i64 0, .int .i64 0, .int .i64 0, .bool false, .string f, .int .i64 p] 44
  have c0 : ∀ x : Later W0, x.w.cell? ⟨w.heap.size, 0, none⟩ = some (.int .i64 2) := fun x => (hC x).cell 0 rfl
  have c1 : ∀ x : Later W0, x.w.cell? ⟨w.heap.size, 1, none⟩ = some (.int .i64 0) := fun x => (hC x).cell 1 rfl
  have c2 : ∀ x : Later W0, x.w.cell? ⟨w.heap.size, 2, none⟩ = some (.int .i64 0) := fun x => (hC x).cell 2 rfl
  have c3 : ∀ x : Later W0, x.w.cell? ⟨w.heap.size, 3, none⟩ = some (.int .i64 0) := fun x => (hC x).cell 3 rfl
  have c4 : ∀ x : Later W0, x.w.cell? ⟨w.heap.size, 4, none⟩ = some (.int .i64 0) := fun x => (hC x).cell 4 rfl
  have c5 : ∀ x : Later W0, x.w.cell? ⟨w.heap.size, 5, none⟩ = some (.int .i64 0) := fun x => (hC x).cell 5 rfl
  have c6 : ∀ x : Later W0, x.w.cell? ⟨w.heap.size, 6, none⟩ = some (.bool false) := fun x => (hC x).cell 6 rfl
  have c7 : ∀ x : Later W0, x.w.cell? ⟨w.heap.size, 7, none⟩ = some (.string f) := fun x => (hC x).cell 7 rfl
  have c8 : ∀ x : Later W0, x.w.cell? ⟨w.heap.size, 8, none⟩ = some (.int .i64 p) := fun x => (hC x).cell 8 rfl
  obtain ⟨x0, hx0⟩ : ∃ x0 : Later W0, W0 = x0.w := ⟨⟨W0, Below.refl _ _⟩, rfl⟩
  have HW0 := hideP (hW0.symm.trans hx0)
  have HBl := hideP hBl
  clear hW0 hC hBl hx0
  have KN : ∀ W, Calls Tryz.prog 121 #[.string f] W fun e w' => e = .returned (.agg #[.string (feaOf f).name, .bool (feaOf f).mv, .int .i64 (feaOf f).off, .int .i64 (feaOf f).m, .int .i64 (feaOf f).d]) ∧ Below W.heap.size W w' := fun W => implFeastNamed f W
  generalize feaOf f = g at *
  go_enter Tryz.func85, Tryz.ntmps85
  go_wp2_with fail
  rw [HW0.out]
  go_wp2_with fail
  refine wp_region_later (W := W0) x0.below (by kernel_rfl) (by kernel_rfl) ?_
  repeat (go_big_quiet_step (first | (go_at_call 121; exact calls_later (KN _)) | fail))
  refine wpQuiet_nil ?_
  intro _ hw'
  obtain ⟨u, rfl⟩ := hw'
  go_wp2
  go_ret
  exact ⟨rfl, HBl.out u⟩
set_option maxHeartbeats 4000000 in
theorem kindNo (k m d a b c : Int) (t : Bool) (f : ByteArray) (p : Int) (w : World) (h0 : k ≠ 0) (h1 : k ≠ 1) (h2 : k ≠ 2) : Calls Tryz.prog 85 #[.agg #[.int .i64 k, .int .i64 m, .int .i64 d, .int .i64 a, .int .i64 b, .int .i64 c, .bool t, .string f, .int .i64 p]] w fun e w' => e = .returned .nilIface ∧ Below w.heap.size w w' := by
  have e0 : (k == 0) = false := by simpa using h0
  have e1 : (k == 1) = false := by simpa using h1
  have e2 : (k == 2) = false := by simpa using h2
  have HNo : Hid (¬ False) := fun h => h
  go_enter Tryz.func85, Tryz.ntmps85
  go_wp2
  all_goals first | (go_ret; exact ⟨rfl, (Below.refl _ _).alloc (Nat.le_refl _) _⟩) | (exact (HNo.out (by simp_all)).elim)
set_option maxHeartbeats 4000000 in
theorem kindNo0 (m d a b c : Int) (t : Bool) (f : ByteArray) (p : Int) (w : World) (hno : ¬ (a = 0 ∧ b = 0 ∧ c = 0 ∧ t = false ∧ f.toList = [] ∧ p = 0)) : Calls Tryz.prog 85 #[.agg #[.int .i64 0, .int .i64 m, .int .i64 d, .int .i64 a, .int .i64 b, .int .i64 c, .bool t, .string f, .int .i64 p]] w fun e w' => e = .returned .nilIface ∧ Below w.heap.size w w' := by
  have HNo := hideP hno
  clear hno
  go_enter Tryz.func85, Tryz.ntmps85
  go_wp2
  all_goals first | (go_ret; exact ⟨rfl, (Below.refl _ _).alloc (Nat.le_refl _) _⟩) | (exact (HNo.out (by simp_all)).elim)
set_option maxHeartbeats 4000000 in
theorem kindNo1 (m d a b c : Int) (t : Bool) (f : ByteArray) (p : Int) (w : World) (hno : ¬ (m = 0 ∧ d = 0 ∧ f.toList = [] ∧ p = 0)) : Calls Tryz.prog 85 #[.agg #[.int .i64 1, .int .i64 m, .int .i64 d, .int .i64 a, .int .i64 b, .int .i64 c, .bool t, .string f, .int .i64 p]] w fun e w' => e = .returned .nilIface ∧ Below w.heap.size w w' := by
  have HNo := hideP hno
  clear hno
  go_enter Tryz.func85, Tryz.ntmps85
  go_wp2
  all_goals first | (go_ret; exact ⟨rfl, (Below.refl _ _).alloc (Nat.le_refl _) _⟩) | (exact (HNo.out (by simp_all)).elim)
set_option maxHeartbeats 4000000 in
theorem kindNo2 (m d a b c : Int) (t : Bool) (f : ByteArray) (p : Int) (w : World) (hno : ¬ (m = 0 ∧ d = 0 ∧ a = 0 ∧ b = 0 ∧ c = 0 ∧ t = false)) : Calls Tryz.prog 85 #[.agg #[.int .i64 2, .int .i64 m, .int .i64 d, .int .i64 a, .int .i64 b, .int .i64 c, .bool t, .string f, .int .i64 p]] w fun e w' => e = .returned .nilIface ∧ Below w.heap.size w w' := by
  have HNo := hideP hno
  clear hno
  go_enter Tryz.func85, Tryz.ntmps85
  go_wp2
  all_goals first | (go_ret; exact ⟨rfl, (Below.refl _ _).alloc (Nat.le_refl _) _⟩) | (exact (HNo.out (by simp_all)).elim)
end Go.Proofs.YtdgolaaheakfoaaGreatDoor.ctr
namespace Go.Proofs.YtdgolaaheakfoaaGreatDoor.ctr
open Go.RowKit
theorem toList_nil {f : ByteArray} (h : f.toList = []) : f = ⟨#[]⟩ := by
  rw [ByteArray.toList_eq] at h
  cases f with | mk d => cases d with | mk l => simp at h; rw [h]
def whnB (s : Whn) : Bool :=
  if s.kind = 0 then decide (s.rom.count = 0 ∧ s.rom.mark = 0 ∧ s.rom.month = 0 ∧ s.rom.twice = false ∧ s.feast.toList = [] ∧ s.plus = 0) && decide (1 ≤ s.mon ∧ s.mon ≤ 12 ∧ 1 ≤ s.day ∧ s.day ≤ 31)
  else if s.kind = 1 then decide (s.mon = 0 ∧ s.day = 0 ∧ s.feast.toList = [] ∧ s.plus = 0) && romB s.rom
  else if s.kind = 2 then decide (s.mon = 0 ∧ s.day = 0 ∧ s.rom.count = 0 ∧ s.rom.mark = 0 ∧ s.rom.month = 0 ∧ s.rom.twice = false) && (decide (0 ≤ findFeast s.feast) && (decide (0 ≤ s.plus) && decide (s.plus ≤ 99)))
  else false
set_option maxHeartbeats 2000000 in
theorem okDay (m d : Int) (w : World)  : Calls Tryz.prog 82 #[.agg #[.int .i64 0, .int .i64 m, .int .i64 d, .int .i64 0, .int .i64 0, .int .i64 0, .bool false, .string ⟨#[]⟩, .int .i64 0]] w fun e w' => e = .returned (.bool (decide (1 ≤ m ∧ m ≤ 12 ∧ 1 ≤ d ∧ d ≤ 31))) ∧ Below w.heap.size w w' := by
  have KK : ∀ W, Calls Tryz.prog 85 #[.agg #[.int .i64 0, .int .i64 m, .int .i64 d, .int .i64 0, .int .i64 0, .int .i64 0, .bool false, .string ⟨#[]⟩, .int .i64 0]] W fun e w' => e = .returned (.iface 167 (.agg #[.int .i64 m, .int .i64 d])) ∧ Below W.heap.size W w' := fun W => kindDay m d W
  have KR : ∀ W, Below w.heap.size w W → Calls Tryz.prog 231 #[.agg #[.int .i64 m, .int .i64 d]] W fun e w' => e = .returned (.bool (decide (1 ≤ m ∧ m ≤ 12 ∧ 1 ≤ d ∧ d ≤ 31))) ∧ Below W.heap.size W w' := fun W _ => implDayRight m d W
  generalize decide (1 ≤ m ∧ m ≤ 12 ∧ 1 ≤ d ∧ d ≤ 31) = B at *
  go_enter Tryz.func82, Tryz.ntmps82
  go_wp2_with fail
  refine (KK _).mono ?_
  rintro e w1 ⟨rfl, hb⟩
  have B0 : Below w.heap.size w (w.alloc (.cells #[.int .i64 0, .int .i64 m, .int .i64 d, .int .i64 0, .int .i64 0, .int .i64 0, .bool false, .string ⟨#[]⟩, .int .i64 0] 44)) := (Below.refl _ _).alloc (Nat.le_refl _) _
  have B1 : Below w.heap.size w w1 := B0.trans (hb.mono B0.size)
  clear hb B0
  go_wp2_with fail
  refine (KR _ B1).mono ?_
  rintro e w2 ⟨rfl, hb⟩
  have B2 : Below w.heap.size w w2 := B1.trans (hb.mono B1.size)
  clear hb
  go_wp2
  go_ret
  exact ⟨rfl, B2⟩
set_option maxHeartbeats 2000000 in
theorem okRom (a b c : Int) (t : Bool) (w : World) (hT : Tab w) : Calls Tryz.prog 82 #[.agg #[.int .i64 1, .int .i64 0, .int .i64 0, .int .i64 a, .int .i64 b, .int .i64 c, .bool t, .string ⟨#[]⟩, .int .i64 0]] w fun e w' => e = .returned (.bool (romB ⟨a, b, c, t⟩)) ∧ Below w.heap.size w w' := by
  have KK : ∀ W, Calls Tryz.prog 85 #[.agg #[.int .i64 1, .int .i64 0, .int .i64 0, .int .i64 a, .int .i64 b, .int .i64 c, .bool t, .string ⟨#[]⟩, .int .i64 0]] W fun e w' => e = .returned (.iface 169 (.agg #[.int .i64 a, .int .i64 b, .int .i64 c, .bool t])) ∧ Below W.heap.size W w' := fun W => kindRom a b c t W
  have KR : ∀ W, Below w.heap.size w W → Calls Tryz.prog 234 #[.agg #[.int .i64 a, .int .i64 b, .int .i64 c, .bool t]] W fun e w' => e = .returned (.bool (romB ⟨a, b, c, t⟩)) ∧ Below W.heap.size W w' := fun W hb => implRomRight a b c t W (hT.later hb)
  generalize romB ⟨a, b, c, t⟩ = B at *
  clear hT
  go_enter Tryz.func82, Tryz.ntmps82
  go_wp2_with fail
  refine (KK _).mono ?_
  rintro e w1 ⟨rfl, hb⟩
  have B0 : Below w.heap.size w (w.alloc (.cells #[.int .i64 1, .int .i64 0, .int .i64 0, .int .i64 a, .int .i64 b, .int .i64 c, .bool t, .string ⟨#[]⟩, .int .i64 0] 44)) := (Below.refl _ _).alloc (Nat.le_refl _) _
  have B1 : Below w.heap.size w w1 := B0.trans (hb.mono B0.size)
  clear hb B0
  go_wp2_with fail
  refine (KR _ B1).mono ?_
  rintro e w2 ⟨rfl, hb⟩
  have B2 : Below w.heap.size w w2 := B1.trans (hb.mono B1.size)
  clear hb
  go_wp2
  go_ret
  exact ⟨rfl, B2⟩
set_option maxHeartbeats 2000000 in
theorem okFea (f : ByteArray) (p : Int) (w : World) (hT : Tab w) : Calls Tryz.prog 82 #[.agg #[.int .i64 2, .int .i64 0, .int .i64 0, .int .i64 0, .int .i64 0, .int .i64 0, .bool false, .string f, .int .i64 p]] w fun e w' => e = .returned (.bool (decide (0 ≤ findFeast f) && (decide (0 ≤ p) && decide (p ≤ 99)))) ∧ Below w.heap.size w w' := by
  have KK : ∀ W, Calls Tryz.prog 85 #[.agg #[.int .i64 2, .int .i64 0, .int .i64 0, .int .i64 0, .int .i64 0, .int .i64 0, .bool false, .string f, .int .i64 p]] W fun e w' => e = .returned (.iface 172 (.agg #[.string (feaOf f).name, .bool (feaOf f).mv, .int .i64 (feaOf f).off, .int .i64 (feaOf f).m, .int .i64 (feaOf f).d, .int .i64 p])) ∧ Below W.heap.size W w' := fun W => kindFea f p W
  have KR : ∀ W, Below w.heap.size w W → Calls Tryz.prog 247 #[.agg #[.string (feaOf f).name, .bool (feaOf f).mv, .int .i64 (feaOf f).off, .int .i64 (feaOf f).m, .int .i64 (feaOf f).d, .int .i64 p]] W fun e w' => e = .returned (.bool (decide (0 ≤ findFeast f) && (decide (0 ≤ p) && decide (p ≤ 99)))) ∧ Below W.heap.size W w' := fun W hb => by rw [← feaOf_ok]; exact implFeaRight _ _ _ _ _ p W (Nat.le_trans (feaOf_len f) (by decide)) (hT.later hb)
  generalize (decide (0 ≤ findFeast f) && (decide (0 ≤ p) && decide (p ≤ 99))) = B at *
  generalize feaOf f = g at *
  clear hT
  go_enter Tryz.func82, Tryz.ntmps82
  go_wp2_with fail
  refine (KK _).mono ?_
  rintro e w1 ⟨rfl, hb⟩
  have B0 : Below w.heap.size w (w.alloc (.cells #[.int .i64 2, .int .i64 0, .int .i64 0, .int .i64 0, .int .i64 0, .int .i64 0, .bool false, .string f, .int .i64 p] 44)) := (Below.refl _ _).alloc (Nat.le_refl _) _
  have B1 : Below w.heap.size w w1 := B0.trans (hb.mono B0.size)
  clear hb B0
  go_wp2_with fail
  refine (KR _ B1).mono ?_
  rintro e w2 ⟨rfl, hb⟩
  have B2 : Below w.heap.size w w2 := B1.trans (hb.mono B1.size)
  clear hb
  go_wp2
  go_ret
  exact ⟨rfl, B2⟩
set_option maxHeartbeats 2000000 in
theorem okNo (k m d a b c : Int) (t : Bool) (f : ByteArray) (p : Int) (w : World) (h0 : k ≠ 0) (h1 : k ≠ 1) (h2 : k ≠ 2) : Calls Tryz.prog 82 #[.agg #[.int .i64 k, .int .i64 m, .int .i64 d, .int .i64 a, .int .i64 b, .int .i64 c, .bool t, .string f, .int .i64 p]] w fun e w' => e = .returned (.bool (false)) ∧ Below w.heap.size w w' := by
  have KK : ∀ W, Calls Tryz.prog 85 #[.agg #[.int .i64 k, .int .i64 m, .int .i64 d, .int .i64 a, .int .i64 b, .int .i64 c, .bool t, .string f, .int .i64 p]] W fun e w' => e = .returned (.nilIface) ∧ Below W.heap.size W w' := fun W => kindNo k m d a b c t f p W h0 h1 h2
  go_enter Tryz.func82, Tryz.ntmps82
  go_wp2_with fail
  refine (KK _).mono ?_
  rintro e w1 ⟨rfl, hb⟩
  have B0 : Below w.heap.size w (w.alloc (.cells #[.int .i64 k, .int .i64 m, .int .i64 d, .int .i64 a, .int .i64 b, .int .i64 c, .bool t, .string f, .int .i64 p] 44)) := (Below.refl _ _).alloc (Nat.le_refl _) _
  have B1 : Below w.heap.size w w1 := B0.trans (hb.mono B0.size)
  clear hb B0
  go_wp2
  go_ret
  exact ⟨rfl, B1⟩
set_option maxHeartbeats 2000000 in
theorem okNo0 (m d a b c : Int) (t : Bool) (f : ByteArray) (p : Int) (w : World) (h : ¬ (a = 0 ∧ b = 0 ∧ c = 0 ∧ t = false ∧ f.toList = [] ∧ p = 0)) : Calls Tryz.prog 82 #[.agg #[.int .i64 0, .int .i64 m, .int .i64 d, .int .i64 a, .int .i64 b, .int .i64 c, .bool t, .string f, .int .i64 p]] w fun e w' => e = .returned (.bool (false)) ∧ Below w.heap.size w w' := by
  have KK : ∀ W, Calls Tryz.prog 85 #[.agg #[.int .i64 0, .int .i64 m, .int .i64 d, .int .i64 a, .int .i64 b, .int .i64 c, .bool t, .string f, .int .i64 p]] W fun e w' => e = .returned (.nilIface) ∧ Below W.heap.size W w' := fun W => kindNo0 m d a b c t f p W h
  go_enter Tryz.func82, Tryz.ntmps82
  go_wp2_with fail
  refine (KK _).mono ?_
  rintro e w1 ⟨rfl, hb⟩
  have B0 : Below w.heap.size w (w.alloc (.cells #[.int .i64 0, .int .i64 m, .int .i64 d, .int .i64 a, .int .i64 b, .int .i64 c, .bool t, .string f, .int .i64 p] 44)) := (Below.refl _ _).alloc (Nat.le_refl _) _
  have B1 : Below w.heap.size w w1 := B0.trans (hb.mono B0.size)
  clear hb B0
  go_wp2
  go_ret
  exact ⟨rfl, B1⟩
set_option maxHeartbeats 2000000 in
theorem okNo1 (m d a b c : Int) (t : Bool) (f : ByteArray) (p : Int) (w : World) (h : ¬ (m = 0 ∧ d = 0 ∧ f.toList = [] ∧ p = 0)) : Calls Tryz.prog 82 #[.agg #[.int .i64 1, .int .i64 m, .int .i64 d, .int .i64 a, .int .i64 b, .int .i64 c, .bool t, .string f, .int .i64 p]] w fun e w' => e = .returned (.bool (false)) ∧ Below w.heap.size w w' := by
  have KK : ∀ W, Calls Tryz.prog 85 #[.agg #[.int .i64 1, .int .i64 m, .int .i64 d, .int .i64 a, .int .i64 b, .int .i64 c, .bool t, .string f, .int .i64 p]] W fun e w' => e = .returned (.nilIface) ∧ Below W.heap.size W w' := fun W => kindNo1 m d a b c t f p W h
  go_enter Tryz.func82, Tryz.ntmps82
  go_wp2_with fail
  refine (KK _).mono ?_
  rintro e w1 ⟨rfl, hb⟩
  have B0 : Below w.heap.size w (w.alloc (.cells #[.int .i64 1, .int .i64 m, .int .i64 d, .int .i64 a, .int .i64 b, .int .i64 c, .bool t, .string f, .int .i64 p] 44)) := (Below.refl _ _).alloc (Nat.le_refl _) _
  have B1 : Below w.heap.size w w1 := B0.trans (hb.mono B0.size)
  clear hb B0
  go_wp2
  go_ret
  exact ⟨rfl, B1⟩
set_option maxHeartbeats 2000000 in
theorem okNo2 (m d a b c : Int) (t : Bool) (f : ByteArray) (p : Int) (w : World) (h : ¬ (m = 0 ∧ d = 0 ∧ a = 0 ∧ b = 0 ∧ c = 0 ∧ t = false)) : Calls Tryz.prog 82 #[.agg #[.int .i64 2, .int .i64 m, .int .i64 d, .int .i64 a, .int .i64 b, .int .i64 c, .bool t, .string f, .int .i64 p]] w fun e w' => e = .returned (.bool (false)) ∧ Below w.heap.size w w' := by
  have KK : ∀ W, Calls Tryz.prog 85 #[.agg #[.int .i64 2, .int .i64 m, .int .i64 d, .int .i64 a, .int .i64 b, .int .i64 c, .bool t, .string f, .int .i64 p]] W fun e w' => e = .returned (.nilIface) ∧ Below W.heap.size W w' := fun W => kindNo2 m d a b c t f p W h
  go_enter Tryz.func82, Tryz.ntmps82
  go_wp2_with fail
  refine (KK _).mono ?_
  rintro e w1 ⟨rfl, hb⟩
  have B0 : Below w.heap.size w (w.alloc (.cells #[.int .i64 2, .int .i64 m, .int .i64 d, .int .i64 a, .int .i64 b, .int .i64 c, .bool t, .string f, .int .i64 p] 44)) := (Below.refl _ _).alloc (Nat.le_refl _) _
  have B1 : Below w.heap.size w w1 := B0.trans (hb.mono B0.size)
  clear hb B0
  go_wp2
  go_ret
  exact ⟨rfl, B1⟩
theorem implWhenOk (s : Whn) (w : World) (hT : Tab w) : Calls Tryz.prog 82 #[whnV s] w fun e w' => e = .returned (.bool (whnB s)) ∧ Below w.heap.size w w' := by
  obtain ⟨k, m, d, ⟨a, b, c, t⟩, f, p⟩ := s
  by_cases h0 : k = 0
  · subst h0
    by_cases h : a = 0 ∧ b = 0 ∧ c = 0 ∧ t = false ∧ f.toList = [] ∧ p = 0
    · obtain ⟨rfl, rfl, rfl, rfl, h5, rfl⟩ := h
      obtain rfl := toList_nil h5
      have K := okDay m d w
      rw [show whnB ⟨0, m, d, ⟨0, 0, 0, false⟩, ⟨#[]⟩, 0⟩ = decide (1 ≤ m ∧ m ≤ 12 ∧ 1 ≤ d ∧ d ≤ 31) by unfold whnB; rw [if_pos rfl, decide_eq_true ⟨rfl, rfl, rfl, rfl, h5, rfl⟩, Bool.true_and]]
      exact K
    · rw [show whnB ⟨0, m, d, ⟨a, b, c, t⟩, f, p⟩ = false by unfold whnB; rw [if_pos rfl, decide_eq_false h, Bool.false_and]]
      exact okNo0 m d a b c t f p w h
  by_cases h1 : k = 1
  · subst h1
    by_cases h : m = 0 ∧ d = 0 ∧ f.toList = [] ∧ p = 0
    · obtain ⟨rfl, rfl, h5, rfl⟩ := h
      obtain rfl := toList_nil h5
      rw [show whnB ⟨1, 0, 0, ⟨a, b, c, t⟩, ⟨#[]⟩, 0⟩ = romB ⟨a, b, c, t⟩ by unfold whnB; rw [if_neg (show ¬ (1 : Int) = 0 by omega), if_pos rfl, decide_eq_true ⟨rfl, rfl, h5, rfl⟩, Bool.true_and]]
      exact okRom a b c t w hT
    · rw [show whnB ⟨1, m, d, ⟨a, b, c, t⟩, f, p⟩ = false by unfold whnB; rw [if_neg (show ¬ (1 : Int) = 0 by omega), if_pos rfl, decide_eq_false h, Bool.false_and]]
      exact okNo1 m d a b c t f p w h
  by_cases h2 : k = 2
  · subst h2
    by_cases h : m = 0 ∧ d = 0 ∧ a = 0 ∧ b = 0 ∧ c = 0 ∧ t = false
    · rw [show whnB ⟨2, m, d, ⟨a, b, c, t⟩, f, p⟩ = (decide (0 ≤ findFeast f) && (decide (0 ≤ p) && decide (p ≤ 99))) by unfold whnB; rw [if_neg (show ¬ (2 : Int) = 0 by omega), if_neg (show ¬ (2 : Int) = 1 by omega), if_pos rfl, decide_eq_true h, Bool.true_and]]
      obtain ⟨rfl, rfl, rfl, rfl, rfl, rfl⟩ := h
      exact okFea f p w hT
    · rw [show whnB ⟨2, m, d, ⟨a, b, c, t⟩, f, p⟩ = false by unfold whnB; rw [if_neg (show ¬ (2 : Int) = 0 by omega), if_neg (show ¬ (2 : Int) = 1 by omega), if_pos rfl, decide_eq_false h, Bool.false_and]]
      exact okNo2 m d a b c t f p w h
  rw [show whnB ⟨k, m, d, ⟨a, b, c, t⟩, f, p⟩ = false by unfold whnB; rw [if_neg h0, if_neg h1, if_neg h2]]
  exact okNo k m d a b c t f p w h0 h1 h2
end Go.Proofs.YtdgolaaheakfoaaGreatDoor.ctr
