/- What tells a day of a regime by a kind (Whens): plain; and what else the law reaches. -/
import Derived.Test.YtdmlhiailjnhcaaGreatDoorJnXbj
import Derived.Test.YtdmlhiailjnhcaaGreatDoorJnXay
import Derived.Test.YtdmlhiailjnhcaaGreatDoorJnXbd
import Derived.Test.YtdmlhiailjnhcaaGreatDoorJnXaa
import Derived.Deep.DeepCutAuto
import Derived.Test.YtdmlhiailjnhcaaGreatDoorJnXbh
namespace Go.Proofs.YtdmlhiailjnhcaaGreatDoor.ctr
open Go.RowKit
abbrev whn0 : Whn := ⟨0, 0, 0, rom0, ⟨#[]⟩, 0⟩
theorem textIn_short (c y n : Int) (mv : Bool) : (textIn c y n mv).size ≤ 100 := by
 have hb := last_b c y n mv 20 (Nat.le_refl _)
 have hle : (lastTo c y n mv 20).1.size ≠ 0 → (lastTo c y n mv 20).2 ≤ n := fun h => by
  rcases last_spec c y n mv 20 (Nat.le_refl _) with e | ⟨i, _, e, _, h'⟩
  · rw [e] at h
    exact absurd rfl h
  · rw [e]
    exact h'
 unfold textIn
 split
 · exact Nat.zero_le _
 · rename_i h
   unfold plusText
   split
   · omega
   · have h3 := itoa_short (k := n - (lastTo c y n mv 20).2) (by have := hle (fun e => h (.inl e)); omega) (by omega)
     rw [ByteArray.size_append, ByteArray.size_append]
     show (lastTo c y n mv 20).1.size + 1 + (itoaB _).size ≤ 100
     omega
theorem feastText_short (c n : Int) (mv : Bool) : (feastText c n mv).size ≤ 100 := by
 unfold feastText
 split
 · exact textIn_short _ _ _ _
 · exact Nat.zero_le _
noncomputable def feaF (c n : Int) : Int × Int := readFeast (feastText c n true)
noncomputable def feaWhn (c n : Int) : Whn := if (feaF c n).1 < 0 then whn0 else ⟨2, 0, 0, rom0, (feaAt (feaF c n).1.toNat).name, (feaF c n).2⟩
theorem feaF_b (c n : Int) : -1 ≤ (feaF c n).1 ∧ (feaF c n).1 < 20 := ⟨(readParts_b _).1, (readParts_b _).2.1⟩
set_option linter.unusedSimpArgs false
theorem nine_set {w : World} {b : Nat} {u0 u1 u2 u3 u4 u5 u6 u7 u8 v0 v1 v2 v3 v4 v5 v6 v7 v8 : Value} {t : TypeId} (h : Blk w b #[u0, u1, u2, u3, u4, u5, u6, u7, u8] t) : Blk (((((((((w.setCell ⟨b, 0, none⟩ v0).setCell ⟨b, 1, none⟩ v1).setCell ⟨b, 2, none⟩ v2).setCell ⟨b, 3, none⟩ v3).setCell ⟨b, 4, none⟩ v4).setCell ⟨b, 5, none⟩ v5).setCell ⟨b, 6, none⟩ v6).setCell ⟨b, 7, none⟩ v7).setCell ⟨b, 8, none⟩ v8) b #[v0, v1, v2, v3, v4, v5, v6, v7, v8] t := by
 have a0 : Blk (w.setCell ⟨b, 0, none⟩ v0) b #[v0, u1, u2, u3, u4, u5, u6, u7, u8] t := h.set 0 v0
 have a1 : Blk ((w.setCell ⟨b, 0, none⟩ v0).setCell ⟨b, 1, none⟩ v1) b #[v0, v1, u2, u3, u4, u5, u6, u7, u8] t := a0.set 1 v1
 have a2 : Blk (((w.setCell ⟨b, 0, none⟩ v0).setCell ⟨b, 1, none⟩ v1).setCell ⟨b, 2, none⟩ v2) b #[v0, v1, v2, u3, u4, u5, u6, u7, u8] t := a1.set 2 v2
 have a3 : Blk ((((w.setCell ⟨b, 0, none⟩ v0).setCell ⟨b, 1, none⟩ v1).setCell ⟨b, 2, none⟩ v2).setCell ⟨b, 3, none⟩ v3) b #[v0, v1, v2, v3, u4, u5, u6, u7, u8] t := a2.set 3 v3
 have a4 : Blk (((((w.setCell ⟨b, 0, none⟩ v0).setCell ⟨b, 1, none⟩ v1).setCell ⟨b, 2, none⟩ v2).setCell ⟨b, 3, none⟩ v3).setCell ⟨b, 4, none⟩ v4) b #[v0, v1, v2, v3, v4, u5, u6, u7, u8] t := a3.set 4 v4
 have a5 : Blk ((((((w.setCell ⟨b, 0, none⟩ v0).setCell ⟨b, 1, none⟩ v1).setCell ⟨b, 2, none⟩ v2).setCell ⟨b, 3, none⟩ v3).setCell ⟨b, 4, none⟩ v4).setCell ⟨b, 5, none⟩ v5) b #[v0, v1, v2, v3, v4, v5, u6, u7, u8] t := a4.set 5 v5
 have a6 : Blk (((((((w.setCell ⟨b, 0, none⟩ v0).setCell ⟨b, 1, none⟩ v1).setCell ⟨b, 2, none⟩ v2).setCell ⟨b, 3, none⟩ v3).setCell ⟨b, 4, none⟩ v4).setCell ⟨b, 5, none⟩ v5).setCell ⟨b, 6, none⟩ v6) b #[v0, v1, v2, v3, v4, v5, v6, u7, u8] t := a5.set 6 v6
 have a7 : Blk ((((((((w.setCell ⟨b, 0, none⟩ v0).setCell ⟨b, 1, none⟩ v1).setCell ⟨b, 2, none⟩ v2).setCell ⟨b, 3, none⟩ v3).setCell ⟨b, 4, none⟩ v4).setCell ⟨b, 5, none⟩ v5).setCell ⟨b, 6, none⟩ v6).setCell ⟨b, 7, none⟩ v7) b #[v0, v1, v2, v3, v4, v5, v6, v7, u8] t := a6.set 7 v7
 exact a7.set 8 v8
theorem nine_below {V w : World} {b : Nat} {v0 v1 v2 v3 v4 v5 v6 v7 v8 : Value} (h : Below V.heap.size V w) (hb : V.heap.size ≤ b) : Below V.heap.size V (((((((((w.setCell ⟨b, 0, none⟩ v0).setCell ⟨b, 1, none⟩ v1).setCell ⟨b, 2, none⟩ v2).setCell ⟨b, 3, none⟩ v3).setCell ⟨b, 4, none⟩ v4).setCell ⟨b, 5, none⟩ v5).setCell ⟨b, 6, none⟩ v6).setCell ⟨b, 7, none⟩ v7).setCell ⟨b, 8, none⟩ v8) := below_store (below_store (below_store (below_store (below_store (below_store (below_store (below_store (below_store h _ hb) _ hb) _ hb) _ hb) _ hb) _ hb) _ hb) _ hb) _ hb
theorem nine_facts {W : World} {b : Nat} {v0 v1 v2 v3 v4 v5 v6 v7 v8 : Value} {t : TypeId} (h : ∀ x : Later W, Blk x.w b #[v0, v1, v2, v3, v4, v5, v6, v7, v8] t) (x : Later W) : x.w.cell? ⟨b, 0, none⟩ = some v0 ∧ x.w.cell? ⟨b, 1, none⟩ = some v1 ∧ x.w.cell? ⟨b, 2, none⟩ = some v2 ∧ x.w.cell? ⟨b, 3, none⟩ = some v3 ∧ x.w.cell? ⟨b, 4, none⟩ = some v4 ∧ x.w.cell? ⟨b, 5, none⟩ = some v5 ∧ x.w.cell? ⟨b, 6, none⟩ = some v6 ∧ x.w.cell? ⟨b, 7, none⟩ = some v7 ∧ x.w.cell? ⟨b, 8, none⟩ = some v8 ∧ x.w.frozen? ⟨b, 0, none⟩ = false ∧ x.w.frozen? ⟨b, 1, none⟩ = false ∧ x.w.frozen? ⟨b, 2, none⟩ = false ∧ x.w.frozen? ⟨b, 3, none⟩ = false ∧ x.w.frozen? ⟨b, 4, none⟩ = false ∧ x.w.frozen? ⟨b, 5, none⟩ = false ∧ x.w.frozen? ⟨b, 6, none⟩ = false ∧ x.w.frozen? ⟨b, 7, none⟩ = false ∧ x.w.frozen? ⟨b, 8, none⟩ = false :=
 ⟨(h x).cell 0 rfl, (h x).cell 1 rfl, (h x).cell 2 rfl, (h x).cell 3 rfl, (h x).cell 4 rfl, (h x).cell 5 rfl, (h x).cell 6 rfl, (h x).cell 7 rfl, (h x).cell 8 rfl, (h x).thaw 0, (h x).thaw 1, (h x).thaw 2, (h x).thaw 3, (h x).thaw 4, (h x).thaw 5, (h x).thaw 6, (h x).thaw 7, (h x).thaw 8⟩
set_option maxRecDepth 100000 in
set_option maxHeartbeats 4000000 in
theorem implFeastWhen (c y m d : Int) (w : World) (hT : Tab w) (hP : Pow w) : CR 130 #[.agg #[.int .i64 c, .int .i64 y, .int .i64 m, .int .i64 d]] w (.tuple #[whnV (feaWhn c (dayOf c y m d)), .bool (decide (0 ≤ (feaF c (dayOf c y m d)).1))]) := by
 obtain ⟨W0, hW0, hD, hC, hB⟩ := boxR w #[.int .i64 c, .int .i64 y, .int .i64 m, .int .i64 d] 99 #[.int .i64 0, .int .i64 0, .int .i64 0, .int .i64 0, .int .i64 0, .int .i64 0, .bool false, .string ⟨#[]⟩, .int .i64 0] 31
 have HBl := hideP hB.out
 have HC := hideP hC.out
 have HW0 := hideP hW0
 obtain ⟨d0, d1, d2, d3⟩ := cells4 hD.out
 have K1 : ∀ x : Later W0, CR 170 #[.agg #[.int .i64 c, .int .i64 y, .int .i64 m, .int .i64 d]] x.w (.int .i64 (dayOf c y m d)) := fun x => implDayOf c y m d x.w (hT.later (HBl.out x))
 have K2 : ∀ x : Later W0, CR 169 #[.int .i64 c, .int .i64 (dayOf c y m d), .bool true] x.w (.string (feastText c (dayOf c y m d) true)) := fun x => implFeastText c _ true x.w (hT.later (HBl.out x)) (pow_later hP (HBl.out x))
 have K3 : ∀ x : Later W0, CR 168 #[.string (feastText c (dayOf c y m d) true)] x.w (.tuple #[.int .i64 (feaF c (dayOf c y m d)).1, .int .i64 (feaF c (dayOf c y m d)).2]) := fun x => implRead _ x.w (Nat.le_trans (feastText_short _ _ _) (by omega)) (pow_later hP (HBl.out x))
 have hb := feaF_b c (dayOf c y m d)
 have hE : feaWhn c (dayOf c y m d) = if (feaF c (dayOf c y m d)).1 < 0 then whn0 else ⟨2, 0, 0, rom0, (feaAt (feaF c (dayOf c y m d)).1.toNat).name, (feaF c (dayOf c y m d)).2⟩ := rfl
 rw [hE]
 clear hE hW0 hD hC hB hT hP
 generalize dayOf c y m d = n at *
 generalize feastText c n true = tx at *
 generalize (feaF c n).2 = pl at *
 generalize (feaF c n).1 = ix at *
 by_cases h0 : ix < 0
 case pos =>
  rw [if_pos h0, decide_eq_false (show ¬ 0 ≤ ix by omega)]
  have hd : decide (ix < 0) = true := decide_eq_true h0
  go_enter Tryz.func130, Tryz.ntmps130
  go_upto_region 1 with fail
  rw [← HW0.out]
  refine wp_region_later (W := W0) (Below.refl _ _) (by kernel_rfl) (by kernel_rfl) ?_
  repeat (go_big_quiet_step (first | (go_at_call 170; exact calls_later (K1 _)) | (go_at_call 169; exact calls_later (K2 _)) | (go_at_call 168; exact calls_later (K3 _)) | fail))
  refine wpQuiet_nil ?_
  intro _ hw'
  obtain ⟨x1, rfl⟩ := hw'
  obtain ⟨c0, c1, c2, c3, c4, c5, c6, c7, c8, t0, t1, t2, t3, t4, t5, t6, t7, t8⟩ := nine_facts HC.out x1
  go_wp2
  exact ret9 (HC.out x1) (HBl.out x1) (by omega) rfl (fun _ q0 q1 q2 q3 q4 q5 q6 q7 q8 B9 => ⟨by simp [results, Tryz.results130, go_sem, q0, q1, q2, q3, q4, q5, q6, q7, q8]; try rfl, rfl, B9⟩)
 obtain ⟨kk, rfl⟩ : ∃ kk : Nat, ix = (kk : Int) := ⟨ix.toNat, by omega⟩
 have hk : kk < 20 := by omega
 have hki : (kk : Int) < 20 := by omega
 rw [if_neg h0, decide_eq_true (show (0 : Int) ≤ (kk : Int) by omega), Int.toNat_natCast]
 have hd : decide ((kk : Int) < 0) = false := decide_eq_false h0
 go_enter Tryz.func130, Tryz.ntmps130
 go_upto_region 1 with fail
 rw [← HW0.out]
 refine wp_region_later (W := W0) (Below.refl _ _) (by kernel_rfl) (by kernel_rfl) ?_
 repeat (go_big_quiet_step (first | (go_at_call 170; exact calls_later (K1 _)) | (go_at_call 169; exact calls_later (K2 _)) | (go_at_call 168; exact calls_later (K3 _)) | fail))
 refine wpQuiet_nil ?_
 intro _ hw'
 obtain ⟨x1, rfl⟩ := hw'
 go_wp2_with fail
 refine (implFeasts _).mono ?_
 rintro e w2 ⟨v, rfl, ho, hb2⟩
 obtain ⟨x2, rfl⟩ := x1.next hb2
 obtain ⟨g, cap, rfl, hg, hcell⟩ := ho.row
 have e0 : x2.w.cell? ⟨g, kk * 5, none⟩ = some (.string (feaAt kk).name) := by rw [show kk * 5 = kk * 5 + 0 from rfl, hcell kk hk 0 (by omega)]; rfl
 clear hb2 ho hcell
 obtain ⟨c0, c1, c2, c3, c4, c5, c6, c7, c8, t0, t1, t2, t3, t4, t5, t6, t7, t8⟩ := nine_facts HC.out x2
 go_wp2
 exact ret9 (HC.out x2) (HBl.out x2) (by omega) rfl (fun _ q0 q1 q2 q3 q4 q5 q6 q7 q8 B9 => ⟨by simp [results, Tryz.results130, go_sem, q0, q1, q2, q3, q4, q5, q6, q7, q8]; try rfl, rfl, B9⟩)
set_option linter.unusedSimpArgs false
noncomputable def whrW (x : Rdg) (k : Int) : Whn := if k = 0 then ⟨0, x.mon, x.day, rom0, ⟨#[]⟩, 0⟩ else if k = 1 then ⟨1, 0, 0, romanOf x.cal x.sol x.mon x.day, ⟨#[]⟩, 0⟩ else if k = 2 then feaWhn x.cal (dayOf x.cal x.sol x.mon x.day) else whn0
noncomputable def whrB (x : Rdg) (k : Int) : Bool := decide (k = 0) || (decide (k = 1) || (decide (k = 2) && decide (0 ≤ (feaF x.cal (dayOf x.cal x.sol x.mon x.day)).1)))
set_option maxRecDepth 100000 in
set_option maxHeartbeats 8000000 in
theorem implWhenRead (x : Rdg) (k : Int) (w : World) (hT : Tab w) (hP : Pow w) (ho : k ≠ 0 → dateOk x.cal x.sol x.mon x.day = true) : CR 75 #[rdgV x, .int .i64 k] w (.tuple #[whnV (whrW x k), .bool (whrB x k)]) := by
 obtain ⟨xc, xy, xs, xm, xd⟩ := x
 obtain ⟨W0, hW0, hD, hC, hB⟩ := boxR w #[.int .i64 xc, .int .i64 xy, .int .i64 xs, .int .i64 xm, .int .i64 xd] 69 #[.int .i64 0, .int .i64 0, .int .i64 0, .int .i64 0, .int .i64 0, .int .i64 0, .bool false, .string ⟨#[]⟩, .int .i64 0] 31
 have HBl := hideP hB.out
 have HC := hideP hC.out
 have HW0 := hideP hW0
 obtain ⟨d0, d1, d2, d3, d4⟩ := fiveL hD.out
 clear hW0 hD hC hB
 by_cases h0 : k = 0
 case pos =>
  subst h0
  obtain ⟨e0, e1, e2, e3, ok, hp⟩ := plain_tuple xc ⟨xc, xy, xs, xm, xd⟩
  have KP : ∀ z : Later W0, CR 128 #[.agg #[.int .i64 xc, .int .i64 xy, .int .i64 xs, .int .i64 xm, .int .i64 xd]] z.w (.tuple #[.agg #[.int .i64 e0, .int .i64 e1, .int .i64 e2, .int .i64 e3], .bool ok]) := fun z => by
   have h := implPlain ⟨xc, xy, xs, xm, xd⟩ z.w (hT.later (HBl.out z))
   rw [hp] at h
   exact h
  rw [show whrW ⟨xc, xy, xs, xm, xd⟩ 0 = ⟨0, xm, xd, rom0, ⟨#[]⟩, 0⟩ from rfl, show whrB ⟨xc, xy, xs, xm, xd⟩ 0 = true from rfl]
  clear hp ho hT hP
  go_enter Tryz.func75, Tryz.ntmps75
  go_wp2_with fail
  rw [← HW0.out]
  refine latO (KP ⟨W0, Below.refl _ _⟩) fun x1 => ?_
  obtain ⟨x2, hx2, Z2⟩ := x1.fresh #[.int .i64 e0, .int .i64 e1, .int .i64 e2, .int .i64 e3] 99
  have HX2 := hideP hx2
  clear hx2
  go_upto_region 2 with fail
  rw [HX2.out]
  clear HX2
  obtain ⟨z0, z1, z2, z3⟩ := Z2.out.cells4
  clear z0 z1 z2 z3
  obtain ⟨c0, c1, c2, c3, c4, c5, c6, c7, c8, t0, t1, t2, t3, t4, t5, t6, t7, t8⟩ := nine_facts HC.out x2
  go_wp2
  exact ret9 (HC.out x2) (HBl.out x2) (by omega) rfl (fun _ q0 q1 q2 q3 q4 q5 q6 q7 q8 B9 => ⟨by simp [results, Tryz.results75, go_sem, q0, q1, q2, q3, q4, q5, q6, q7, q8]; try rfl, rfl, B9⟩)
 have hy := ho h0
 clear ho
 have hd0 : decide (k = 0) = false := decide_eq_false h0
 have KP : ∀ z : Later W0, CR 128 #[.agg #[.int .i64 xc, .int .i64 xy, .int .i64 xs, .int .i64 xm, .int .i64 xd]] z.w (.tuple #[.agg #[.int .i64 xc, .int .i64 xs, .int .i64 xm, .int .i64 xd], .bool true]) := fun z => by
  have h := implPlain ⟨xc, xy, xs, xm, xd⟩ z.w (hT.later (HBl.out z))
  rw [plainR_yes hy] at h
  exact h
 have KR : ∀ z : Later W0, CR 129 #[.agg #[.int .i64 xc, .int .i64 xs, .int .i64 xm, .int .i64 xd]] z.w (romV (romanOf xc xs xm xd)) := fun z => implRomanOf xc xs xm xd z.w (hT.later (HBl.out z))
 have KF : ∀ z : Later W0, CR 130 #[.agg #[.int .i64 xc, .int .i64 xs, .int .i64 xm, .int .i64 xd]] z.w (.tuple #[whnV (feaWhn xc (dayOf xc xs xm xd)), .bool (decide (0 ≤ (feaF xc (dayOf xc xs xm xd)).1))]) := fun z => implFeastWhen xc xs xm xd z.w (hT.later (HBl.out z)) (pow_later hP (HBl.out z))
 clear hy hT hP
 by_cases h1 : k = 1
 case pos =>
  subst h1
  rw [show whrW ⟨xc, xy, xs, xm, xd⟩ 1 = ⟨1, 0, 0, romanOf xc xs xm xd, ⟨#[]⟩, 0⟩ from rfl, show whrB ⟨xc, xy, xs, xm, xd⟩ 1 = true from rfl]
  clear KF hd0 h0
  generalize romanOf xc xs xm xd = R at *
  obtain ⟨ra, rb, rc, rt⟩ := R
  go_enter Tryz.func75, Tryz.ntmps75
  go_wp2_with fail
  rw [← HW0.out]
  refine latO (KP ⟨W0, Below.refl _ _⟩) fun x1 => ?_
  obtain ⟨x2, hx2, Z2⟩ := x1.fresh #[.int .i64 xc, .int .i64 xs, .int .i64 xm, .int .i64 xd] 99
  have HX2 := hideP hx2
  clear hx2
  go_upto_region 2 with fail
  rw [HX2.out]
  clear HX2
  obtain ⟨z0, z1, z2, z3⟩ := Z2.out.cells4
  go_wp2_with fail
  refine lat (KR x2) fun x3 => ?_
  clear z0 z1 z2 z3
  obtain ⟨c0, c1, c2, c3, c4, c5, c6, c7, c8, t0, t1, t2, t3, t4, t5, t6, t7, t8⟩ := nine_facts HC.out x3
  go_wp2
  exact ret9 (HC.out x3) (HBl.out x3) (by omega) rfl (fun _ q0 q1 q2 q3 q4 q5 q6 q7 q8 B9 => ⟨by simp [results, Tryz.results75, go_sem, q0, q1, q2, q3, q4, q5, q6, q7, q8]; try rfl, rfl, B9⟩)
 have hd1 : decide (k = 1) = false := decide_eq_false h1
 clear KR
 by_cases h2 : k = 2
 case pos =>
  subst h2
  rw [show whrW ⟨xc, xy, xs, xm, xd⟩ 2 = feaWhn xc (dayOf xc xs xm xd) from rfl, show whrB ⟨xc, xy, xs, xm, xd⟩ 2 = decide (0 ≤ (feaF xc (dayOf xc xs xm xd)).1) from rfl]
  clear hd0 h0 hd1 h1
  generalize feaWhn xc (dayOf xc xs xm xd) = R at *
  generalize decide (0 ≤ (feaF xc (dayOf xc xs xm xd)).1) = fo at *
  obtain ⟨rk, rm, rd, ⟨ra, rb, rc, rt⟩, rf, rp⟩ := R
  go_enter Tryz.func75, Tryz.ntmps75
  go_wp2_with fail
  rw [← HW0.out]
  refine latO (KP ⟨W0, Below.refl _ _⟩) fun x1 => ?_
  obtain ⟨x2, hx2, Z2⟩ := x1.fresh #[.int .i64 xc, .int .i64 xs, .int .i64 xm, .int .i64 xd] 99
  have HX2 := hideP hx2
  clear hx2
  go_upto_region 2 with fail
  rw [HX2.out]
  clear HX2
  obtain ⟨z0, z1, z2, z3⟩ := Z2.out.cells4
  go_wp2_with fail
  refine lat (KF x2) fun x3 => ?_
  clear z0 z1 z2 z3
  obtain ⟨c0, c1, c2, c3, c4, c5, c6, c7, c8, t0, t1, t2, t3, t4, t5, t6, t7, t8⟩ := nine_facts HC.out x3
  go_wp2
  exact ret9 (HC.out x3) (HBl.out x3) (by omega) rfl (fun _ q0 q1 q2 q3 q4 q5 q6 q7 q8 B9 => ⟨by simp [results, Tryz.results75, go_sem, q0, q1, q2, q3, q4, q5, q6, q7, q8]; try rfl, rfl, B9⟩)
 have hd2 : decide (k = 2) = false := decide_eq_false h2
 rw [show whrW ⟨xc, xy, xs, xm, xd⟩ k = whn0 by unfold whrW; rw [if_neg h0, if_neg h1, if_neg h2], show whrB ⟨xc, xy, xs, xm, xd⟩ k = false by unfold whrB; rw [hd0, hd1, hd2]; rfl]
 clear KF
 go_enter Tryz.func75, Tryz.ntmps75
 go_wp2_with fail
 rw [← HW0.out]
 refine latO (KP ⟨W0, Below.refl _ _⟩) fun x1 => ?_
 obtain ⟨x2, hx2, Z2⟩ := x1.fresh #[.int .i64 xc, .int .i64 xs, .int .i64 xm, .int .i64 xd] 99
 have HX2 := hideP hx2
 clear hx2
 go_upto_region 2 with fail
 rw [HX2.out]
 clear HX2
 obtain ⟨z0, z1, z2, z3⟩ := Z2.out.cells4
 clear z0 z1 z2 z3
 obtain ⟨c0, c1, c2, c3, c4, c5, c6, c7, c8, t0, t1, t2, t3, t4, t5, t6, t7, t8⟩ := nine_facts HC.out x2
 go_wp2
 exact ret9 (HC.out x2) (HBl.out x2) (by omega) rfl (fun _ q0 q1 q2 q3 q4 q5 q6 q7 q8 B9 => ⟨by simp [results, Tryz.results75, go_sem, q0, q1, q2, q3, q4, q5, q6, q7, q8]; try rfl, rfl, B9⟩)
end Go.Proofs.YtdmlhiailjnhcaaGreatDoor.ctr
