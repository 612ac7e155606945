/- Contracts of the program's kalendsBehind and RomanOf: each answers its plain function, where the table of months holds its numbers. A region that draws its order and makes one new block: the operations ahead of the making only read and leave the world as it is, so the block's place is the same whenever it is made ('any_alloc'). Contract of the program's DayOfRoman: it answers its plain function, where the table of months holds its numbers. -/
import Derived.Test.YtdgolaaheakfoaaGreatDoorJnSbg
import Derived.Test.YtdgolaaheakfoaaGreatDoorJnSad
namespace Go.Proofs.YtdgolaaheakfoaaGreatDoor.ctr
open Go.RowKit
set_option maxHeartbeats 1000000 in
theorem implKalends (c y m d : Int) (w : World) (hT : Tab w) : Calls Tryz.prog 239 #[.agg #[.int .i64 c, .int .i64 y, .int .i64 m, .int .i64 d]] w fun e w' => e = .returned (.int .i64 (countDays c y m d + 1)) ∧ Below w.heap.size w w' := by
  obtain ⟨W0, hW0, c0, c1, c2, c3, hBl⟩ := date_box w c y m d
  obtain ⟨x0, hx0⟩ := Later.of (Below.refl W0.heap.size W0)
  have KM : ∀ x : Later W0, Calls Tryz.prog 130 #[.int .i64 c, .int .i64 y, .int .i64 m] x.w fun e w' => e = .returned (.int .i64 (monthDays c y m)) ∧ Below x.w.heap.size x.w w' := fun x => implMonthDays c y m x.w (hT.later (hBl x))
  have hM := KM x0
  have k0 := c0 x0
  have k1 := c1 x0
  have k2 := c2 x0
  have k3 := c3 x0
  have k4 := tabCell (hT.later (hBl x0)) 1 (by omega)
  rw [show tab12.getD 1 0 = 28 from rfl] at k4
  have hmd := monthDays_le c y m
  have HW0 := hideP hW0
  have HBl := hideP hBl
  have HX0 := hideP hx0
  rw [← hx0] at k0 k1 k2 k3 k4 hM
  clear hW0 hBl hx0 c0 c1 c2 c3 hT KM
  by_cases h1 : m = 2
  · have hm : (m == 2) = true := by simp [h1]
    by_cases h2 : d ≤ 24
    · rw [show countDays c y m d = 28 from by unfold countDays; rw [if_pos ⟨h1, h2⟩]]
      have g2 : decide (d ≤ 24) = true := decide_eq_true h2
      rw [HW0.out] at k4
      clear hM h1 hmd
      go_enter Tryz.func239, Tryz.ntmps239
      go_wp2_with fail
      rw [← HW0.out]
      go_wp2
      go_ret
      rw [HX0.out]
      exact ⟨rfl, HBl.out x0⟩
    · rw [show countDays c y m d = monthDays c y m from by unfold countDays; rw [if_neg (fun h => h2 h.2)]]
      have g2 : decide (d ≤ 24) = false := decide_eq_false h2
      clear h1 k4
      generalize monthDays c y m = md at *
      go_enter Tryz.func239, Tryz.ntmps239
      go_wp2_with fail
      rw [← HW0.out]
      go_wp2_with fail
      refine hM.mono ?_
      rintro e w1 ⟨rfl, hb⟩
      obtain ⟨x1, rfl⟩ := Later.of hb
      clear hb
      go_wp2
      go_ret
      exact ⟨rfl, HBl.out x1⟩
  · have hm : (m == 2) = false := by simp [h1]
    rw [show countDays c y m d = monthDays c y m from by unfold countDays; rw [if_neg (fun h => h1 h.1)]]
    clear h1 k4
    generalize monthDays c y m = md at *
    go_enter Tryz.func239, Tryz.ntmps239
    go_wp2_with fail
    rw [← HW0.out]
    go_wp2_with fail
    refine hM.mono ?_
    rintro e w1 ⟨rfl, hb⟩
    obtain ⟨x1, rfl⟩ := Later.of hb
    clear hb
    go_wp2
    go_ret
    exact ⟨rfl, HBl.out x1⟩
set_option maxRecDepth 100000 in
set_option maxHeartbeats 4000000 in
theorem implRomanOf (c y m d : Int) (w : World) (hT : Tab w) : Calls Tryz.prog 235 #[.agg #[.int .i64 c, .int .i64 y, .int .i64 m, .int .i64 d]] w fun e w' => e = .returned (romV (romanOf c y m d)) ∧ Below w.heap.size w w' := by
  obtain ⟨W0, hW0, hD, hR, hBl⟩ := two_box w #[.int .i64 c, .int .i64 y, .int .i64 m, .int .i64 d] romZ 92 42
  have c0 : ∀ x : Later W0, x.w.cell? ⟨w.heap.size, 0, none⟩ = some (.int .i64 c) := fun x => (hD x).cell 0 rfl
  have c1 : ∀ x : Later W0, x.w.cell? ⟨w.heap.size, 1, none⟩ = some (.int .i64 y) := fun x => (hD x).cell 1 rfl
  have c2 : ∀ x : Later W0, x.w.cell? ⟨w.heap.size, 2, none⟩ = some (.int .i64 m) := fun x => (hD x).cell 2 rfl
  have c3 : ∀ x : Later W0, x.w.cell? ⟨w.heap.size, 3, none⟩ = some (.int .i64 d) := fun x => (hD x).cell 3 rfl
  have r0 : ∀ x : Later W0, x.w.cell? ⟨w.heap.size + 1, 0, none⟩ = some (.int .i64 0) := fun x => (hR x).cell 0 rfl
  have r1 : ∀ x : Later W0, x.w.cell? ⟨w.heap.size + 1, 1, none⟩ = some (.int .i64 0) := fun x => (hR x).cell 1 rfl
  have r2 : ∀ x : Later W0, x.w.cell? ⟨w.heap.size + 1, 2, none⟩ = some (.int .i64 0) := fun x => (hR x).cell 2 rfl
  have r3 : ∀ x : Later W0, x.w.cell? ⟨w.heap.size + 1, 3, none⟩ = some (.bool false) := fun x => (hR x).cell 3 rfl
  have f0 : ∀ x : Later W0, x.w.frozen? ⟨w.heap.size + 1, 0, none⟩ = false := fun x => (hR x).thaw 0
  have f1 : ∀ x : Later W0, x.w.frozen? ⟨w.heap.size + 1, 1, none⟩ = false := fun x => (hR x).thaw 1
  have f2 : ∀ x : Later W0, x.w.frozen? ⟨w.heap.size + 1, 2, none⟩ = false := fun x => (hR x).thaw 2
  have f3 : ∀ x : Later W0, x.w.frozen? ⟨w.heap.size + 1, 3, none⟩ = false := fun x => (hR x).thaw 3
  have KO : ∀ x : Later W0, Calls Tryz.prog 109 #[.agg #[.int .i64 c, .int .i64 y, .int .i64 m, .int .i64 d]] x.w fun e w' => e = .returned (.bool (dateOk c y m d)) ∧ Below x.w.heap.size x.w w' := fun x => implDateOk c y m d x.w (hT.later (hBl x))
  have KK : ∀ x : Later W0, Calls Tryz.prog 239 #[.agg #[.int .i64 c, .int .i64 y, .int .i64 m, .int .i64 d]] x.w fun e w' => e = .returned (.int .i64 (countDays c y m d + 1)) ∧ Below x.w.heap.size x.w w' := fun x => implKalends c y m d x.w (hT.later (hBl x))
  have KW : ∀ x : Later W0, Calls Tryz.prog 240 #[.agg #[.int .i64 c, .int .i64 y, .int .i64 m, .int .i64 d]] x.w fun e w' => e = .returned (.bool (decide (m = 2 ∧ d = 24 ∧ leapP c y))) ∧ Below x.w.heap.size x.w w' := fun x => implIsTwice c y m d x.w
  have HW0 := hideP hW0
  have HBl := hideP hBl
  have HR := hideP hR
  obtain ⟨x0, hx0⟩ := Later.of (Below.refl W0.heap.size W0)
  have HX0 := hideP hx0
  clear hW0 hBl hD hR hT hx0
  by_cases hok : dateP c y m d
  case neg =>
    rw [dateOk_false hok] at KO
    have HV : Hid (romanOf c y m d = ⟨0, 0, 0, false⟩) := by unfold Hid romanOf; rw [if_neg hok]
    rw [HV.out]
    clear HV KK KW hok
    go_enter Tryz.func235, Tryz.ntmps235
    go_wp2_with fail
    rw [← HW0.out, HX0.out]
    refine wp_scope_fwd 0 (by rfl) ?_
    go_wp2_with fail
    refine (KO _).mono ?_
    rintro e w1 ⟨rfl, hb⟩
    obtain ⟨x1, rfl⟩ := x0.next hb
    clear hb
    go_wp2_with fail
    rw [put4_eq]
    have Z := put4_blk (v0 := .int .i64 0) (v1 := .int .i64 0) (v2 := .int .i64 0) (v3 := .bool false) (HR.out x1)
    have z0 := Z.cell 0 rfl
    have z1 := Z.cell 1 rfl
    have z2 := Z.cell 2 rfl
    have z3 := Z.cell 3 rfl
    refine jump_ret ?_
    exact bodyPost_ret (by simp [results, Tryz.results235, go_sem, z0, z1, z2, z3]; try rfl) rfl ⟨rfl, put4_below (HBl.out x1) (by omega)⟩
  rw [dateOk_true hok] at KO
  have hm := dateP_month hok
  have hd := dateP_day hok
  have hm1 := hm.1
  have hm2 := hm.2
  have hd1 := hd.1
  have hd2 := hd.2
  have hmd := monthDays_le c y m
  have hcb : 0 ≤ countDays c y m d ∧ countDays c y m d ≤ 31 := by unfold countDays; split <;> omega
  have HV : Hid (romanOf c y m d = romanIn c y m d) := by unfold Hid romanOf; rw [if_pos hok]
  rw [HV.out]
  have KB : ∀ W, Calls Tryz.prog 238 #[.int .i64 m] W fun e w' => e = .returned (.int .i64 (m % 12 + 1)) ∧ w' = W := fun W => implMonthBehind m W hm1 hm2
  have KD : ∀ k W, Calls Tryz.prog 237 #[.int .i64 m, .int .i64 k] W fun e w' => e = .returned (.int .i64 (markN m k)) ∧ w' = W := fun k W => implMarkDay m k W
  -- what each way answers
  have HA : Hid (∀ k : Nat, k ≤ 2 → d ≤ markN m k → (∀ j : Nat, j < k → markN m j < d) → romanIn c y m d = ⟨markN m k - d + 1, k, m, decide (m = 2 ∧ d = 24 ∧ leapP c y)⟩) := by
    intro k hk h1 h2
    have hn := nones_in hm1 hm2
    have hi := ides_in hm1 hm2
    have hn7 := nones_b m
    have tw : decide (m = 2 ∧ d = 24 ∧ leapP c y) = false := by
      apply decide_eq_false
      rintro ⟨rfl, rfl, _⟩
      have : markN 2 k ≤ 13 := by
        have : k = 0 ∨ k = 1 ∨ k = 2 := by omega
        rcases this with rfl | rfl | rfl <;> decide
      omega
    rw [tw]
    have : k = 0 ∨ k = 1 ∨ k = 2 := by omega
    rcases this with rfl | rfl | rfl
    · have e1 : d = 1 := by have : markN m ((0 : Nat) : Int) = 1 := rfl
                            omega
      subst e1
      rfl
    · have a0 := h2 0 (by omega)
      have b0 : markN m ((0 : Nat) : Int) = 1 := rfl
      have b1 : markN m ((1 : Nat) : Int) = nones m := rfl
      rw [b1] at h1
      unfold romanIn
      rw [if_neg (by omega), if_pos h1, b1]
      rfl
    · have a0 := h2 0 (by omega)
      have a1 := h2 1 (by omega)
      have b0 : markN m ((0 : Nat) : Int) = 1 := rfl
      have b1 : markN m ((1 : Nat) : Int) = nones m := rfl
      have b2 : markN m ((2 : Nat) : Int) = ides m := rfl
      rw [b2] at h1
      unfold romanIn
      rw [if_neg (by omega), if_neg (by omega), if_pos h1, b2]
      rfl
  have HE : Hid ((∀ j : Nat, j < 3 → markN m j < d) → romanIn c y m d = ⟨countDays c y m d + 1 - d + 1, 0, m % 12 + 1, decide (m = 2 ∧ d = 24 ∧ leapP c y)⟩) := by
    intro h2
    have a0 := h2 0 (by omega)
    have a1 := h2 1 (by omega)
    have a2 := h2 2 (by omega)
    have b0 : markN m ((0 : Nat) : Int) = 1 := rfl
    have b1 : markN m ((1 : Nat) : Int) = nones m := rfl
    have b2 : markN m ((2 : Nat) : Int) = ides m := rfl
    unfold romanIn
    rw [if_neg (by omega), if_neg (by omega), if_neg (by omega), show countDays c y m d - d + 2 = countDays c y m d + 1 - d + 1 from by omega]
  clear HV hok hm hd hmd
  generalize decide (m = 2 ∧ d = 24 ∧ leapP c y) = tw at *
  generalize romanIn c y m d = R at *
  generalize countDays c y m d = cd at *
  go_enter Tryz.func235, Tryz.ntmps235
  go_wp2_with fail
  rw [← HW0.out, HX0.out]
  refine wp_scope_fwd 0 (by rfl) ?_
  go_wp2_with fail
  refine (KO _).mono ?_
  rintro e w1 ⟨rfl, hb⟩
  obtain ⟨x1, rfl⟩ := x0.next hb
  clear hb
  go_wp2_with fail
  go_loopw [4, 5] (fun o s wr => ∃ (k : Nat) (z : Int), k ≤ 3 ∧ o = .int .i64 (k : Int) ∧ s = .int .i64 z ∧ wr = x1.w ∧ (∀ j : Nat, j < k → markN m j < d)) (fun o _ _ => 3 - (intOf o).toNat)
  case atStart => exact ⟨0, 0, by omega, rfl, rfl, rfl, by omega⟩
  case round =>
    obtain ⟨k, z, hk, rfl, rfl, hwr, hj⟩ := hrel
    rw [hwr]
    clear hwr
    have HJ := hideP hj
    clear hj
    by_cases hlt : k < 3
    · have hmb := markN_b m k
      have KK1 := KD k
      by_cases hle : d ≤ markN m k
      · have HF := hideP (HA.out k (by omega) hle HJ.out)
        clear HA HE HJ KD KK
        generalize markN m k = mk at *
        go_wp2_with fail
        refine (KK1 _).mono ?_
        rintro e w2 ⟨rfl, rfl⟩
        go_wp2_with fail
        go_step3
        refine ⟨rfl, ?_⟩
        go_wp2_with fail
        obtain ⟨xd, hxd⟩ : ∃ xd : Later W0, x1.w.drew = xd.w := ⟨⟨x1.w.drew, (x1.below).drew⟩, rfl⟩
        refine wp_region_any (by kernel_rfl) ?_
        change wpAny _ _ _ _ (1 + 10) _ _ _
        refine any_prefix (C := fun w' => ∃ x : Later W0, w' = x.w) 10 1 (by decide) (by kernel_rfl) (by kernel_rfl) (by kernel_rfl) (by kernel_rfl) (by kernel_rfl) ⟨xd, hxd⟩ ?_
        simp only [List.take_succ_cons, List.take_zero]
        clear hxd xd
        repeat (go_big_quiet_step (first | (go_at_call 240; exact calls_later (KW _))))
        refine wpQuiet_nil ?_
        intro _ hw'
        obtain ⟨x5, rfl⟩ := hw'
        refine wpAny_ready (rs := [10]) (by kernel_rfl) (by simp) ?_
        refine AllReady.cons rfl (fun K hK => ?_) AllReady.nil
        go_simp
        refine hK _ _ ?_
        clear hK K
        refine wpAny_done (by kernel_rfl) ?_ _
        rw [put4_eq]
        go_wp2_with fail
        have Z := put4_blk (v0 := .int .i64 (mk - d + 1)) (v1 := .int .i64 (k : Int)) (v2 := .int .i64 m) (v3 := .bool tw) (HR.out x5)
        have z0 := Z.cell 0 rfl
        have z1 := Z.cell 1 rfl
        have z2 := Z.cell 2 rfl
        have z3 := Z.cell 3 rfl
        rw [Exit.noGoto_ret]
        exact bodyPost_ret (by simp [results, Tryz.results235, go_sem, z0, z1, z2, z3]; try rfl) rfl ⟨by rw [HF.out], put4_below (HBl.out x5) (by omega)⟩
      · have HJ' : Hid (∀ j : Nat, j < k + 1 → markN m j < d) := by
          intro j hj
          by_cases e : j = k
          · subst e
            omega
          · exact HJ.out j (by omega)
        clear HA HE HJ KD KK
        generalize markN m k = mk at *
        go_wp2_with fail
        refine (KK1 _).mono ?_
        rintro e w2 ⟨rfl, rfl⟩
        go_wp2
        exact ⟨⟨k + 1, mk, by omega, by go_num, rfl, (by first | rfl | trivial), HJ'.out⟩, by simp [intOf]; omega⟩
    · have hk3 : k = 3 := by omega
      subst hk3
      have HF := hideP (HE.out HJ.out)
      clear HA HE HJ KD
      go_wp2_with fail
      refine wp_region_later (W := W0) x1.below (by kernel_rfl) (by kernel_rfl) ?_
      repeat (go_big_quiet_step (first | (go_at_call 238; exact calls_same (KB _)) | (go_at_call 239; exact calls_later (KK _))))
      refine wpQuiet_nil ?_
      intro _ hw'
      obtain ⟨x4, rfl⟩ := hw'
      go_wp2_with fail
      go_step3
      go_wp2_with fail
      obtain ⟨xd, hxd⟩ : ∃ xd : Later W0, x4.w.drew = xd.w := ⟨⟨x4.w.drew, (x4.below).drew⟩, rfl⟩
      refine wp_region_any (by kernel_rfl) ?_
      change wpAny _ _ _ _ (1 + 10) _ _ _
      refine any_prefix (C := fun w' => ∃ x : Later W0, w' = x.w) 10 1 (by decide) (by kernel_rfl) (by kernel_rfl) (by kernel_rfl) (by kernel_rfl) (by kernel_rfl) ⟨xd, hxd⟩ ?_
      simp only [List.take_succ_cons, List.take_zero]
      clear hxd xd
      repeat (go_big_quiet_step (first | (go_at_call 240; exact calls_later (KW _))))
      refine wpQuiet_nil ?_
      intro _ hw'
      obtain ⟨x5, rfl⟩ := hw'
      refine wpAny_ready (rs := [10]) (by kernel_rfl) (by simp) ?_
      refine AllReady.cons rfl (fun K hK => ?_) AllReady.nil
      go_simp
      refine hK _ _ ?_
      clear hK K
      refine wpAny_done (by kernel_rfl) ?_ _
      rw [put4_eq]
      go_wp2_with fail
      have Z := put4_blk (v0 := .int .i64 ((cd + 1) - d + 1)) (v1 := .int .i64 0) (v2 := .int .i64 (m % 12 + 1)) (v3 := .bool tw) (HR.out x5)
      have z0 := Z.cell 0 rfl
      have z1 := Z.cell 1 rfl
      have z2 := Z.cell 2 rfl
      have z3 := Z.cell 3 rfl
      refine jump_ret ?_
      exact bodyPost_ret (by simp [results, Tryz.results235, go_sem, z0, z1, z2, z3]; try rfl) rfl ⟨by rw [HF.out], put4_below (HBl.out x5) (by omega)⟩
end Go.Proofs.YtdgolaaheakfoaaGreatDoor.ctr
namespace Go.Proofs.YtdgolaaheakfoaaGreatDoor.ctr
open Go.RowKit
structure Only (X : World) where
  w : World
  eq : w = X
instance (X : World) : Nonempty (Only X) := ⟨⟨X, rfl⟩⟩
theorem calls_only {P : Program} {f : FuncId} {args : Array Value} {X : World} {x : Only X} {v : Value}
    (h : Calls P f args x.w fun e w' => e = .returned v ∧ w' = x.w) : Calls P f args x.w fun e w'' => e = .returned v ∧ ∃ y : Only X, w'' = y.w :=
  h.mono fun _ _ ⟨he, hm⟩ => ⟨he, x, hm⟩
theorem Only.at {X : World} {p : Addr} {v : Value} (h : X.cell? p = some v) (x : Only X) : x.w.cell? p = some v := by rw [x.eq]; exact h
section
variable {P : Program} {ops : Array Oper} {md : Region.Mode} {C0 C1 : World → Prop}
def waitAll (md : Region.Mode) (ops : Array Oper) (N : Nat) : Bool := (List.range ops.size).all fun j => decide (j < N) || (List.range N).all fun i => ((ops[j]?).map fun o => o.after.any fun e => Region.binds md e && e.on == i).getD false
theorem wait_all {N i j : Nat} {listed : Array Bool} (hw : waitAll md ops N = true) (hi : i < N) (hun : listed.getD i true = false) (hj : j ∈ Region.ready md ops listed) : j < N := by
  rcases Nat.lt_or_ge j N with h | h
  · exact h
  · exfalso
    obtain ⟨_, o, ho, hall⟩ := mem_ready.1 hj
    have hsz : j < ops.size := (Array.getElem?_eq_some_iff.1 ho).1
    have h1 := List.all_eq_true.1 hw j (List.mem_range.2 hsz)
    simp only [Bool.or_eq_true, decide_eq_true_eq] at h1
    rcases h1 with h1 | h1
    · omega
    · have h2 := List.all_eq_true.1 h1 i (List.mem_range.2 hi)
      simp only [ho, Option.map_some, Option.getD_some] at h2
      obtain ⟨x, hx, hxe⟩ := Array.any_eq_true'.1 h2
      simp only [Bool.and_eq_true, beq_iff_eq] at hxe
      have hlx := hall x hx hxe.1
      rw [hxe.2] at hlx
      exact yes_no hlx hun
def wpM (P : Program) (md : Region.Mode) (ops : Array Oper) (C0 C1 : World → Prop) (n : Nat) (d : Tmp) (p : Value) (R : Array Bool → Act → Prop) : Nat → Bool → Array Bool → Act → Prop
  | 0, al, listed, a => al = true ∧ (∀ j, j ≤ n → listed.getD j false = true) ∧ R listed a
  | m + 1, al, listed, a => Region.ready md ops listed ≠ [] ∧ ∀ i ∈ Region.ready md ops listed, i ≤ n ∧ ((i = n ∧ al = false ∧ wpM P md ops C0 C1 n d p R m true (listed.setIfInBounds n true) (a.put (some d) p)) ∨ (i ≠ n ∧ qOp P ops (if al = true then C1 else C0) i (wpM P md ops C0 C1 n d p R m al (listed.setIfInBounds i true)) a))
theorem any_of_M {n f : Nat} {d : Tmp} {p : Value} {R : Array Bool → Act → Prop} {Q : Exit → Act → World → Prop} (hAl : ∀ a w K, C0 w → (∀ w', C1 w' → K (a.put (some d) p) w') → wpOp P ops Q n K a w) (hR : ∀ listed a w, C1 w → R listed a → wpAny P md ops Q f listed a w) :
    ∀ (m : Nat) (al : Bool) (listed : Array Bool) (a : Act) (w : World), (if al = true then C1 else C0) w → wpM P md ops C0 C1 n d p R m al listed a → wpAny P md ops Q (f + m) listed a w
  | 0, al, listed, a, w, hw, h => by
    obtain ⟨rfl, _, h3⟩ := h
    exact hR _ _ _ hw h3
  | m + 1, al, listed, a, w, hw, h => ⟨fun h0 => absurd h0 h.1, fun i hi => by
      rcases (h.2 i hi).2 with ⟨rfl, rfl, h3⟩ | ⟨_, h3⟩
      · exact hAl _ _ _ hw fun w' hw' => any_of_M hAl hR m true _ _ w' hw' h3
      · exact wpOp_of_qOp hw (fun a' w' hw' k => any_of_M hAl hR m al _ a' w' hw' k) h3⟩
theorem qOp_put2 {C : World → Prop} {j : Nat} {oi oj : Oper} {v : Value} (hj : ops[j]? = some oj) (hap : oi.apart ops oj = true)
    (hsj : ∀ cs b, oj.op ≠ .select cs b) {K : Act → Prop} {a : Act} (h : qOp P ops C j K (a.put oi.dst v)) :
    qOp P ops C j (fun a' => (∃ u, a' = a.put oj.dst u) ∧ K (a'.put oi.dst v)) a := by
  obtain ⟨h1, h2, h3⟩ := Oper.apart_spec hap
  unfold qOp at *
  simp only [hj] at *
  rw [wanted_put oj a oi.dst v h1] at h
  split
  · rename_i hw
    simp only [hw, if_true] at h
    obtain ⟨u, hu, hn⟩ := h
    refine ⟨u, fun w hw' => ?_, ⟨u, rfl⟩, by rw [← Act.put_comm a v u h2]; exact hn⟩
    have := hu w hw'
    unfold Oper.quietAt at *
    rwa [execOp_put oj hsj a oi.dst v h1] at this
  · rename_i hw
    simp only [hw] at h
    exact ⟨⟨undef, rfl⟩, by rw [← Act.put_comm a v undef h2]; exact h⟩
def Y2 (P : Program) (ops : Array Oper) (C0 C1 : World → Prop) (o : Oper) (v : Value) (a : Act) : Prop := YieldsIn P ops C0 o v a ∧ YieldsIn P ops C1 o v a
theorem Y2.of {o : Oper} {v : Value} {a : Act} (h : Y2 P ops C0 C1 o v a) (al : Bool) : YieldsIn P ops (if al = true then C1 else C0) o v a := by
  cases al
  · exact h.1
  · exact h.2
theorem M_first {n : Nat} {d : Tmp} {p : Value} {R : Array Bool → Act → Prop} (hwt : waitAll md ops (n + 1) = true) {i : Nat} {oi on : Oper} {v : Value} (hi : ops[i]? = some oi) (hin : i < n) (hn : ops[n]? = some on) (hd : on.dst = some d) (hsel : ∀ (j : Nat) (o : Oper) cs b, ops[j]? = some o → o.op ≠ .select cs b) :
    ∀ (m : Nat) (al : Bool) (listed : Array Bool) (a : Act),
      (∀ j oj, ops[j]? = some oj → j ≠ i → listed.getD j true = false → (∀ e ∈ oj.after, Region.binds md e = true → e.on ≠ i) → oi.apart ops oj = true) →
      i ∈ Region.ready md ops listed → Y2 P ops C0 C1 oi v a →
      wpM P md ops C0 C1 n d p R m al (listed.setIfInBounds i true) (a.put oi.dst v) → wpM P md ops C0 C1 n d p R (m + 1) al listed a := by
  intro m
  induction m with
  | zero =>
    intro al listed a _ hr hy H
    have hun := (mem_ready.1 hr).1
    refine ⟨fun h => (by rw [h] at hr; cases hr), fun j hj => ⟨Nat.le_of_lt_succ (wait_all hwt (by omega) hun hj), ?_⟩⟩
    by_cases hji : j = i
    · subst hji
      exact .inr ⟨by omega, (hy.of al).qOp hi H⟩
    · have h1 := H.2.1 j (Nat.le_of_lt_succ (wait_all hwt (by omega) hun hj))
      rw [getD_set_ne false (Ne.symm hji)] at h1
      exact absurd (mem_ready.1 hj).1 (fun h => yes_no h1 h)
  | succ m ih =>
    intro al listed a hfree hr hy H
    have hun := (mem_ready.1 hr).1
    refine ⟨fun h => (by rw [h] at hr; cases hr), fun j hj => ⟨Nat.le_of_lt_succ (wait_all hwt (by omega) hun hj), ?_⟩⟩
    by_cases hji : j = i
    · subst hji
      exact .inr ⟨by omega, (hy.of al).qOp hi H⟩
    · obtain ⟨hjn, h1⟩ := H.2 j (ready_mono hj hji)
      obtain ⟨hjun, oj, hoj, hall⟩ := mem_ready.1 hj
      have hnot : ∀ e ∈ oj.after, Region.binds md e = true → e.on ≠ i := fun e he hb heq => by
        have k1 := hall e he hb
        rw [heq] at k1
        exact yes_no k1 hun
      have hap := hfree j oj hoj hji hjun hnot
      obtain ⟨p1, p2, p3⟩ := Oper.apart_spec hap
      have keep : ∀ u, Y2 P ops C0 C1 oi v (a.put oj.dst u) := fun u =>
        ⟨hy.1.of_same (execOp_put oi (fun cs b => hsel i oi cs b hi) a oj.dst u p3) (wanted_put oi a oj.dst u p3), hy.2.of_same (execOp_put oi (fun cs b => hsel i oi cs b hi) a oj.dst u p3) (wanted_put oi a oj.dst u p3)⟩
      have hfree' : ∀ k ok, ops[k]? = some ok → k ≠ i → (listed.setIfInBounds j true).getD k true = false → (∀ e ∈ ok.after, Region.binds md e = true → e.on ≠ i) → oi.apart ops ok = true := fun k ok hk hki hun' hno => by
        refine hfree k ok hk hki ?_ hno
        by_cases hjk : j = k
        · subst hjk
          exact hjun
        · rw [getD_set_ne true hjk] at hun'
          exact hun'
      rcases h1 with ⟨rfl, hal, h1⟩ | ⟨hjn', h1⟩
      · obtain rfl := Option.some.inj (hoj.symm.trans hn)
        refine .inl ⟨rfl, hal, ih true (listed.setIfInBounds j true) (a.put (some d) p) hfree' (ready_mono hr (Ne.symm hji)) (by rw [← hd]; exact keep p) ?_⟩
        rw [Array.setIfInBounds_comm _ _ hji]
        rw [hd] at p2
        have := Act.put_comm a v p (y := some d) p2
        rw [← this]
        exact h1
      · refine .inr ⟨hjn', qOp_mono (fun a' h3 => ?_) (qOp_put2 hoj hap (fun cs b => hsel j oj cs b hoj) h1)⟩
        obtain ⟨⟨u, rfl⟩, h4⟩ := h3
        refine ih al (listed.setIfInBounds j true) _ hfree' (ready_mono hr (Ne.symm hji)) (keep u) ?_
        rw [Array.setIfInBounds_comm _ _ hji]
        exact h4
def wpQ2 (P : Program) (ops : Array Oper) (C0 C1 : World → Prop) (Qe : Act → Prop) : List Oper → Act → Prop
  | [], a => Qe a
  | o :: l, a => ∃ v, Y2 P ops C0 C1 o v a ∧ wpQ2 P ops C0 C1 Qe l (a.put o.dst v)
theorem M_lex {n : Nat} {d : Tmp} {p : Value} {R : Array Bool → Act → Prop} (hwt : waitAll md ops (n + 1) = true) {on : Oper} (hn : ops[n]? = some on) (hd : on.dst = some d) (haf : on.after = #[]) (hs : Region.noSelect ops = true) :
    ∀ (l : List Oper) (k : Nat) (listed : Array Bool) (a : Act), k + l.length = n → (∀ j, j < l.length → l[j]? = ops[k + j]?) → (∀ j, j < k → listed.getD j false = true) → listed.getD n true = false →
      lexP md ops l.length k listed = true → wpQ2 P ops C0 C1 (fun a' => R ((setN l.length k listed).setIfInBounds n true) (a'.put (some d) p)) l a → wpM P md ops C0 C1 n d p R (l.length + 1) false listed a
  | [], k, listed, a, hk, _, hlow, hun, _, h => by
    have hk' : k = n := by simpa using hk
    subst hk'
    have hrd : k ∈ Region.ready md ops listed := mem_ready.2 ⟨hun, on, hn, fun e he => by rw [haf] at he; simp at he⟩
    refine ⟨fun h0 => (by rw [h0] at hrd; cases hrd), fun j hj => ?_⟩
    have hjk := Nat.le_of_lt_succ (wait_all hwt (show k < k + 1 by omega) hun hj)
    refine ⟨hjk, .inl ?_⟩
    have hjk' : j = k := by
      rcases Nat.lt_or_ge j k with hlt | hge
      · exact (yes_no (hlow j hlt) (mem_ready.1 hj).1).elim
      · omega
    refine ⟨hjk', rfl, rfl, fun i hi => ?_, h⟩
    by_cases hik : k = i
    · subst hik
      have hsz : k < listed.size := by
        rcases Nat.lt_or_ge k listed.size with h' | h'
        · exact h'
        · simp [Array.getElem?_eq_none h'] at hun
      simp [hsz]
    · rw [getD_set_ne false hik]
      exact hlow i (by omega)
  | o :: l, k, listed, a, hk, hll, hlow, hun, hB, h => by
    have h0 : ops[k]? = some o := by simpa using (hll 0 (by simp)).symm
    simp only [List.length_cons] at hk
    simp only [List.length_cons, lexP, Bool.and_eq_true] at hB
    obtain ⟨⟨hr, hf⟩, hB'⟩ := hB
    have hr' : k ∈ Region.ready md ops listed := by simpa using hr
    obtain ⟨v, hy, hK⟩ := h
    refine M_first hwt h0 (by omega) hn hd (Region.noSelect_spec hs) (l.length + 1) false listed a (Region.free_spec h0 hf) hr' hy ?_
    refine M_lex hwt hn hd haf hs l (k + 1) _ _ (by omega) (fun j hj => by have := hll (j + 1) (by simpa using hj); simpa [Nat.add_assoc, Nat.add_comm 1 j] using this) (fun j hj => ?_) ?_ hB' hK
    · by_cases hjk : k = j
      · subst hjk
        have hsz : k < listed.size := by
          rcases Nat.lt_or_ge k listed.size with h' | h'
          · exact h'
          · have hu := (mem_ready.1 hr').1
            simp [Array.getElem?_eq_none h'] at hu
        simp [hsz]
      · rw [getD_set_ne false hjk]
        exact hlow j (by omega)
    · rw [getD_set_ne true (by omega)]
      exact hun
def ownDst : List Oper → Nat → Bool
  | [], _ => true
  | o :: l, s => (match o.dst with | some d => decide (d < s) && l.all fun o' => !(o'.dst == some d) | none => false) && ownDst l s
theorem put_size (a : Act) (x : Option Tmp) (v : Value) : (a.put x v).tmps.size = a.tmps.size := by
  cases x with
  | none => rfl
  | some d => show (a.tmps.setIfInBounds d v).size = _; simp
theorem quiet_keep {C : World → Prop} {A : Act} {d : Tmp} : ∀ (l : List Oper) (a : Act), (l.all fun o' => !(o'.dst == some d)) = true → wpQuiet P ops C (fun a' => a' = A) l a → A.tmps[d]? = a.tmps[d]?
  | [], a, _, h => by rw [show a = A from h]
  | o :: l, a, hl, h => by
    simp only [List.all_cons, Bool.and_eq_true, Bool.not_eq_true', beq_eq_false_iff_ne] at hl
    have hput : ∀ v, (a.put o.dst v).tmps[d]? = a.tmps[d]? := fun v => by
      cases ho : o.dst with
      | none => rfl
      | some e =>
        show (a.tmps.setIfInBounds e v)[d]? = _
        rw [Array.getElem?_setIfInBounds_ne]
        intro he
        exact hl.1 (by rw [ho, he])
    unfold wpQuiet at h
    split at h
    · obtain ⟨v, _, h2⟩ := h
      rw [quiet_keep l _ hl.2 h2, hput]
    · rw [quiet_keep l _ hl.2 h, hput]
theorem Q2_of_quiet {A : Act} : ∀ (l : List Oper) (a : Act), ownDst l a.tmps.size = true → wpQuiet P ops C0 (fun a' => a' = A) l a → wpQuiet P ops C1 (fun a' => a' = A) l a → wpQ2 P ops C0 C1 (fun a' => a' = A) l a
  | [], _, _, h, _ => h
  | o :: l, a, hd, h0, h1 => by
    unfold ownDst at hd
    simp only [Bool.and_eq_true] at hd
    obtain ⟨hd1, hd2⟩ := hd
    cases ho : o.dst with
    | none => rw [ho] at hd1; simp at hd1
    | some e =>
      rw [ho] at hd1
      simp only [Bool.and_eq_true, decide_eq_true_eq] at hd1
      obtain ⟨hlt, hall⟩ := hd1
      have hat : ∀ v, (a.put o.dst v).tmps[e]? = some v := fun v => by
        rw [ho]
        show (a.tmps.setIfInBounds e v)[e]? = _
        simp [hlt]
      unfold wpQuiet at h0 h1
      by_cases hw : Region.wanted o (yielded ops a.tmps) = true
      · rw [if_pos hw] at h0 h1
        obtain ⟨v, hv, h0'⟩ := h0
        obtain ⟨u, hu, h1'⟩ := h1
        have e1 := (quiet_keep l _ hall h0').trans (hat v)
        have e2 := (quiet_keep l _ hall h1').trans (hat u)
        obtain rfl : v = u := Option.some.inj (e1.symm.trans e2)
        exact ⟨v, ⟨.inl ⟨hw, hv⟩, .inl ⟨hw, hu⟩⟩, Q2_of_quiet l _ (by rw [put_size]; exact hd2) h0' h1'⟩
      · rw [if_neg hw] at h0 h1
        exact ⟨undef, ⟨.inr ⟨by simpa using hw, rfl⟩, .inr ⟨by simpa using hw, rfl⟩⟩, Q2_of_quiet l _ (by rw [put_size]; exact hd2) h0 h1⟩
theorem Q2_mono {Q1 Q2 : Act → Prop} (hq : ∀ a, Q1 a → Q2 a) : ∀ (l : List Oper) (a : Act), wpQ2 P ops C0 C1 Q1 l a → wpQ2 P ops C0 C1 Q2 l a
  | [], _, h => hq _ h
  | _ :: l, _, ⟨v, h1, h2⟩ => ⟨v, h1, Q2_mono hq l _ h2⟩
end
theorem any_alloc {P : Program} {Q : Exit → Act → World → Prop} {big : List Oper} (n f : Nat) (d : Tmp) {on : Oper} {p : Value} {a A : Act} {W W1 : World} (hlen : n < big.length) (hn : big.toArray[n]? = some on) (hd : on.dst = some d) (haf : on.after = #[]) (hs : Region.noSelect big.toArray = true)
    (hB : lexP .any big.toArray n 0 (Array.replicate big.length false) = true) (hwt : waitAll .any big.toArray (n + 1) = true) (hown : ownDst (big.take n) a.tmps.size = true)
    (hAl : ∀ a K, K (a.put (some d) p) W1 → wpOp P big.toArray Q n K a W)
    (hq : ∀ X, X = W ∨ X = W1 → wpQuiet P big.toArray (fun w' => ∃ x : Only X, w' = x.w) (fun a' => a' = A) (big.take n) a)
    (h : wpAny P .any big.toArray Q f ((setN n 0 (Array.replicate big.length false)).setIfInBounds n true) (A.put (some d) p) W1) : wpAny P .any big.toArray Q (f + (n + 1)) (Array.replicate big.length false) a W := by
  have hl : (big.take n).length = n := by rw [List.length_take]; omega
  have h2 := Q2_of_quiet (big.take n) a hown (hq W (.inl rfl)) (hq W1 (.inr rfl))
  have hm := M_lex (P := P) (md := .any) (ops := big.toArray) (C0 := fun w' => ∃ x : Only W, w' = x.w) (C1 := fun w' => ∃ x : Only W1, w' = x.w) (d := d) (p := p) (R := fun listed a => wpAny P .any big.toArray Q f listed a W1) hwt hn hd haf hs (big.take n) 0 (Array.replicate big.length false) a (by omega)
    (fun j hj => by rw [hl] at hj; simp [hj]) (fun j hj => by omega) (by simp [hlen]) (by rw [hl]; exact hB) (Q2_mono (fun a' e => by rw [e, hl]; exact h) _ _ h2)
  rw [hl] at hm
  exact any_of_M (C0 := fun w' => ∃ x : Only W, w' = x.w) (C1 := fun w' => ∃ x : Only W1, w' = x.w) (R := fun listed a => wpAny P .any big.toArray Q f listed a W1) (fun a w K ⟨x, hx⟩ hK => by rw [hx, x.eq]; exact hAl a K (hK W1 ⟨⟨W1, rfl⟩, rfl⟩)) (fun listed a w ⟨x, hx⟩ hR => by rw [hx, x.eq]; exact hR) (n + 1) false _ a W ⟨⟨W, rfl⟩, rfl⟩ hm
section
variable {P : Program} {ops : Array Oper} {md : Region.Mode} {C : World → Prop}
theorem mixA_first {N : Nat} {R : Array Bool → Act → Prop} (hRl : ∀ listed a, R listed a → ∀ j, j < N → listed.getD j false = true) (hwt : waitAll md ops N = true) {i : Nat} {oi : Oper} {v : Value} (hi : ops[i]? = some oi) (hN : i < N) (hsel : ∀ (j : Nat) (o : Oper) cs b, ops[j]? = some o → o.op ≠ .select cs b) :
    ∀ (m : Nat) (listed : Array Bool) (a : Act),
      (∀ j oj, ops[j]? = some oj → j ≠ i → listed.getD j true = false → (∀ e ∈ oj.after, Region.binds md e = true → e.on ≠ i) → oi.apart ops oj = true) →
      i ∈ Region.ready md ops listed → YieldsIn P ops C oi v a →
      wpMix P md ops C N R m (listed.setIfInBounds i true) (a.put oi.dst v) → wpMix P md ops C N R (m + 1) listed a := by
  intro m
  induction m with
  | zero =>
    intro listed a _ hr hy H
    have hun := (mem_ready.1 hr).1
    refine ⟨fun h => (by rw [h] at hr; cases hr), fun j hj => ?_⟩
    have hjN := wait_all hwt hN hun hj
    by_cases hji : j = i
    · subst hji
      exact ⟨hjN, hy.qOp hi H⟩
    · have h1 := hRl _ _ H j hjN
      rw [getD_set_ne false (Ne.symm hji)] at h1
      exact absurd (mem_ready.1 hj).1 (fun h => yes_no h1 h)
  | succ m ih =>
    intro listed a hfree hr hy H
    refine ⟨fun h => (by rw [h] at hr; cases hr), fun j hj => ?_⟩
    by_cases hji : j = i
    · subst hji
      exact ⟨hN, hy.qOp hi H⟩
    · obtain ⟨hjN, h1⟩ := H.2 j (ready_mono hj hji)
      refine ⟨hjN, ?_⟩
      obtain ⟨hjun, oj, hoj, hall⟩ := mem_ready.1 hj
      have hnot : ∀ e ∈ oj.after, Region.binds md e = true → e.on ≠ i := fun e he hb heq => by
        have k1 := hall e he hb
        rw [heq] at k1
        exact yes_no k1 (mem_ready.1 hr).1
      have h2 := qOp_put hoj (hfree j oj hoj hji hjun hnot) (fun cs b => hsel i oi cs b hi) (fun cs b => hsel j oj cs b hoj) hy h1
      have hfree' : ∀ k ok, ops[k]? = some ok → k ≠ i → (listed.setIfInBounds j true).getD k true = false → (∀ e ∈ ok.after, Region.binds md e = true → e.on ≠ i) → oi.apart ops ok = true := fun k ok hk hki hun hno => by
        refine hfree k ok hk hki ?_ hno
        by_cases hjk : j = k
        · subst hjk
          exact hjun
        · rw [getD_set_ne true hjk] at hun
          exact hun
      refine qOp_mono (fun a' h3 => ih (listed.setIfInBounds j true) a' hfree' (ready_mono hr (Ne.symm hji)) h3.1 ?_) h2
      rw [Array.setIfInBounds_comm _ _ hji]
      exact h3.2
theorem mixA_lex {N : Nat} {R : Array Bool → Act → Prop} (hRl : ∀ listed a, R listed a → ∀ j, j < N → listed.getD j false = true) (hwt : waitAll md ops N = true) (hs : Region.noSelect ops = true) : ∀ (l : List Oper) (k : Nat) (listed : Array Bool) (a : Act), k + l.length ≤ N → (∀ j, j < l.length → l[j]? = ops[k + j]?) →
    lexP md ops l.length k listed = true → wpQuiet P ops C (fun a' => R (setN l.length k listed) a') l a → wpMix P md ops C N R l.length listed a
  | [], _, _, _, _, _, _, h => h
  | o :: l, k, listed, a, hk, hll, hB, h => by
    have h0 : ops[k]? = some o := by simpa using (hll 0 (by simp)).symm
    simp only [List.length_cons] at hk
    simp only [List.length_cons, lexP, Bool.and_eq_true] at hB
    obtain ⟨⟨hr, hf⟩, hB'⟩ := hB
    have hr' : k ∈ Region.ready md ops listed := by simpa using hr
    have hst : qOp P ops C k (wpQuiet P ops C (fun a' => R (setN (o :: l).length k listed) a') l) a := by unfold qOp; simp only [h0]; exact h
    obtain ⟨v, hy, hK⟩ := yieldsIn_of_qOp h0 hst
    exact mixA_first hRl hwt h0 (by omega) (Region.noSelect_spec hs) l.length listed a (Region.free_spec h0 hf) hr' hy
      (mixA_lex hRl hwt hs l (k + 1) _ _ (by omega) (fun j hj => by have := hll (j + 1) (by simpa using hj); simpa [Nat.add_assoc, Nat.add_comm 1 j] using this) hB' hK)
end
theorem any_prefixA {P : Program} {C : World → Prop} {Q : Exit → Act → World → Prop} {big : List Oper} (n f : Nat) {a : Act} {w : World} (hn : n ≤ big.length) (hs : Region.noSelect big.toArray = true) (hB : lexP .any big.toArray n 0 (Array.replicate big.length false) = true) (hwt : waitAll .any big.toArray n = true)
    (hA : ((List.range n).all fun j => (setN n 0 (Array.replicate big.length false)).getD j false) = true) (hw : C w)
    (h : wpQuiet P big.toArray C (fun a' => ∀ w', C w' → wpAny P .any big.toArray Q f (setN n 0 (Array.replicate big.length false)) a' w') (big.take n) a) : wpAny P .any big.toArray Q (f + n) (Array.replicate big.length false) a w := by
  have hlen : (big.take n).length = n := by rw [List.length_take]; omega
  have hAll : ∀ j, j < n → (setN n 0 (Array.replicate big.length false)).getD j false = true := fun j hj => List.all_eq_true.1 hA j (List.mem_range.2 hj)
  have hm := mixA_lex (P := P) (md := .any) (ops := big.toArray) (C := C) (N := n) (R := fun listed a => (∀ j, j < n → listed.getD j false = true) ∧ ∀ w', C w' → wpAny P .any big.toArray Q f listed a w') (fun _ _ h => h.1) hwt hs (big.take n) 0 (Array.replicate big.length false) a (by omega)
    (fun j hj => by rw [hlen] at hj; simp [hj]) (by rw [hlen]; exact hB)
    (by rw [hlen]; exact wpQuiet_mono (fun a' h => ⟨hAll, h⟩) _ _ h)
  rw [hlen] at hm
  exact wpAny_of_mix (N := n) (R := fun listed a => (∀ j, j < n → listed.getD j false = true) ∧ ∀ w', C w' → wpAny P .any big.toArray Q f listed a w') (fun _ _ w h1 h2 => h2.2 w h1) n _ a w hw hm
end Go.Proofs.YtdgolaaheakfoaaGreatDoor.ctr
namespace Go.Proofs.YtdgolaaheakfoaaGreatDoor.ctr
open Go.RowKit
abbrev dayV (q : Int × Int × Int × Int) : Value := .agg #[.int .i64 q.1, .int .i64 q.2.1, .int .i64 q.2.2.1, .int .i64 q.2.2.2]
theorem cand_is {c y m d : Int} {r : Rom} (h : isDay c y r m d) : 1 ≤ r.count ∧ r.count ≤ 19 ∧ 1 ≤ r.month ∧ r.month ≤ 12 ∧
    ((r.mark = 0 ∧ 1 < r.count ∧ m = monAhead r.month ∧ (d = monthDays c y (monAhead r.month) + 2 - r.count ∨ d = monthDays c y (monAhead r.month) + 2 - r.count - 1)) ∨ (¬ (r.mark = 0 ∧ 1 < r.count) ∧ m = r.month ∧ d = markN r.month r.mark + 1 - r.count)) := by
  obtain ⟨hd, rfl⟩ := h
  have hm := dateP_month hd
  have hdd := dateP_day hd
  have hn := nones_in hm.1 hm.2
  have hn7 := nones_b m
  have hi := ides_in hm.1 hm.2
  have hc := hd.1
  have hmd := hd.2.2.2.2
  have hmd31 := monthDays_le c y m
  unfold romanOf
  rw [if_pos hd]
  unfold romanIn
  by_cases h1 : d = 1
  · rw [if_pos h1]
    refine ⟨by show (1 : Int) ≤ 1; omega, by show (1 : Int) ≤ 19; omega, hm.1, hm.2, .inr ⟨fun h => by have : (1 : Int) < 1 := h.2; omega, rfl, ?_⟩⟩
    show d = markN m 0 + 1 - 1
    have : markN m 0 = 1 := rfl
    omega
  rw [if_neg h1]
  by_cases h2 : d ≤ nones m
  · rw [if_pos h2]
    refine ⟨by show 1 ≤ nones m - d + 1; omega, by show nones m - d + 1 ≤ 19; omega, hm.1, hm.2, .inr ⟨fun h => by have : (1 : Int) = 0 := h.1; omega, rfl, ?_⟩⟩
    show d = markN m 1 + 1 - (nones m - d + 1)
    have : markN m 1 = nones m := rfl
    omega
  rw [if_neg h2]
  by_cases h3 : d ≤ ides m
  · rw [if_pos h3]
    refine ⟨by show 1 ≤ ides m - d + 1; omega, by show ides m - d + 1 ≤ 19; omega, hm.1, hm.2, .inr ⟨fun h => by have : (2 : Int) = 0 := h.1; omega, rfl, ?_⟩⟩
    show d = markN m 2 + 1 - (ides m - d + 1)
    have : markN m 2 = ides m := rfl
    omega
  rw [if_neg h3]
  have hA : monAhead (m % 12 + 1) = m := by unfold monAhead; split <;> omega
  have hcd : countDays c y m d = monthDays c y m ∨ (countDays c y m d = monthDays c y m - 1 ∧ d ≤ 24) := by
    unfold countDays
    by_cases e : m = 2 ∧ d ≤ 24
    · rw [if_pos e]
      obtain ⟨rfl, h24⟩ := e
      by_cases hl : leapP c y
      · rw [monthDays_leap hc hl]
        exact .inr ⟨rfl, h24⟩
      · left
        have h1 : (1 : Int) ≤ 2 := by omega
        have h2 : (2 : Int) ≤ 12 := by omega
        exact (monthDays_plain (m := 2) hc h1 h2 (fun h => hl h.2)).symm
    · rw [if_neg e]
      exact .inl rfl
  have hge : monthDays c y m ≤ 31 := hmd31.2
  refine ⟨by show 1 ≤ countDays c y m d - d + 2; rcases hcd with h | ⟨h, h'⟩ <;> (have := monthDays_ge hc hm.1 hm.2 (y := y); omega), by show countDays c y m d - d + 2 ≤ 19; rcases hcd with h | ⟨h, h'⟩ <;> omega, by show 1 ≤ m % 12 + 1; omega, by show m % 12 + 1 ≤ 12; omega, .inl ⟨rfl, by show 1 < countDays c y m d - d + 2; rcases hcd with h | ⟨h, h'⟩ <;> (have := monthDays_ge hc hm.1 hm.2 (y := y); omega), hA.symm, ?_⟩⟩
  show d = monthDays c y (monAhead (m % 12 + 1)) + 2 - (countDays c y m d - d + 2) ∨ d = monthDays c y (monAhead (m % 12 + 1)) + 2 - (countDays c y m d - d + 2) - 1
  rw [hA]
  rcases hcd with h | ⟨h, h'⟩
  · left; omega
  · right; omega
structure DSt (w : World) (cn mk mo : Int) (tw : Bool) (c y m x : Int) (W : World) : Prop where
  below : Below w.heap.size w W
  rom : Blk W w.heap.size #[.int .i64 cn, .int .i64 mk, .int .i64 mo, .bool tw] 42
  res : Blk W (w.heap.size + 1) #[.int .i64 0, .int .i64 0, .int .i64 0, .int .i64 0] 92
  dat : Blk W (w.heap.size + 2) #[.int .i64 c, .int .i64 y, .int .i64 m, .int .i64 x] 92
theorem DSt.later {w : World} {cn mk mo : Int} {tw : Bool} {c y m x : Int} {W W' : World} (h : DSt w cn mk mo tw c y m x W) (hb : Below W.heap.size W W') : DSt w cn mk mo tw c y m x W' :=
  ⟨h.below.trans (hb.mono h.below.size), h.rom.below hb h.rom.lt, h.res.below hb h.res.lt, h.dat.below hb h.dat.lt⟩
theorem DSt.month {w : World} {cn mk mo : Int} {tw : Bool} {c y m x : Int} {W : World} (h : DSt w cn mk mo tw c y m x W) (m' : Int) : DSt w cn mk mo tw c y m' x (W.setCell ⟨w.heap.size + 2, 2, none⟩ (.int .i64 m')) :=
  ⟨h.below.setCell (p := ⟨w.heap.size + 2, 2, none⟩) (show w.heap.size ≤ w.heap.size + 2 by omega) _, h.rom.other (by omega), h.res.other (by omega), h.dat.set 2 _⟩
theorem DSt.day {w : World} {cn mk mo : Int} {tw : Bool} {c y m x : Int} {W : World} (h : DSt w cn mk mo tw c y m x W) (x' : Int) : DSt w cn mk mo tw c y m x' (W.setCell ⟨w.heap.size + 2, 3, none⟩ (.int .i64 x')) :=
  ⟨h.below.setCell (p := ⟨w.heap.size + 2, 3, none⟩) (show w.heap.size ≤ w.heap.size + 2 by omega) _, h.rom.other (by omega), h.res.other (by omega), h.dat.set 3 _⟩
set_option maxRecDepth 100000 in
set_option maxHeartbeats 4000000 in
theorem implDayOfRoman (c y : Int) (r : Rom) (w : World) (hT : Tab w) : Calls Tryz.prog 241 #[.int .i64 c, .int .i64 y, romV r] w fun e w' => e = .returned (dayV (dayOfRoman c y r)) ∧ Below w.heap.size w w' := by
  obtain ⟨cn, mk, mo, tw⟩ := r
  obtain ⟨W0, hW0, hD, hR, hBl⟩ := two_box w #[.int .i64 cn, .int .i64 mk, .int .i64 mo, .bool tw] #[.int .i64 0, .int .i64 0, .int .i64 0, .int .i64 0] 42 92
  have hsz : W0.heap.size = w.heap.size + 2 := by rw [hW0, box_size, box_size]
  have KD : ∀ W, Calls Tryz.prog 237 #[.int .i64 mo, .int .i64 mk] W fun e w' => e = .returned (.int .i64 (markN mo mk)) ∧ w' = W := implMarkDay mo mk
  have hmb := markN_b mo mk
  have HW0 := hideP hW0
  have HBl := hideP hBl
  have HR := hideP hR
  have HD := hideP hD
  have HT := hideP hT
  clear hW0 hBl hD hR hT
  have HL : Hid (∀ X o, X = W0.drew ∨ X = W0.drew.alloc o → ∃ x : Later W0, X = x.w) := by
    rintro X o (rfl | rfl)
    · exact ⟨⟨_, (Below.refl _ _).drew⟩, rfl⟩
    · exact ⟨⟨_, (Below.refl W0.heap.size W0).drew.alloc (Nat.le_refl _) _⟩, rfl⟩
  generalize hmk : markN mo mk = st at *
  have HMK := hideP hmk
  clear hmk
  go_enter Tryz.func241, Tryz.ntmps241
  go_wp2_with fail
  rw [← HW0.out]
  refine wp_region_any (by kernel_rfl) ?_
  change wpAny _ _ _ _ (1 + (14 + 1)) _ _ W0.drew
  refine any_alloc 14 1 7 (W1 := W0.drew.alloc (dateO 0 0 0 0)) (p := .pointer (some ⟨w.heap.size + 2, 0, none⟩)) (A := ?A) (by decide) rfl rfl rfl (by kernel_rfl) (by kernel_rfl) (by kernel_rfl) (by kernel_rfl) ?al ?q ?rest
  case q =>
    intro X hX
    obtain ⟨x0, hx0⟩ := HL.out X _ hX
    have k0 : ∀ x : Only X, x.w.cell? ⟨w.heap.size, 0, none⟩ = some (.int .i64 cn) := Only.at (by rw [hx0]; exact (HD.out x0).cell 0 rfl)
    have k1 : ∀ x : Only X, x.w.cell? ⟨w.heap.size, 1, none⟩ = some (.int .i64 mk) := Only.at (by rw [hx0]; exact (HD.out x0).cell 1 rfl)
    have k2 : ∀ x : Only X, x.w.cell? ⟨w.heap.size, 2, none⟩ = some (.int .i64 mo) := Only.at (by rw [hx0]; exact (HD.out x0).cell 2 rfl)
    have k3 : ∀ x : Only X, x.w.cell? ⟨w.heap.size, 3, none⟩ = some (.bool tw) := Only.at (by rw [hx0]; exact (HD.out x0).cell 3 rfl)
    clear hX hx0
    simp only [List.take_succ_cons, List.take_zero]
    repeat (go_big_quiet_step (first | (go_at_call 237; exact calls_only (KD _))))
    refine wpQuiet_nil ?_
    rfl
  case al =>
    intro a K h
    refine wpOp_step rfl ?_
    intro K' hK
    go_simp
    exact hK _ _ h
  case rest =>
    refine wpAny_ready (rs := [15]) (by kernel_rfl) (by simp) ?_
    refine AllReady.cons rfl (fun K hK => ?_) AllReady.nil
    go_simp
    refine hK _ _ ?_
    clear hK K
    refine wpAny_done (by kernel_rfl) ?_ _
    obtain ⟨d0, hd0⟩ : ∃ d0, d0 = wrap64 (st + 1 - cn) := ⟨_, rfl⟩
    rw [← hd0]
    obtain ⟨W2, hW2⟩ : ∃ W2, W2 = (W0.alloc (dateO c y mo d0)).drew := ⟨_, rfl⟩
    have S2 : Hid (DSt w cn mk mo tw c y mo d0 W2) := by
      rw [hW2]
      obtain ⟨x, hx⟩ := HL.out _ (dateO c y mo d0) (.inr rfl)
      have hx' : (W0.alloc (dateO c y mo d0)).drew = x.w := hx
      refine ⟨by rw [hx']; exact HBl.out x, by rw [hx']; exact HD.out x, by rw [hx']; exact HR.out x, ?_⟩
      have h := Blk.new W0 #[.int .i64 c, .int .i64 y, .int .i64 mo, .int .i64 d0] 92
      rw [hsz] at h
      exact h.drew
    rw [← hW2]
    clear hW2 HL HR HD HBl HW0 KD hmb
    have hst := markN_b mo mk
    rw [HMK.out] at hst
    have hst := markN_b mo mk
    rw [HMK.out] at hst
    by_cases hmk : mk = 0 ∧ 1 < cn
    · obtain ⟨rfl, hcn⟩ := hmk
      have hst1 : st = 1 := HMK.out.symm
      have g1 : decide (1 < cn) = true := decide_eq_true hcn
      have u0 := S2.out.rom.cell 0 rfl
      have u1 := S2.out.rom.cell 1 rfl
      have u2 := S2.out.rom.cell 2 rfl
      have v2 := S2.out.dat.cell 2 rfl
      have t2 := S2.out.dat.thaw 2
      have KA := implMonthAhead mo
      have hmd := monthDays_le c y (monAheadW mo)
      obtain ⟨x0, hx0⟩ : ∃ x0, x0 = wrap64 (d0 + monthDays c y (monAheadW mo)) := ⟨_, rfl⟩
      have HQ : Hid (∀ m d, isDay c y ⟨cn, 0, mo, tw⟩ m d → m = monAheadW mo ∧ (d = x0 ∨ d = wrap64 (x0 - 1))) := fun m d h => by
        have hdd := dateP_day h.1
        obtain ⟨c1, c2, c3, c4, h5⟩ := cand_is h
        have c1' : 1 ≤ cn := c1
        have c2' : cn ≤ 19 := c2
        have c3' : 1 ≤ mo := c3
        have c4' : mo ≤ 12 := c4
        have hA : monAheadW mo = monAhead mo := by
          unfold monAheadW monAhead
          split
          · rfl
          · unfold wrap64; omega
        rw [hA] at hx0 hmd ⊢
        rcases h5 with ⟨_, _, hm, hd⟩ | ⟨hn, _⟩
        · refine ⟨hm, ?_⟩
          have hd' : d = monthDays c y (monAhead mo) + 2 - cn ∨ d = monthDays c y (monAhead mo) + 2 - cn - 1 := hd
          have e0 : d0 = 2 - cn := by rw [hd0, hst1]; unfold wrap64; omega
          have ex : x0 = monthDays c y (monAhead mo) + 2 - cn := by rw [hx0, e0]; unfold wrap64; omega
          rcases hd' with e | e
          · left; omega
          · right; rw [ex]; unfold wrap64; omega
        · exact absurd ⟨rfl, hcn⟩ hn
      have HX0 := hideP hx0
      clear hd0 hx0 HMK hst hst1
      generalize hma : monAheadW mo = ma at *
      clear hma
      have KM : ∀ W, Tab W → Calls Tryz.prog 130 #[.int .i64 c, .int .i64 y, .int .i64 ma] W fun e w' => e = .returned (.int .i64 (monthDays c y ma)) ∧ Below W.heap.size W w' := fun W h => implMonthDays c y ma W h
      generalize monthDays c y ma = md at *
      go_wp2_with fail
      refine (KA _).mono ?_
      rintro e w3 ⟨rfl, hw3⟩
      rw [hw3]
      clear hw3 w3
      go_wp2_with fail
      have S3 := hideP (S2.out.month ma)
      generalize W2.setCell ⟨w.heap.size + 2, 2, none⟩ (.int .i64 ma) = W3 at *
      have p2 : ∀ z : Later W3, z.w.cell? ⟨w.heap.size + 2, 2, none⟩ = some (.int .i64 ma) := fun z => (S3.out.later z.below).dat.cell 2 rfl
      have p3 : ∀ z : Later W3, z.w.cell? ⟨w.heap.size + 2, 3, none⟩ = some (.int .i64 d0) := fun z => (S3.out.later z.below).dat.cell 3 rfl
      have KM' : ∀ z : Later W3, Calls Tryz.prog 130 #[.int .i64 c, .int .i64 y, .int .i64 ma] z.w fun e w' => e = .returned (.int .i64 md) ∧ Below z.w.heap.size z.w w' := fun z => KM z.w (HT.out.later (S3.out.later z.below).below)
      clear S2 u0 u1 u2 v2 t2 KM KA
      obtain ⟨xd, hxd⟩ : ∃ xd : Later W3, W3.drew = xd.w := ⟨⟨W3.drew, (Below.refl _ _).drew⟩, rfl⟩
      refine wp_region_any (by kernel_rfl) ?_
      change wpAny _ _ _ _ (1 + 9) _ _ _
      refine any_prefixA (C := fun w' => ∃ x : Later W3, w' = x.w) 9 1 (by decide) (by kernel_rfl) (by kernel_rfl) (by kernel_rfl) (by kernel_rfl) ⟨xd, hxd⟩ ?_
      simp only [List.take_succ_cons, List.take_zero]
      clear hxd xd
      repeat (go_big_quiet_step (first | (go_at_call 130; exact calls_later (KM' _))))
      refine wpQuiet_nil ?_
      intro _ hw'
      obtain ⟨x4, rfl⟩ := hw'
      have s3 := p3 x4
      have f3 := (S3.out.later x4.below).dat.thaw 3
      refine wpAny_ready (rs := [9]) (by kernel_rfl) (by simp) ?_
      refine AllReady.cons rfl (fun K hK => ?_) AllReady.nil
      go_simp
      refine hK _ _ ?_
      clear hK K
      refine wpAny_done (by kernel_rfl) ?_ _
      rw [← HX0.out]
      have SL := hideP ((S3.out.later x4.below).day x0)
      generalize x4.w.setCell ⟨w.heap.size + 2, 3, none⟩ (.int .i64 x0) = WL at *
      clear S3 p2 p3 KM' s3 f3 HX0 hmd
      go_wp2_with fail
      go_loopw [43] (fun i wr => ∃ (k : Nat) (x : Int), k ≤ 2 ∧ i = .int .i64 (k : Int) ∧ DSt w cn 0 mo tw c y ma x wr ∧ Hid ((k = 0 ∧ x = x0) ∨ (k = 1 ∧ x = wrap64 (x0 - 1) ∧ ¬ isDay c y ⟨cn, 0, mo, tw⟩ ma x0) ∨ (k = 2 ∧ ¬ isDay c y ⟨cn, 0, mo, tw⟩ ma x0 ∧ ¬ isDay c y ⟨cn, 0, mo, tw⟩ ma (wrap64 (x0 - 1))))) (fun i _ => 2 - (intOf i).toNat)
      case atStart => exact ⟨0, x0, by omega, rfl, SL.out, .inl ⟨rfl, rfl⟩⟩
      case round =>
        obtain ⟨k, x, hk, rfl, hS, HK⟩ := hrel
        have S := hideP hS
        clear hS SL
        by_cases hlt : k < 2
        · have hno : ∀ h : ¬ isDay c y ⟨cn, 0, mo, tw⟩ ma x, Hid ((k + 1 = 0 ∧ wrap64 (x - 1) = x0) ∨ (k + 1 = 1 ∧ wrap64 (x - 1) = wrap64 (x0 - 1) ∧ ¬ isDay c y ⟨cn, 0, mo, tw⟩ ma x0) ∨ (k + 1 = 2 ∧ ¬ isDay c y ⟨cn, 0, mo, tw⟩ ma x0 ∧ ¬ isDay c y ⟨cn, 0, mo, tw⟩ ma (wrap64 (x0 - 1)))) := fun h => by
            rcases HK.out with ⟨rfl, rfl⟩ | ⟨rfl, rfl, h0⟩ | ⟨rfl, _⟩
            · exact .inr (.inl ⟨rfl, rfl, h⟩)
            · exact .inr (.inr ⟨rfl, h0, h⟩)
            · omega
          have HNO := hideP hno
          clear hno HK HQ
          have u0 : ∀ z : Later wr, z.w.cell? ⟨w.heap.size, 0, none⟩ = some (.int .i64 cn) := fun z => (S.out.later z.below).rom.cell 0 rfl
          have u1 : ∀ z : Later wr, z.w.cell? ⟨w.heap.size, 1, none⟩ = some (.int .i64 0) := fun z => (S.out.later z.below).rom.cell 1 rfl
          have u2 : ∀ z : Later wr, z.w.cell? ⟨w.heap.size, 2, none⟩ = some (.int .i64 mo) := fun z => (S.out.later z.below).rom.cell 2 rfl
          have u3 : ∀ z : Later wr, z.w.cell? ⟨w.heap.size, 3, none⟩ = some (.bool tw) := fun z => (S.out.later z.below).rom.cell 3 rfl
          have v0 : ∀ z : Later wr, z.w.cell? ⟨w.heap.size + 2, 0, none⟩ = some (.int .i64 c) := fun z => (S.out.later z.below).dat.cell 0 rfl
          have v1 : ∀ z : Later wr, z.w.cell? ⟨w.heap.size + 2, 1, none⟩ = some (.int .i64 y) := fun z => (S.out.later z.below).dat.cell 1 rfl
          have v2 : ∀ z : Later wr, z.w.cell? ⟨w.heap.size + 2, 2, none⟩ = some (.int .i64 ma) := fun z => (S.out.later z.below).dat.cell 2 rfl
          have v3 : ∀ z : Later wr, z.w.cell? ⟨w.heap.size + 2, 3, none⟩ = some (.int .i64 x) := fun z => (S.out.later z.below).dat.cell 3 rfl
          have KO : ∀ z : Later wr, Calls Tryz.prog 109 #[.agg #[.int .i64 c, .int .i64 y, .int .i64 ma, .int .i64 x]] z.w fun e w' => e = .returned (.bool (dateOk c y ma x)) ∧ Below z.w.heap.size z.w w' := fun z => implDateOk c y ma x z.w (HT.out.later (S.out.later z.below).below)
          have KR : ∀ z : Later wr, Calls Tryz.prog 235 #[.agg #[.int .i64 c, .int .i64 y, .int .i64 ma, .int .i64 x]] z.w fun e w' => e = .returned (romV (romanOf c y ma x)) ∧ Below z.w.heap.size z.w w' := fun z => implRomanOf c y ma x z.w (HT.out.later (S.out.later z.below).below)
          by_cases hok : dateP c y ma x
          case neg =>
            have HN := hideP (HNO.out (fun h => hok h.1)).out
            rw [dateOk_false hok] at KO
            clear hok KR HNO
            go_wp2_with fail
            refine wp_region_later (W := wr) (Below.refl _ _) (by kernel_rfl) (by kernel_rfl) ?_
            repeat (go_big_quiet_step (first | (go_at_call 109; exact calls_later (KO _)) | (go_at_call 235; exact calls_later (KR _))))
            refine wpQuiet_nil ?_
            intro _ hw'
            obtain ⟨x5, rfl⟩ := hw'
            have s3 := v3 x5
            have f3 := (S.out.later x5.below).dat.thaw 3
            go_wp2
            exact ⟨⟨k + 1, wrap64 (x - 1), by omega, by go_num, (S.out.later x5.below).day _, HN.out⟩, by simp [intOf]; omega⟩
          rw [dateOk_true hok] at KO
          by_cases hr : romanOf c y ma x = ⟨cn, 0, mo, tw⟩
          · have HV := hideP (romDay_yes (show isDay c y ⟨cn, 0, mo, tw⟩ ma x from ⟨hok, hr⟩))
            rw [hr] at KR
            clear hok hr HNO
            go_wp2_with fail
            refine wp_region_later (W := wr) (Below.refl _ _) (by kernel_rfl) (by kernel_rfl) ?_
            repeat (go_big_quiet_step (first | (go_at_call 109; exact calls_later (KO _)) | (go_at_call 235; exact calls_later (KR _))))
            refine wpQuiet_nil ?_
            intro _ hw'
            obtain ⟨x5, rfl⟩ := hw'
            have s0 := v0 x5
            have s1 := v1 x5
            have s2 := v2 x5
            have s3 := v3 x5
            have q0 := (S.out.later x5.below).res.cell 0 rfl
            have q1 := (S.out.later x5.below).res.cell 1 rfl
            have q2 := (S.out.later x5.below).res.cell 2 rfl
            have q3 := (S.out.later x5.below).res.cell 3 rfl
            have f0 := (S.out.later x5.below).res.thaw 0
            have f1 := (S.out.later x5.below).res.thaw 1
            have f2 := (S.out.later x5.below).res.thaw 2
            have f3 := (S.out.later x5.below).res.thaw 3
            go_wp2_with fail
            rw [put4_eq]
            have Z := put4_blk (v0 := .int .i64 c) (v1 := .int .i64 y) (v2 := .int .i64 ma) (v3 := .int .i64 x) (S.out.later x5.below).res
            have z0 := Z.cell 0 rfl
            have z1 := Z.cell 1 rfl
            have z2 := Z.cell 2 rfl
            have z3 := Z.cell 3 rfl
            exact bodyPost_ret (by simp [results, Tryz.results241, go_sem, z0, z1, z2, z3]; try rfl) rfl ⟨by rw [HV.out], put4_below (S.out.later x5.below).below (by omega)⟩
          have HN := hideP (HNO.out (fun h => hr h.2)).out
          generalize romanOf c y ma x = ro at *
          obtain ⟨a0, a1, a2, a3⟩ := ro
          have hne : (a0 == cn) = false ∨ (a1 == 0) = false ∨ (a2 == mo) = false ∨ (a3 == tw) = false := by
            by_cases e0 : a0 = cn
            · by_cases e1 : a1 = 0
              · by_cases e2 : a2 = mo
                · by_cases e3 : a3 = tw
                  · exact absurd (by rw [e0, e1, e2, e3]) hr
                  · exact .inr (.inr (.inr (by simp [e3])))
                · exact .inr (.inr (.inl (by simp [e2])))
              · exact .inr (.inl (by simp [e1]))
            · exact .inl (by simp [e0])
          clear hr hok HNO
          rcases hne with he | he | he | he
          · skip
            go_wp2_with fail
            refine wp_region_later (W := wr) (Below.refl _ _) (by kernel_rfl) (by kernel_rfl) ?_
            repeat (go_big_quiet_step (first | (go_at_call 109; exact calls_later (KO _)) | (go_at_call 235; exact calls_later (KR _))))
            refine wpQuiet_nil ?_
            intro _ hw'
            obtain ⟨x5, rfl⟩ := hw'
            have s3 := v3 x5
            have f3 := (S.out.later x5.below).dat.thaw 3
            go_wp2
            exact ⟨⟨k + 1, wrap64 (x - 1), by omega, by go_num, (S.out.later x5.below).day _, HN.out⟩, by simp [intOf]; omega⟩
          · skip
            go_wp2_with fail
            refine wp_region_later (W := wr) (Below.refl _ _) (by kernel_rfl) (by kernel_rfl) ?_
            repeat (go_big_quiet_step (first | (go_at_call 109; exact calls_later (KO _)) | (go_at_call 235; exact calls_later (KR _))))
            refine wpQuiet_nil ?_
            intro _ hw'
            obtain ⟨x5, rfl⟩ := hw'
            have s3 := v3 x5
            have f3 := (S.out.later x5.below).dat.thaw 3
            go_wp2
            exact ⟨⟨k + 1, wrap64 (x - 1), by omega, by go_num, (S.out.later x5.below).day _, HN.out⟩, by simp [intOf]; omega⟩
          · skip
            go_wp2_with fail
            refine wp_region_later (W := wr) (Below.refl _ _) (by kernel_rfl) (by kernel_rfl) ?_
            repeat (go_big_quiet_step (first | (go_at_call 109; exact calls_later (KO _)) | (go_at_call 235; exact calls_later (KR _))))
            refine wpQuiet_nil ?_
            intro _ hw'
            obtain ⟨x5, rfl⟩ := hw'
            have s3 := v3 x5
            have f3 := (S.out.later x5.below).dat.thaw 3
            go_wp2
            exact ⟨⟨k + 1, wrap64 (x - 1), by omega, by go_num, (S.out.later x5.below).day _, HN.out⟩, by simp [intOf]; omega⟩
          · skip
            go_wp2_with fail
            refine wp_region_later (W := wr) (Below.refl _ _) (by kernel_rfl) (by kernel_rfl) ?_
            repeat (go_big_quiet_step (first | (go_at_call 109; exact calls_later (KO _)) | (go_at_call 235; exact calls_later (KR _))))
            refine wpQuiet_nil ?_
            intro _ hw'
            obtain ⟨x5, rfl⟩ := hw'
            have s3 := v3 x5
            have f3 := (S.out.later x5.below).dat.thaw 3
            go_wp2
            exact ⟨⟨k + 1, wrap64 (x - 1), by omega, by go_num, (S.out.later x5.below).day _, HN.out⟩, by simp [intOf]; omega⟩
        · have hk2 : k = 2 := by omega
          subst hk2
          have HV : Hid (dayOfRoman c y ⟨cn, 0, mo, tw⟩ = (0, 0, 0, 0)) := romDay_no fun m d h => by
            obtain ⟨rfl, hd⟩ := HQ.out m d h
            rcases HK.out with ⟨h0, _⟩ | ⟨h0, _⟩ | ⟨_, h1, h2⟩
            · omega
            · omega
            · rcases hd with rfl | rfl
              · exact h1 h
              · exact h2 h
          clear HK HQ
          have q0 := S.out.res.cell 0 rfl
          have q1 := S.out.res.cell 1 rfl
          have q2 := S.out.res.cell 2 rfl
          have q3 := S.out.res.cell 3 rfl
          have f0 := S.out.res.thaw 0
          have f1 := S.out.res.thaw 1
          have f2 := S.out.res.thaw 2
          have f3 := S.out.res.thaw 3
          go_wp2_with fail
          rw [put4_eq]
          have Z := put4_blk (v0 := .int .i64 0) (v1 := .int .i64 0) (v2 := .int .i64 0) (v3 := .int .i64 0) S.out.res
          have z0 := Z.cell 0 rfl
          have z1 := Z.cell 1 rfl
          have z2 := Z.cell 2 rfl
          have z3 := Z.cell 3 rfl
          exact bodyPost_ret (by simp [results, Tryz.results241, go_sem, z0, z1, z2, z3]; try rfl) rfl ⟨by rw [HV.out], put4_below S.out.below (by omega)⟩
    · have HQ : Hid (∀ m d, isDay c y ⟨cn, mk, mo, tw⟩ m d → m = mo ∧ (d = d0 ∨ d = wrap64 (d0 - 1))) := fun m d h => by
        have hdd := dateP_day h.1
        obtain ⟨c1, c2, c3, c4, h5⟩ := cand_is h
        have c1' : 1 ≤ cn := c1
        have c2' : cn ≤ 19 := c2
        rcases h5 with ⟨h0, h1, _⟩ | ⟨_, hm, hd⟩
        · exact absurd ⟨h0, h1⟩ hmk
        · refine ⟨hm, .inl ?_⟩
          have hd' : d = markN mo mk + 1 - cn := hd
          rw [HMK.out] at hd'
          rw [hd0]
          unfold wrap64
          omega
      clear hd0 HMK hst
      have SL := hideP S2.out
      have u0 := S2.out.rom.cell 0 rfl
      have u1 := S2.out.rom.cell 1 rfl
      clear S2
      by_cases h0 : mk = 0
      · have e0 : (mk == 0) = true := by simp [h0]
        have g1 : decide (1 < cn) = false := decide_eq_false (fun h => hmk ⟨h0, h⟩)
        clear h0 hmk
        go_wp2_with fail
        go_loopw [43] (fun i wr => ∃ (k : Nat) (x : Int), k ≤ 2 ∧ i = .int .i64 (k : Int) ∧ DSt w cn mk mo tw c y mo x wr ∧ Hid ((k = 0 ∧ x = d0) ∨ (k = 1 ∧ x = wrap64 (d0 - 1) ∧ ¬ isDay c y ⟨cn, mk, mo, tw⟩ mo d0) ∨ (k = 2 ∧ ¬ isDay c y ⟨cn, mk, mo, tw⟩ mo d0 ∧ ¬ isDay c y ⟨cn, mk, mo, tw⟩ mo (wrap64 (d0 - 1))))) (fun i _ => 2 - (intOf i).toNat)
        case atStart => exact ⟨0, d0, by omega, rfl, SL.out, .inl ⟨rfl, rfl⟩⟩
        case round =>
          obtain ⟨k, x, hk, rfl, hS, HK⟩ := hrel
          have S := hideP hS
          clear hS SL
          by_cases hlt : k < 2
          · have hno : ∀ h : ¬ isDay c y ⟨cn, mk, mo, tw⟩ mo x, Hid ((k + 1 = 0 ∧ wrap64 (x - 1) = d0) ∨ (k + 1 = 1 ∧ wrap64 (x - 1) = wrap64 (d0 - 1) ∧ ¬ isDay c y ⟨cn, mk, mo, tw⟩ mo d0) ∨ (k + 1 = 2 ∧ ¬ isDay c y ⟨cn, mk, mo, tw⟩ mo d0 ∧ ¬ isDay c y ⟨cn, mk, mo, tw⟩ mo (wrap64 (d0 - 1)))) := fun h => by
              rcases HK.out with ⟨rfl, rfl⟩ | ⟨rfl, rfl, h0⟩ | ⟨rfl, _⟩
              · exact .inr (.inl ⟨rfl, rfl, h⟩)
              · exact .inr (.inr ⟨rfl, h0, h⟩)
              · omega
            have HNO := hideP hno
            clear hno HK HQ
            have u0 : ∀ z : Later wr, z.w.cell? ⟨w.heap.size, 0, none⟩ = some (.int .i64 cn) := fun z => (S.out.later z.below).rom.cell 0 rfl
            have u1 : ∀ z : Later wr, z.w.cell? ⟨w.heap.size, 1, none⟩ = some (.int .i64 mk) := fun z => (S.out.later z.below).rom.cell 1 rfl
            have u2 : ∀ z : Later wr, z.w.cell? ⟨w.heap.size, 2, none⟩ = some (.int .i64 mo) := fun z => (S.out.later z.below).rom.cell 2 rfl
            have u3 : ∀ z : Later wr, z.w.cell? ⟨w.heap.size, 3, none⟩ = some (.bool tw) := fun z => (S.out.later z.below).rom.cell 3 rfl
            have v0 : ∀ z : Later wr, z.w.cell? ⟨w.heap.size + 2, 0, none⟩ = some (.int .i64 c) := fun z => (S.out.later z.below).dat.cell 0 rfl
            have v1 : ∀ z : Later wr, z.w.cell? ⟨w.heap.size + 2, 1, none⟩ = some (.int .i64 y) := fun z => (S.out.later z.below).dat.cell 1 rfl
            have v2 : ∀ z : Later wr, z.w.cell? ⟨w.heap.size + 2, 2, none⟩ = some (.int .i64 mo) := fun z => (S.out.later z.below).dat.cell 2 rfl
            have v3 : ∀ z : Later wr, z.w.cell? ⟨w.heap.size + 2, 3, none⟩ = some (.int .i64 x) := fun z => (S.out.later z.below).dat.cell 3 rfl
            have KO : ∀ z : Later wr, Calls Tryz.prog 109 #[.agg #[.int .i64 c, .int .i64 y, .int .i64 mo, .int .i64 x]] z.w fun e w' => e = .returned (.bool (dateOk c y mo x)) ∧ Below z.w.heap.size z.w w' := fun z => implDateOk c y mo x z.w (HT.out.later (S.out.later z.below).below)
            have KR : ∀ z : Later wr, Calls Tryz.prog 235 #[.agg #[.int .i64 c, .int .i64 y, .int .i64 mo, .int .i64 x]] z.w fun e w' => e = .returned (romV (romanOf c y mo x)) ∧ Below z.w.heap.size z.w w' := fun z => implRomanOf c y mo x z.w (HT.out.later (S.out.later z.below).below)
            by_cases hok : dateP c y mo x
            case neg =>
              have HN := hideP (HNO.out (fun h => hok h.1)).out
              rw [dateOk_false hok] at KO
              clear hok KR HNO
              go_wp2_with fail
              refine wp_region_later (W := wr) (Below.refl _ _) (by kernel_rfl) (by kernel_rfl) ?_
              repeat (go_big_quiet_step (first | (go_at_call 109; exact calls_later (KO _)) | (go_at_call 235; exact calls_later (KR _))))
              refine wpQuiet_nil ?_
              intro _ hw'
              obtain ⟨x5, rfl⟩ := hw'
              have s3 := v3 x5
              have f3 := (S.out.later x5.below).dat.thaw 3
              go_wp2
              exact ⟨⟨k + 1, wrap64 (x - 1), by omega, by go_num, (S.out.later x5.below).day _, HN.out⟩, by simp [intOf]; omega⟩
            rw [dateOk_true hok] at KO
            by_cases hr : romanOf c y mo x = ⟨cn, mk, mo, tw⟩
            · have HV := hideP (romDay_yes (show isDay c y ⟨cn, mk, mo, tw⟩ mo x from ⟨hok, hr⟩))
              rw [hr] at KR
              clear hok hr HNO
              go_wp2_with fail
              refine wp_region_later (W := wr) (Below.refl _ _) (by kernel_rfl) (by kernel_rfl) ?_
              repeat (go_big_quiet_step (first | (go_at_call 109; exact calls_later (KO _)) | (go_at_call 235; exact calls_later (KR _))))
              refine wpQuiet_nil ?_
              intro _ hw'
              obtain ⟨x5, rfl⟩ := hw'
              have s0 := v0 x5
              have s1 := v1 x5
              have s2 := v2 x5
              have s3 := v3 x5
              have q0 := (S.out.later x5.below).res.cell 0 rfl
              have q1 := (S.out.later x5.below).res.cell 1 rfl
              have q2 := (S.out.later x5.below).res.cell 2 rfl
              have q3 := (S.out.later x5.below).res.cell 3 rfl
              have f0 := (S.out.later x5.below).res.thaw 0
              have f1 := (S.out.later x5.below).res.thaw 1
              have f2 := (S.out.later x5.below).res.thaw 2
              have f3 := (S.out.later x5.below).res.thaw 3
              go_wp2_with fail
              rw [put4_eq]
              have Z := put4_blk (v0 := .int .i64 c) (v1 := .int .i64 y) (v2 := .int .i64 mo) (v3 := .int .i64 x) (S.out.later x5.below).res
              have z0 := Z.cell 0 rfl
              have z1 := Z.cell 1 rfl
              have z2 := Z.cell 2 rfl
              have z3 := Z.cell 3 rfl
              exact bodyPost_ret (by simp [results, Tryz.results241, go_sem, z0, z1, z2, z3]; try rfl) rfl ⟨by rw [HV.out], put4_below (S.out.later x5.below).below (by omega)⟩
            have HN := hideP (HNO.out (fun h => hr h.2)).out
            generalize romanOf c y mo x = ro at *
            obtain ⟨a0, a1, a2, a3⟩ := ro
            have hne : (a0 == cn) = false ∨ (a1 == mk) = false ∨ (a2 == mo) = false ∨ (a3 == tw) = false := by
              by_cases e0 : a0 = cn
              · by_cases e1 : a1 = mk
                · by_cases e2 : a2 = mo
                  · by_cases e3 : a3 = tw
                    · exact absurd (by rw [e0, e1, e2, e3]) hr
                    · exact .inr (.inr (.inr (by simp [e3])))
                  · exact .inr (.inr (.inl (by simp [e2])))
                · exact .inr (.inl (by simp [e1]))
              · exact .inl (by simp [e0])
            clear hr hok HNO
            rcases hne with he | he | he | he
            · skip
              go_wp2_with fail
              refine wp_region_later (W := wr) (Below.refl _ _) (by kernel_rfl) (by kernel_rfl) ?_
              repeat (go_big_quiet_step (first | (go_at_call 109; exact calls_later (KO _)) | (go_at_call 235; exact calls_later (KR _))))
              refine wpQuiet_nil ?_
              intro _ hw'
              obtain ⟨x5, rfl⟩ := hw'
              have s3 := v3 x5
              have f3 := (S.out.later x5.below).dat.thaw 3
              go_wp2
              exact ⟨⟨k + 1, wrap64 (x - 1), by omega, by go_num, (S.out.later x5.below).day _, HN.out⟩, by simp [intOf]; omega⟩
            · skip
              go_wp2_with fail
              refine wp_region_later (W := wr) (Below.refl _ _) (by kernel_rfl) (by kernel_rfl) ?_
              repeat (go_big_quiet_step (first | (go_at_call 109; exact calls_later (KO _)) | (go_at_call 235; exact calls_later (KR _))))
              refine wpQuiet_nil ?_
              intro _ hw'
              obtain ⟨x5, rfl⟩ := hw'
              have s3 := v3 x5
              have f3 := (S.out.later x5.below).dat.thaw 3
              go_wp2
              exact ⟨⟨k + 1, wrap64 (x - 1), by omega, by go_num, (S.out.later x5.below).day _, HN.out⟩, by simp [intOf]; omega⟩
            · skip
              go_wp2_with fail
              refine wp_region_later (W := wr) (Below.refl _ _) (by kernel_rfl) (by kernel_rfl) ?_
              repeat (go_big_quiet_step (first | (go_at_call 109; exact calls_later (KO _)) | (go_at_call 235; exact calls_later (KR _))))
              refine wpQuiet_nil ?_
              intro _ hw'
              obtain ⟨x5, rfl⟩ := hw'
              have s3 := v3 x5
              have f3 := (S.out.later x5.below).dat.thaw 3
              go_wp2
              exact ⟨⟨k + 1, wrap64 (x - 1), by omega, by go_num, (S.out.later x5.below).day _, HN.out⟩, by simp [intOf]; omega⟩
            · skip
              go_wp2_with fail
              refine wp_region_later (W := wr) (Below.refl _ _) (by kernel_rfl) (by kernel_rfl) ?_
              repeat (go_big_quiet_step (first | (go_at_call 109; exact calls_later (KO _)) | (go_at_call 235; exact calls_later (KR _))))
              refine wpQuiet_nil ?_
              intro _ hw'
              obtain ⟨x5, rfl⟩ := hw'
              have s3 := v3 x5
              have f3 := (S.out.later x5.below).dat.thaw 3
              go_wp2
              exact ⟨⟨k + 1, wrap64 (x - 1), by omega, by go_num, (S.out.later x5.below).day _, HN.out⟩, by simp [intOf]; omega⟩
          · have hk2 : k = 2 := by omega
            subst hk2
            have HV : Hid (dayOfRoman c y ⟨cn, mk, mo, tw⟩ = (0, 0, 0, 0)) := romDay_no fun m d h => by
              obtain ⟨rfl, hd⟩ := HQ.out m d h
              rcases HK.out with ⟨h0, _⟩ | ⟨h0, _⟩ | ⟨_, h1, h2⟩
              · omega
              · omega
              · rcases hd with rfl | rfl
                · exact h1 h
                · exact h2 h
            clear HK HQ
            have q0 := S.out.res.cell 0 rfl
            have q1 := S.out.res.cell 1 rfl
            have q2 := S.out.res.cell 2 rfl
            have q3 := S.out.res.cell 3 rfl
            have f0 := S.out.res.thaw 0
            have f1 := S.out.res.thaw 1
            have f2 := S.out.res.thaw 2
            have f3 := S.out.res.thaw 3
            go_wp2_with fail
            rw [put4_eq]
            have Z := put4_blk (v0 := .int .i64 0) (v1 := .int .i64 0) (v2 := .int .i64 0) (v3 := .int .i64 0) S.out.res
            have z0 := Z.cell 0 rfl
            have z1 := Z.cell 1 rfl
            have z2 := Z.cell 2 rfl
            have z3 := Z.cell 3 rfl
            exact bodyPost_ret (by simp [results, Tryz.results241, go_sem, z0, z1, z2, z3]; try rfl) rfl ⟨by rw [HV.out], put4_below S.out.below (by omega)⟩
      · have e0 : (mk == 0) = false := by simp [h0]
        clear h0 hmk
        go_wp2_with fail
        go_loopw [43] (fun i wr => ∃ (k : Nat) (x : Int), k ≤ 2 ∧ i = .int .i64 (k : Int) ∧ DSt w cn mk mo tw c y mo x wr ∧ Hid ((k = 0 ∧ x = d0) ∨ (k = 1 ∧ x = wrap64 (d0 - 1) ∧ ¬ isDay c y ⟨cn, mk, mo, tw⟩ mo d0) ∨ (k = 2 ∧ ¬ isDay c y ⟨cn, mk, mo, tw⟩ mo d0 ∧ ¬ isDay c y ⟨cn, mk, mo, tw⟩ mo (wrap64 (d0 - 1))))) (fun i _ => 2 - (intOf i).toNat)
        case atStart => exact ⟨0, d0, by omega, rfl, SL.out, .inl ⟨rfl, rfl⟩⟩
        case round =>
          obtain ⟨k, x, hk, rfl, hS, HK⟩ := hrel
          have S := hideP hS
          clear hS SL
          by_cases hlt : k < 2
          · have hno : ∀ h : ¬ isDay c y ⟨cn, mk, mo, tw⟩ mo x, Hid ((k + 1 = 0 ∧ wrap64 (x - 1) = d0) ∨ (k + 1 = 1 ∧ wrap64 (x - 1) = wrap64 (d0 - 1) ∧ ¬ isDay c y ⟨cn, mk, mo, tw⟩ mo d0) ∨ (k + 1 = 2 ∧ ¬ isDay c y ⟨cn, mk, mo, tw⟩ mo d0 ∧ ¬ isDay c y ⟨cn, mk, mo, tw⟩ mo (wrap64 (d0 - 1)))) := fun h => by
              rcases HK.out with ⟨rfl, rfl⟩ | ⟨rfl, rfl, h0⟩ | ⟨rfl, _⟩
              · exact .inr (.inl ⟨rfl, rfl, h⟩)
              · exact .inr (.inr ⟨rfl, h0, h⟩)
              · omega
            have HNO := hideP hno
            clear hno HK HQ
            have u0 : ∀ z : Later wr, z.w.cell? ⟨w.heap.size, 0, none⟩ = some (.int .i64 cn) := fun z => (S.out.later z.below).rom.cell 0 rfl
            have u1 : ∀ z : Later wr, z.w.cell? ⟨w.heap.size, 1, none⟩ = some (.int .i64 mk) := fun z => (S.out.later z.below).rom.cell 1 rfl
            have u2 : ∀ z : Later wr, z.w.cell? ⟨w.heap.size, 2, none⟩ = some (.int .i64 mo) := fun z => (S.out.later z.below).rom.cell 2 rfl
            have u3 : ∀ z : Later wr, z.w.cell? ⟨w.heap.size, 3, none⟩ = some (.bool tw) := fun z => (S.out.later z.below).rom.cell 3 rfl
            have v0 : ∀ z : Later wr, z.w.cell? ⟨w.heap.size + 2, 0, none⟩ = some (.int .i64 c) := fun z => (S.out.later z.below).dat.cell 0 rfl
            have v1 : ∀ z : Later wr, z.w.cell? ⟨w.heap.size + 2, 1, none⟩ = some (.int .i64 y) := fun z => (S.out.later z.below).dat.cell 1 rfl
            have v2 : ∀ z : Later wr, z.w.cell? ⟨w.heap.size + 2, 2, none⟩ = some (.int .i64 mo) := fun z => (S.out.later z.below).dat.cell 2 rfl
            have v3 : ∀ z : Later wr, z.w.cell? ⟨w.heap.size + 2, 3, none⟩ = some (.int .i64 x) := fun z => (S.out.later z.below).dat.cell 3 rfl
            have KO : ∀ z : Later wr, Calls Tryz.prog 109 #[.agg #[.int .i64 c, .int .i64 y, .int .i64 mo, .int .i64 x]] z.w fun e w' => e = .returned (.bool (dateOk c y mo x)) ∧ Below z.w.heap.size z.w w' := fun z => implDateOk c y mo x z.w (HT.out.later (S.out.later z.below).below)
            have KR : ∀ z : Later wr, Calls Tryz.prog 235 #[.agg #[.int .i64 c, .int .i64 y, .int .i64 mo, .int .i64 x]] z.w fun e w' => e = .returned (romV (romanOf c y mo x)) ∧ Below z.w.heap.size z.w w' := fun z => implRomanOf c y mo x z.w (HT.out.later (S.out.later z.below).below)
            by_cases hok : dateP c y mo x
            case neg =>
              have HN := hideP (HNO.out (fun h => hok h.1)).out
              rw [dateOk_false hok] at KO
              clear hok KR HNO
              go_wp2_with fail
              refine wp_region_later (W := wr) (Below.refl _ _) (by kernel_rfl) (by kernel_rfl) ?_
              repeat (go_big_quiet_step (first | (go_at_call 109; exact calls_later (KO _)) | (go_at_call 235; exact calls_later (KR _))))
              refine wpQuiet_nil ?_
              intro _ hw'
              obtain ⟨x5, rfl⟩ := hw'
              have s3 := v3 x5
              have f3 := (S.out.later x5.below).dat.thaw 3
              go_wp2
              exact ⟨⟨k + 1, wrap64 (x - 1), by omega, by go_num, (S.out.later x5.below).day _, HN.out⟩, by simp [intOf]; omega⟩
            rw [dateOk_true hok] at KO
            by_cases hr : romanOf c y mo x = ⟨cn, mk, mo, tw⟩
            · have HV := hideP (romDay_yes (show isDay c y ⟨cn, mk, mo, tw⟩ mo x from ⟨hok, hr⟩))
              rw [hr] at KR
              clear hok hr HNO
              go_wp2_with fail
              refine wp_region_later (W := wr) (Below.refl _ _) (by kernel_rfl) (by kernel_rfl) ?_
              repeat (go_big_quiet_step (first | (go_at_call 109; exact calls_later (KO _)) | (go_at_call 235; exact calls_later (KR _))))
              refine wpQuiet_nil ?_
              intro _ hw'
              obtain ⟨x5, rfl⟩ := hw'
              have s0 := v0 x5
              have s1 := v1 x5
              have s2 := v2 x5
              have s3 := v3 x5
              have q0 := (S.out.later x5.below).res.cell 0 rfl
              have q1 := (S.out.later x5.below).res.cell 1 rfl
              have q2 := (S.out.later x5.below).res.cell 2 rfl
              have q3 := (S.out.later x5.below).res.cell 3 rfl
              have f0 := (S.out.later x5.below).res.thaw 0
              have f1 := (S.out.later x5.below).res.thaw 1
              have f2 := (S.out.later x5.below).res.thaw 2
              have f3 := (S.out.later x5.below).res.thaw 3
              go_wp2_with fail
              rw [put4_eq]
              have Z := put4_blk (v0 := .int .i64 c) (v1 := .int .i64 y) (v2 := .int .i64 mo) (v3 := .int .i64 x) (S.out.later x5.below).res
              have z0 := Z.cell 0 rfl
              have z1 := Z.cell 1 rfl
              have z2 := Z.cell 2 rfl
              have z3 := Z.cell 3 rfl
              exact bodyPost_ret (by simp [results, Tryz.results241, go_sem, z0, z1, z2, z3]; try rfl) rfl ⟨by rw [HV.out], put4_below (S.out.later x5.below).below (by omega)⟩
            have HN := hideP (HNO.out (fun h => hr h.2)).out
            generalize romanOf c y mo x = ro at *
            obtain ⟨a0, a1, a2, a3⟩ := ro
            have hne : (a0 == cn) = false ∨ (a1 == mk) = false ∨ (a2 == mo) = false ∨ (a3 == tw) = false := by
              by_cases e0 : a0 = cn
              · by_cases e1 : a1 = mk
                · by_cases e2 : a2 = mo
                  · by_cases e3 : a3 = tw
                    · exact absurd (by rw [e0, e1, e2, e3]) hr
                    · exact .inr (.inr (.inr (by simp [e3])))
                  · exact .inr (.inr (.inl (by simp [e2])))
                · exact .inr (.inl (by simp [e1]))
              · exact .inl (by simp [e0])
            clear hr hok HNO
            rcases hne with he | he | he | he
            · skip
              go_wp2_with fail
              refine wp_region_later (W := wr) (Below.refl _ _) (by kernel_rfl) (by kernel_rfl) ?_
              repeat (go_big_quiet_step (first | (go_at_call 109; exact calls_later (KO _)) | (go_at_call 235; exact calls_later (KR _))))
              refine wpQuiet_nil ?_
              intro _ hw'
              obtain ⟨x5, rfl⟩ := hw'
              have s3 := v3 x5
              have f3 := (S.out.later x5.below).dat.thaw 3
              go_wp2
              exact ⟨⟨k + 1, wrap64 (x - 1), by omega, by go_num, (S.out.later x5.below).day _, HN.out⟩, by simp [intOf]; omega⟩
            · skip
              go_wp2_with fail
              refine wp_region_later (W := wr) (Below.refl _ _) (by kernel_rfl) (by kernel_rfl) ?_
              repeat (go_big_quiet_step (first | (go_at_call 109; exact calls_later (KO _)) | (go_at_call 235; exact calls_later (KR _))))
              refine wpQuiet_nil ?_
              intro _ hw'
              obtain ⟨x5, rfl⟩ := hw'
              have s3 := v3 x5
              have f3 := (S.out.later x5.below).dat.thaw 3
              go_wp2
              exact ⟨⟨k + 1, wrap64 (x - 1), by omega, by go_num, (S.out.later x5.below).day _, HN.out⟩, by simp [intOf]; omega⟩
            · skip
              go_wp2_with fail
              refine wp_region_later (W := wr) (Below.refl _ _) (by kernel_rfl) (by kernel_rfl) ?_
              repeat (go_big_quiet_step (first | (go_at_call 109; exact calls_later (KO _)) | (go_at_call 235; exact calls_later (KR _))))
              refine wpQuiet_nil ?_
              intro _ hw'
              obtain ⟨x5, rfl⟩ := hw'
              have s3 := v3 x5
              have f3 := (S.out.later x5.below).dat.thaw 3
              go_wp2
              exact ⟨⟨k + 1, wrap64 (x - 1), by omega, by go_num, (S.out.later x5.below).day _, HN.out⟩, by simp [intOf]; omega⟩
            · skip
              go_wp2_with fail
              refine wp_region_later (W := wr) (Below.refl _ _) (by kernel_rfl) (by kernel_rfl) ?_
              repeat (go_big_quiet_step (first | (go_at_call 109; exact calls_later (KO _)) | (go_at_call 235; exact calls_later (KR _))))
              refine wpQuiet_nil ?_
              intro _ hw'
              obtain ⟨x5, rfl⟩ := hw'
              have s3 := v3 x5
              have f3 := (S.out.later x5.below).dat.thaw 3
              go_wp2
              exact ⟨⟨k + 1, wrap64 (x - 1), by omega, by go_num, (S.out.later x5.below).day _, HN.out⟩, by simp [intOf]; omega⟩
          · have hk2 : k = 2 := by omega
            subst hk2
            have HV : Hid (dayOfRoman c y ⟨cn, mk, mo, tw⟩ = (0, 0, 0, 0)) := romDay_no fun m d h => by
              obtain ⟨rfl, hd⟩ := HQ.out m d h
              rcases HK.out with ⟨h0, _⟩ | ⟨h0, _⟩ | ⟨_, h1, h2⟩
              · omega
              · omega
              · rcases hd with rfl | rfl
                · exact h1 h
                · exact h2 h
            clear HK HQ
            have q0 := S.out.res.cell 0 rfl
            have q1 := S.out.res.cell 1 rfl
            have q2 := S.out.res.cell 2 rfl
            have q3 := S.out.res.cell 3 rfl
            have f0 := S.out.res.thaw 0
            have f1 := S.out.res.thaw 1
            have f2 := S.out.res.thaw 2
            have f3 := S.out.res.thaw 3
            go_wp2_with fail
            rw [put4_eq]
            have Z := put4_blk (v0 := .int .i64 0) (v1 := .int .i64 0) (v2 := .int .i64 0) (v3 := .int .i64 0) S.out.res
            have z0 := Z.cell 0 rfl
            have z1 := Z.cell 1 rfl
            have z2 := Z.cell 2 rfl
            have z3 := Z.cell 3 rfl
            exact bodyPost_ret (by simp [results, Tryz.results241, go_sem, z0, z1, z2, z3]; try rfl) rfl ⟨by rw [HV.out], put4_below S.out.below (by omega)⟩
end Go.Proofs.YtdgolaaheakfoaaGreatDoor.ctr
