/- Contracts of the program's firstShared and firstBare: whether two segments share a day, whether a day is bare; and what else the law reaches. -/
import Derived.Test.YtpclaceefapppaaGreatDoorJnZap
import Derived.Test.YtpclaceefapppaaGreatDoorJnZah
import Derived.LaidLaws
import Derived.LaidHandle
import Derived.Test.YtpclaceefapppaaGreatDoorJnZas
import Derived.Test.YtpclaceefapppaaGreatDoorJnZag
import Derived.Test.YtpclaceefapppaaGreatDoorJnZan
import Derived.Test.YtpclaceefapppaaGreatDoorJnZar
import Derived.Test.YtpclaceefapppaaGreatDoorJnZai
set_option maxRecDepth 100000
set_option maxHeartbeats 2000000
namespace Go.Proofs.YtpclaceefapppaaGreatDoor.ctr
open Go.RowKit
theorem implShared (v : Value) (L : List Seg) (w : World) (h : IRow segK w v L) (hl : L.length ≤ 1048576) : Calls Tryz.prog 249 #[v] w fun e w' => ∃ d : Int, e = .returned (.tuple #[.int .i64 d, .bool (sharedB L)]) ∧ Below w.heap.size w w' := by
 obtain ⟨ad, c, rfl, hc, hcm, H⟩ := h
 have HR := hideP H
 unfold maxLen at hcm
 obtain ⟨N, hN⟩ : ∃ N, N = L.length := ⟨_, rfl⟩
 have HN := hideP hN
 rw [← hN] at hl hc ⊢
 obtain ⟨R, hR⟩ : ∃ R, R = sharedB L := ⟨_, rfl⟩
 have HRr := hideP hR
 rw [← hR]
 clear H hN hR
 go_enter Tryz.func249, Tryz.ntmps249
 go_wp2
 go_loopw [4] (fun i wr => ∃ k : Nat, i = .int .i64 ((k : Int) + 1) ∧ k ≤ N ∧ Hid (NoSh L N k) ∧ ∃ y : Later w, wr = y.w) (fun i _ => N + 1 - (intOf i).toNat)
 case atStart => exact ⟨0, rfl, Nat.zero_le _, fun j h1 h2 => by omega, ⟨w, Below.refl _ _⟩, rfl⟩
 case round =>
  obtain ⟨k, rfl, hk, HJ, y, rfl⟩ := hrel
  by_cases hlt : k + 1 < N
  · obtain ⟨g, rfl, hg, x1⟩ := HR.out (k + 1) (by rw [← HN.out]; exact hlt)
    obtain ⟨g', eg, _, x0⟩ := HR.out k (by rw [← HN.out]; omega)
    cases eg
    have hlt' : (k : Int) + 1 < (N : Int) := by omega
    have e1 : (k : Int) + 1 - 1 = (k : Int) := by omega
    have a0 : ∀ y : Later w, y.w.cell? ⟨g, (k + 1) * 5, none⟩ = some (.int .i64 (sgA L (k + 1)).fr) := fun y => (x1.below y.below hg).seg.1
    have a1 : ∀ y : Later w, y.w.cell? ⟨g, k * 5 + 1, none⟩ = some (.int .i64 (sgA L k).to) := fun y => (x0.below y.below hg).seg.2.1
    have HY : Hid ((sgA L (k + 1)).fr ≤ (sgA L k).to → R = true) := fun q => by rw [HRr.out]; exact shared_yes ⟨k + 1, by omega, by rw [← HN.out]; exact hlt, q⟩
    have HX : Hid (¬ (sgA L (k + 1)).fr ≤ (sgA L k).to → NoSh L N (k + 1)) := fun q j h1 h2 h3 => by
     by_cases e : j = k + 1
     · subst e; exact q
     · exact HJ.out j h1 (by omega) h3
    clear HJ x0 x1
    generalize (sgA L (k + 1)).fr = p at *
    generalize (sgA L k).to = q at *
    by_cases hpq : p ≤ q
    · have hd : decide (p ≤ q) = true := decide_eq_true hpq
      have HE := hideP (HY.out hpq)
      go_wp2_with fail
      refine wp_region_later (W := w) y.below (by kernel_rfl) (by kernel_rfl) ?_
      repeat (go_big_quiet_step (fail))
      refine quietE fun x => ?_
      go_wp2_with fail
      go_returns
      first | exact ⟨p, (by rw [HE.out]; first | done | rfl), x.below⟩ | exact ⟨⟨p, (by rw [HE.out]; first | done | rfl)⟩, x.below⟩
    · have hd : decide (p ≤ q) = false := decide_eq_false hpq
      have HE := hideP (HX.out hpq)
      go_wp2_with fail
      refine wp_region_later (W := w) y.below (by kernel_rfl) (by kernel_rfl) ?_
      repeat (go_big_quiet_step (fail))
      refine quietE fun x => ?_
      go_wp2
      exact ⟨⟨k + 1, by go_num, by omega, HE.out, x, rfl⟩, by simp [intOf]; omega⟩
  · have hlt' : ¬ ((k : Int) + 1 < (N : Int)) := by omega
    have HS : Hid (R = false) := by
     unfold Hid
     rw [HRr.out]
     exact shared_no (fun ⟨i, h1, h2, h3⟩ => HJ.out i h1 (by rw [← HN.out] at h2; omega) (by rw [HN.out]; exact h2) h3)
    clear HJ
    go_wp2
    go_returns
    first | exact ⟨0, (by rw [HS.out]; first | done | rfl), y.below⟩ | exact ⟨⟨0, (by rw [HS.out]; first | done | rfl)⟩, y.below⟩
def bareB (f t : Int) (L : List Seg) : Bool := if t < f then false else bareI t L f
theorem bareB_same {f t : Int} {l : List Seg} : bareB f t (fullS l) = bareS t (fullS l) f := by
 unfold bareB
 by_cases h : t < f
 · rw [if_pos h, bareS_no (by omega)]
 · rw [if_neg h]
   exact bare_same _ _ (full_days l) (by omega)
theorem implBare (f t : Int) (v : Value) (L : List Seg) (w : World) (h : IRow segK w v L) (hl : L.length ≤ 1048576) (ht : t ≤ 9223372036854775807) (hw : ∀ s ∈ L, -9223372036854775808 ≤ s.to) : Calls Tryz.prog 250 #[.int .i64 f, .int .i64 t, v] w fun e w' => ∃ d : Int, e = .returned (.tuple #[.int .i64 d, .bool (bareB f t L)]) ∧ Below w.heap.size w w' := by
 obtain ⟨ad, c, rfl, hc, hcm, H⟩ := h
 have HR := hideP H
 unfold maxLen at hcm
 have HW : Hid (∀ k, k < L.length → -9223372036854775808 ≤ (sgA L k).to) := fun k hk => by rw [sgA_eq hk]; exact hw _ (List.getElem_mem hk)
 obtain ⟨N, hN⟩ : ∃ N, N = L.length := ⟨_, rfl⟩
 have HN := hideP hN
 rw [← hN] at hl hc ⊢
 obtain ⟨R, hR⟩ : ∃ R, R = bareB f t L := ⟨_, rfl⟩
 have HRr := hideP hR
 rw [← hR]
 clear H hN hR hw
 by_cases hft : t < f
 · have HE : Hid (R = false) := by unfold Hid; rw [HRr.out, bareB, if_pos hft]
   have hd : decide (t < f) = true := decide_eq_true hft
   go_enter Tryz.func250, Tryz.ntmps250
   go_wp2
   go_returns
   first | exact ⟨0, (by rw [HE.out]; first | done | rfl), Below.refl _ _⟩ | exact ⟨⟨0, (by rw [HE.out]; first | done | rfl)⟩, Below.refl _ _⟩
 have hd : decide (t < f) = false := decide_eq_false hft
 have HRI : Hid (R = bareI t L f) := by unfold Hid; rw [HRr.out, bareB, if_neg hft]
 go_enter Tryz.func250, Tryz.ntmps250
 go_wp2
 go_loopw [8, 17] (fun n i wr => ∃ (k : Nat) (z : Int), k ≤ N ∧ i = .int .i64 (k : Int) ∧ n = .int .i64 z ∧ Hid (bareI t (L.drop k) z = R) ∧ Below w.heap.size w wr) (fun _ i _ => N - (intOf i).toNat)
 case atStart => exact ⟨0, f, Nat.zero_le _, rfl, rfl, HRI.out.symm, Below.refl _ _⟩
 case round =>
  obtain ⟨k, z, hk, rfl, rfl, HF, hB⟩ := hrel
  have HB := hideP hB
  clear hB
  by_cases hlt : k < N
  · obtain ⟨g, rfl, hg, x⟩ := HR.out k (by rw [← HN.out]; exact hlt)
    obtain ⟨c0, c1, c2, c3, c4⟩ := (x.below HB.out hg).seg
    have HA := hideP (bareI_at (to := t) (n := z) (L := L) (k := k) (by rw [← HN.out]; exact hlt))
    have hs0 := HW.out k (by rw [← HN.out]; exact hlt)
    rw [show atK segK L k = sgA L k from rfl] at c0 c1 c2 c3 c4
    clear x
    generalize sgA L k = s at *
    by_cases h1 : z < s.fr
    · have HE : Hid (R = true) := by unfold Hid; rw [← HF.out, HA.out, if_pos h1]
      have hd1 : decide (z < s.fr) = true := decide_eq_true h1
      go_wp2
      go_returns
      first | exact ⟨z, (by rw [HE.out]; first | done | rfl), HB.out.alloc HB.out.size _⟩ | exact ⟨⟨z, (by rw [HE.out]; first | done | rfl)⟩, HB.out.alloc HB.out.size _⟩
    have hd1 : decide (z < s.fr) = false := decide_eq_false h1
    by_cases h2 : t ≤ s.to
    · have HE : Hid (R = false) := by unfold Hid; rw [← HF.out, HA.out, if_neg h1, if_pos h2]
      have hd2 : decide (t ≤ s.to) = true := decide_eq_true h2
      go_wp2
      go_returns
      first | exact ⟨0, (by rw [HE.out]; first | done | rfl), HB.out.alloc HB.out.size _⟩ | exact ⟨⟨0, (by rw [HE.out]; first | done | rfl)⟩, HB.out.alloc HB.out.size _⟩
    have hd2 : decide (t ≤ s.to) = false := decide_eq_false h2
    have HE : Hid (bareI t (L.drop (k + 1)) (max z (s.to + 1)) = R) := by unfold Hid; rw [← HF.out, HA.out, if_neg h1, if_neg h2]
    go_wp2
    exact ⟨⟨k + 1, max z (s.to + 1), by omega, by go_num, by first | rfl | go_num | (congr 1; omega), HE.out, HB.out.alloc HB.out.size _⟩, by simp [intOf]; omega⟩
  · have HE : Hid (R = true) := by unfold Hid; rw [← HF.out]; exact bareI_end (by rw [← HN.out]; omega)
    go_wp2
    go_returns
    first | exact ⟨z, (by rw [HE.out]; first | done | rfl), HB.out⟩ | exact ⟨⟨z, (by rw [HE.out]; first | done | rfl)⟩, HB.out⟩
theorem ins_mem {l : List Seg} {s x : Seg} (h : x ∈ insS l s) : x ∈ l ∨ x = s := by
 unfold insS at h
 rcases List.mem_append.1 h with h | h
 · exact .inl (List.mem_of_mem_take h)
 · rcases List.mem_cons.1 h with h | h
   · exact .inr h
   · exact .inl (List.mem_of_mem_drop h)
theorem fold_mem : ∀ (l a : List Seg) {x : Seg}, x ∈ l.foldl insS a → x ∈ a ∨ x ∈ l
  | [], _, _, h => .inl h
  | s :: l, a, x, h => by
   rcases fold_mem l (insS a s) h with h | h
   · rcases ins_mem h with h | h
     · exact .inl h
     · exact .inr (h ▸ List.mem_cons_self)
   · exact .inr (List.mem_cons_of_mem _ h)
theorem full_mem {l : List Seg} {x : Seg} (h : x ∈ fullS l) : x ∈ l := by
 rcases fold_mem l [] (List.mem_filter.1 h).1 with h | h
 · simp at h
 · exact h
def errOf (c d : Int) : Value := if c = 0 then .nilIface else .iface 203 (.agg #[.int .i64 c, .int .i64 d])
theorem tilesZ_eq (f t : Int) (l : List Seg) : tilesZ f t l = if sharedB (fullS l) = true then 1 else if bareB f t (fullS l) = true then 2 else 0 := by
 unfold tilesZ tileC
 rw [bareB_same]
theorem implCheckT (f t : Int) (v : Value) (l : List Seg) (w : World) (h : IRow segK w v l) (hl : l.length ≤ 1048576) (ht : t ≤ 9223372036854775807) (hw : ∀ s ∈ l, -9223372036854775808 ≤ s.to) : Calls Tryz.prog 180 #[.int .i64 f, .int .i64 t, v] w fun e w' => ∃ d : Int, e = .returned (errOf (tilesZ f t l) d) ∧ Below w.heap.size w w' := by
 have KS := hideP (implSorted v l w h hl)
 have hfl := full_len l
 have hw' : ∀ s ∈ fullS l, -9223372036854775808 ≤ s.to := fun s hs => hw s (full_mem hs)
 have HF : Hid ((sortS l).filter hasDayB = fullS l) := rfl
 obtain ⟨Z, hZ⟩ : ∃ Z : Int, Z = tilesZ f t l := ⟨_, rfl⟩
 have HZ0 := hideP hZ
 rw [tilesZ_eq] at HZ0
 rw [← hZ]
 clear hZ
 obtain ⟨ad, ca, rfl, _⟩ := h
 have HZ := HZ0
 clear HZ0
 go_enter Tryz.func180, Tryz.ntmps180
 go_wp2_with fail
 refine KS.out.mono ?_
 rintro e w1 ⟨o, rfl, ⟨g, c, rfl, hg, hP⟩, hB⟩
 have KD := hideP (deleteDel g c (sortS l) w1 hP)
 have HB := hideP hB
 have Hg := hideP hg
 clear hP hB hg
 go_wp2_with fail
 refine KD.out.mono ?_
 rintro e w2 ⟨o, rfl, rfl, hP2, hG2⟩
 rw [HF.out] at hP2
 rw [HF.out]
 have HB2 : Hid (Below w.heap.size w w2) := HB.out.trans (below_grown2 hG2 HB.out.size (fun k e => by cases e; exact Hg.out))
 have KSh := hideP (implShared _ _ w2 hP2.row (by omega))
 have KBa : Hid (∀ W, Below w2.heap.size w2 W → Calls Tryz.prog 250 #[.int .i64 f, .int .i64 t, .slice (some ⟨g, 0, none⟩) (fullS l).length c] W fun e w' => ∃ d : Int, e = .returned (.tuple #[.int .i64 d, .bool (bareB f t (fullS l))]) ∧ Below W.heap.size W w') := fun W hb => implBare f t _ _ W (hP2.row.below hb) (by omega) ht hw'
 clear hP2 hG2 hw hw' HF
 generalize sharedB (fullS l) = sb at *
 generalize bareB f t (fullS l) = bb at *
 go_wp2_with fail
 refine KSh.out.mono ?_
 rintro e w3 ⟨d, rfl, hb⟩
 have HB3 : Hid (Below w.heap.size w w3) := HB2.out.trans (hb.mono HB2.out.size)
 have HB23 := hideP hb
 clear hb
 cases sb
 case true =>
  have HQ : Hid (Z = 1) := HZ.out
  clear HZ
  go_wp2_with fail
  go_ret
  exact ⟨d, (by rw [HQ.out]; rfl), HB3.out⟩
 go_wp2_with fail
 refine (KBa.out w3 HB23.out).mono ?_
 rintro e w4 ⟨d', rfl, hb⟩
 have HB4 : Hid (Below w.heap.size w w4) := HB3.out.trans (hb.mono HB3.out.size)
 clear hb
 cases bb
 · have HQ : Hid (Z = 0) := HZ.out
   clear HZ
   go_wp2_with fail
   go_ret
   exact ⟨0, (by rw [HQ.out]; rfl), HB4.out⟩
 · have HQ : Hid (Z = 2) := HZ.out
   clear HZ
   go_wp2_with fail
   go_ret
   exact ⟨d', (by rw [HQ.out]; rfl), HB4.out⟩
def ErrT (w : World) : Prop := w.cell? ⟨4, 0, none⟩ = some (.iface 270 (.agg #[.pointer (some ⟨10, 144, none⟩)]))
theorem ErrT.below {w w' : World} (h : ErrT w) (hb : Below w.heap.size w w') : ErrT w' := Later.at h ⟨w', hb⟩
theorem tilesZ_cases (f t : Int) (l : List Seg) : tilesZ f t l = 0 ∨ tilesZ f t l = 1 ∨ tilesZ f t l = 2 := by
 unfold tilesZ tileC
 split
 · exact .inr (.inl rfl)
 · split
   · exact .inr (.inr rfl)
   · exact .inl rfl
theorem implTiles (f t : Int) (v : Value) (l : List Seg) (w : World) (h : IRow segK w v l) (hl : l.length ≤ 1048576) (ht : t ≤ 9223372036854775807) (hw : ∀ s ∈ l, -9223372036854775808 ≤ s.to) (hE : ErrT w) : CR 126 #[.int .i64 f, .int .i64 t, v] w (.int .i64 (tilesZ f t l)) := by
 obtain ⟨W0, hW0⟩ : ∃ W0, W0 = w.alloc (.cells #[.int .i64 0, .int .i64 0] 203) := ⟨_, rfl⟩
 have hb0 : Below w.heap.size w W0 := by rw [hW0]; exact (Below.refl _ _).alloc (Nat.le_refl _) _
 have hK0 : Blk W0 w.heap.size #[.int .i64 0, .int .i64 0] 203 := by rw [hW0]; exact Blk.new _ _ _
 have KC := hideP (implCheckT f t v l W0 (h.below hb0) hl ht hw)
 have hz := tilesZ_cases f t l
 have HE := hideP (hE.below hb0)
 have HB0 := hideP hb0
 have HK0 := hideP hK0
 have HW0 := hideP hW0
 obtain ⟨ad, ca, rfl, _⟩ := h
 generalize tilesZ f t l = z at *
 clear hb0 hK0 hW0 hE hw
 go_enter Tryz.func126, Tryz.ntmps126
 go_wp2_with fail
 rw [← HW0.out]
 refine KC.out.mono ?_
 rintro e w1 ⟨d, rfl, hb⟩
 have HB1 : Hid (Below w.heap.size w w1) := HB0.out.trans (hb.mono HB0.out.size)
 have HE1 := hideP (HE.out.below hb)
 have HK1 := hideP (HK0.out.below hb HK0.out.lt)
 clear hb
 by_cases h0 : z = 0
 · subst h0
   have KN := hideP (as_nil (.iface 206 (.pointer (some ⟨w.heap.size, 0, none⟩))) w1)
   rw [errOf, if_pos rfl]
   go_wp2_with fail
   refine sameC KN.out ?_
   go_wp2_with fail
   go_ret
   exact ⟨rfl, HB1.out⟩
 · rw [errOf, if_neg h0]
   have KN := hideP (as_hit z d w.heap.size _ _ w1 HE1.out HK1.out)
   go_wp2_with fail
   refine KN.out.mono ?_
   rintro e w2 ⟨rfl, hw2⟩
   have HB2 : Hid (Below w.heap.size w w2) := by
    unfold Hid
    rw [hw2]
    have s1 := HB1.out.size
    exact below_store (below_store ((((HB1.out.alloc s1 _).alloc (by rw [World.size_alloc]; omega) _).alloc (by rw [World.size_alloc, World.size_alloc]; omega) _).alloc (by rw [World.size_alloc, World.size_alloc, World.size_alloc]; omega) _) _ (Nat.le_refl _)) _ (Nat.le_refl _)
   have c0 : w2.cell? ⟨w.heap.size, 0, none⟩ = some (.int .i64 z) := by
    rw [hw2]
    exact ((((((HK1.out.alloc _).alloc _).alloc _).alloc _).set 0 _).set 1 _).cell 0 rfl
   clear hw2
   go_wp2_with fail
   go_ret
   exact ⟨rfl, HB2.out⟩
end Go.Proofs.YtpclaceefapppaaGreatDoor.ctr
namespace Go.Proofs.YtpclaceefapppaaGreatDoor.kit
open Go.RowKit
theorem a_et : Tryz.prog.globalNamed "errors.errorType" = some 4 := by kernel_rfl
theorem a_rt : (Tryz.prog.cutTypes.find? (·.1 == "internal/reflectlite.rtype")).map (·.2) = some 270 := by kernel_rfl
theorem a_row : ((List.range 389).filter fun t => Tryz.prog.rowNamed t [101, 114, 114, 111, 114]) = [144] := by kernel_rfl
theorem a_size : Tryz.prog.types.size = 389 := by kernel_rfl
theorem err_of {W : World} (h : handlesMet Tryz.prog [("errors.errorType", .iface "internal/reflectlite.rtype" (.agg [.ptr (.lit (.string [101, 114, 114, 111, 114]))]))] W) : ctr.ErrT W := by
 obtain ⟨name, u, ty, e1, e2, e3, e4, e5⟩ := h _ (List.mem_singleton.2 rfl)
 have en : name = [101, 114, 114, 111, 114] := (Option.some.inj e1).symm
 subst en
 obtain rfl := Option.some.inj (a_rt.symm.trans e2)
 have hm : ty ∈ (List.range 389).filter fun t => Tryz.prog.rowNamed t [101, 114, 114, 111, 114] := List.mem_filter.2 ⟨List.mem_range.2 (by rw [← a_size]; exact e3), e4⟩
 rw [a_row] at hm
 obtain rfl := List.mem_singleton.1 hm
 have hh : typeHandle Tryz.prog 144 = .pointer (some ⟨10, 144, none⟩) := by kernel_rfl
 rw [hh] at e5
 unfold ctr.ErrT
 simpa using World.var?_cell a_et e5 0
end Go.Proofs.YtpclaceefapppaaGreatDoor.kit
namespace Go.Proofs.YtpclaceefapppaaGreatDoor.ctr
open Go.RowKit
theorem beg_one : (#[.func (.func 254) #[] #[], .func (.func 255) #[] #[], .func (.func 256) #[] #[], .func (.func 257) #[] #[], .func (.func 258) #[] #[], .func (.func 259) #[] #[], .func (.func 260) #[] #[]] : Array Value).all (·.oneCell') = true := by first | rfl | kernel_rfl | decide | simp [Value.oneCell']
theorem beg_size : (Tryz.prog.info? 285).map (·.size) = some (#[.func (.func 254) #[] #[], .func (.func 255) #[] #[], .func (.func 256) #[] #[], .func (.func 257) #[] #[], .func (.func 258) #[] #[], .func (.func 259) #[] #[], .func (.func 260) #[] #[]] : Array Value).size := by kernel_rfl
theorem implBeginning (c s y : Int) (w : World) (hT : Tab w) (hc : c = 0 ∨ c = 1) (hs : styleP s) (hy1 : 1 ≤ y) (hy2 : y ≤ 3900) : CR 195 #[.int .i64 c, .int .i64 s, .int .i64 y] w (.int .i64 (start c s y)) := by
 obtain ⟨W1, hW1⟩ : ∃ W1, W1 = (w.alloc (.cells #[.nilFunc, .nilFunc, .nilFunc, .nilFunc, .nilFunc, .nilFunc, .nilFunc] 285)).setRow w.heap.size #[.func (.func 254) #[] #[], .func (.func 255) #[] #[], .func (.func 256) #[] #[], .func (.func 257) #[] #[], .func (.func 258) #[] #[], .func (.func 259) #[] #[], .func (.func 260) #[] #[]] := ⟨_, rfl⟩
 have HB : Hid (Blk W1 w.heap.size #[.func (.func 254) #[] #[], .func (.func 255) #[] #[], .func (.func 256) #[] #[], .func (.func 257) #[] #[], .func (.func 258) #[] #[], .func (.func 259) #[] #[], .func (.func 260) #[] #[]] 285) := by unfold Hid; rw [hW1]; exact (Blk.new w _ _).setRow _
 have HL : Hid (Below w.heap.size w W1) := by unfold Hid; rw [hW1]; exact below_setRow ((Below.refl _ _).alloc (Nat.le_refl _) _) _ (Nat.le_refl _)
 have HW1 := hideP hW1
 have KT : Tab W1 := hT.later HL.out
 clear hT hW1
 rcases style_cases hs with rfl | rfl | rfl | rfl | rfl | rfl | rfl
 focus
   have ck : W1.cell? ⟨w.heap.size, 0, none⟩ = some (.func (.func 254) #[] #[]) := HB.out.cell 0 rfl
   have KL : CR 254 #[.agg #[.int .i64 c, .int .i64 y]] W1 (.int .i64 (start c 0 y)) := by rw [start_0]; exact impl_january c y W1 KT hc (by omega) (by omega)
   clear KT hc hs
   generalize start c 0 y = R at *
 rotate_left
 focus
   have ck : W1.cell? ⟨w.heap.size, 1, none⟩ = some (.func (.func 255) #[] #[]) := HB.out.cell 1 rfl
   have KL : CR 255 #[.agg #[.int .i64 c, .int .i64 y]] W1 (.int .i64 (start c 1 y)) := by rw [start_1]; exact impl_march c y W1 KT hc (by omega) (by omega)
   clear KT hc hs
   generalize start c 1 y = R at *
 rotate_left
 focus
   have ck : W1.cell? ⟨w.heap.size, 2, none⟩ = some (.func (.func 256) #[] #[]) := HB.out.cell 2 rfl
   have KL : CR 256 #[.agg #[.int .i64 c, .int .i64 y]] W1 (.int .i64 (start c 2 y)) := by rw [start_2]; exact impl_lady c y W1 KT hc (by omega) (by omega)
   clear KT hc hs
   generalize start c 2 y = R at *
 rotate_left
 focus
   have ck : W1.cell? ⟨w.heap.size, 3, none⟩ = some (.func (.func 257) #[] #[]) := HB.out.cell 3 rfl
   have KL : CR 257 #[.agg #[.int .i64 c, .int .i64 y]] W1 (.int .i64 (start c 3 y)) := by rw [start_3]; exact impl_pisa c y W1 KT hc (by omega) (by omega)
   clear KT hc hs
   generalize start c 3 y = R at *
 rotate_left
 focus
   have ck : W1.cell? ⟨w.heap.size, 4, none⟩ = some (.func (.func 258) #[] #[]) := HB.out.cell 4 rfl
   have KL : CR 258 #[.agg #[.int .i64 c, .int .i64 y]] W1 (.int .i64 (start c 4 y)) := by rw [start_4]; exact impl_easter c y W1 KT hc (by omega) (by omega)
   clear KT hc hs
   generalize start c 4 y = R at *
 rotate_left
 focus
   have ck : W1.cell? ⟨w.heap.size, 5, none⟩ = some (.func (.func 259) #[] #[]) := HB.out.cell 5 rfl
   have KL : CR 259 #[.agg #[.int .i64 c, .int .i64 y]] W1 (.int .i64 (start c 5 y)) := by rw [start_5]; exact impl_september c y W1 KT hc (by omega) (by omega)
   clear KT hc hs
   generalize start c 5 y = R at *
 rotate_left
 focus
   have ck : W1.cell? ⟨w.heap.size, 6, none⟩ = some (.func (.func 260) #[] #[]) := HB.out.cell 6 rfl
   have KL : CR 260 #[.agg #[.int .i64 c, .int .i64 y]] W1 (.int .i64 (start c 6 y)) := by rw [start_6]; exact impl_yule c y W1 KT hc (by omega) (by omega)
   clear KT hc hs
   generalize start c 6 y = R at *
 rotate_left
 all_goals
  go_enter Tryz.func195, Tryz.ntmps195
  go_wp2_with (refine wpList_store_row _ rfl 285 _ _ rfl w.heap.size #[.nilFunc, .nilFunc, .nilFunc, .nilFunc, .nilFunc, .nilFunc, .nilFunc] #[.func (.func 254) #[] #[], .func (.func 255) #[] #[], .func (.func 256) #[] #[], .func (.func 257) #[] #[], .func (.func 258) #[] #[], .func (.func 259) #[] #[], .func (.func 260) #[] #[]] rfl rfl (Blk.new w _ _) beg_size rfl beg_one ?_; rw [← HW1.out])
  refine KL.mono ?_
  rintro e w1 ⟨rfl, hb⟩
  go_wp2
  go_ret
  exact ⟨rfl, HL.out.trans (hb.mono HL.out.size)⟩
theorem first_le' {c y z : Int} (hc : c = 0 ∨ c = 1) (h : y ≤ z) : first c y ≤ first c z := by
 by_cases e : y = z
 · subst e; omega
 · have := first_lt hc (show y < z by omega); omega
def solP (c s y m d z : Int) : Prop := yearP c y ∧ styleP s ∧ dateP c z m d ∧ start c s y ≤ lineD c z m d ∧ lineD c z m d < start c s (y + 1)
instance (c s y m d z : Int) : Decidable (solP c s y m d z) := by unfold solP; infer_instance
theorem implStyleYear (c s n : Int) (w : World) (hT : Tab w) : CR 138 #[.int .i64 c, .int .i64 s, .int .i64 n] w (styR c s n) := by
 have KD := implDateOf c n w hT
 rcases date_cases c n with hD | ⟨Y, m, d, hD, hc, hY1, hY2, hn1, hn2⟩
 · rw [dateR_no hD] at KD
   have HR : Hid (styR c s n = .tuple #[.int .i64 0, .bool false]) := styR_no (sty_none hD)
   rw [HR.out]
   clear hD HR hT
   unfold z4 at KD
   go_enter Tryz.func138, Tryz.ntmps138
   go_wp2_with fail
   refine KD.mono ?_
   rintro e w1 ⟨rfl, hb⟩
   go_wp2
   go_returns
   exact ⟨rfl, hb.alloc hb.size _⟩
 · rw [dateR_yes hD] at KD
   have KS : ∀ W, CR 178 #[.int .i64 s] W (.bool (styleB s)) := fun W => calls_below (implStyleOk s W)
   by_cases hs : styleP s
   · simp only [styleB_true hs] at KS
     have KB : Hid (∀ (y : Int), 0 ≤ y → y ≤ 3001 → ∀ x : Later w, CR 195 #[.int .i64 c, .int .i64 s, .int .i64 (y + 1)] x.w (.int .i64 (start c s (y + 1)))) := fun y h1 h2 x => implBeginning c s (y + 1) x.w (hT.later x.below) hc hs (by omega) (by omega)
     have HRaw : Hid (∀ y, (y = Y - 1 ∨ y = Y ∨ y = Y + 1) → (Y ≤ y → start c s Y ≤ n) → (Y + 1 ≤ y → start c s (Y + 1) ≤ n) → (y ≤ Y → n < start c s (y + 1)) → rawYear c s Y n = y) := fun y h h1 h2 he => raw_of h h1 h2 he
     have HO : Hid (1 ≤ rawYear c s Y n → rawYear c s Y n ≤ 3000 → styR c s n = .tuple #[.int .i64 (rawYear c s Y n), .bool true]) := fun h1 h2 => styR_yes (sty_yes hD hs h1 h2)
     have HN : Hid (¬ (1 ≤ rawYear c s Y n ∧ rawYear c s Y n ≤ 3000) → styR c s n = .tuple #[.int .i64 0, .bool false]) := fun h => styR_no (sty_out hD h)
     generalize styR c s n = R at *
     clear hD hn1 hn2 hc hs hT
     go_enter Tryz.func138, Tryz.ntmps138
     go_wp2_with fail
     refine KD.mono ?_
     rintro e w1 ⟨rfl, hb1⟩
     have HB1 := hideP hb1
     obtain ⟨W0, hW0⟩ : ∃ W0, W0 = w1.alloc (.cells #[.int .i64 c, .int .i64 Y, .int .i64 m, .int .i64 d] 161) := ⟨_, rfl⟩
     have HW0 := hideP hW0
     have c1 : ∀ x : Later W0, x.w.cell? ⟨w1.heap.size, 1, none⟩ = some (.int .i64 Y) := Later.new hW0 1 rfl
     have HL : Hid (∀ x : Later W0, Below w.heap.size w x.w) := fun x => HB1.out.trans ((below_of_alloc HW0.out x.below).mono HB1.out.size)
     clear hb1 hW0 KD
     go_wp2_with fail
     rw [← HW0.out]
     refine latO (KS _) fun x1 => ?_
     go_wp2_with fail
     go_loopw [10] (fun i wr => ∃ (y : Int) (x : Later W0), i = .int .i64 y ∧ wr = x.w ∧ Y - 1 ≤ y ∧ y ≤ Y + 1 ∧ Hid (Y ≤ y → start c s Y ≤ n) ∧ Hid (Y + 1 ≤ y → start c s (Y + 1) ≤ n)) (fun i _ => (4000 - intOf i).toNat)
     case atStart => exact ⟨Y - 1, x1, rfl, rfl, by omega, by omega, fun h => by omega, fun h => by omega⟩
     case round =>
      obtain ⟨y, x, rfl, rfl, y1, y2, H1, H2⟩ := hrel
      have K := KB.out y (by omega) (by omega) ⟨x.w, HL.out x⟩
      by_cases hyY : y ≤ Y
      · by_cases hle : start c s (y + 1) ≤ n
        · have H1' : Hid (Y ≤ y + 1 → start c s Y ≤ n) := fun h => by
           by_cases e : Y ≤ y
           · exact H1.out e
           · rw [show Y = y + 1 by omega]; exact hle
          have H2' : Hid (Y + 1 ≤ y + 1 → start c s (Y + 1) ≤ n) := fun h => by
           rw [show Y = y by omega]; exact hle
          clear H1 H2
          generalize start c s (y + 1) = S at *
          have hd1 : decide (y ≤ Y) = true := decide_eq_true hyY
          have hd2 : decide (S ≤ n) = true := decide_eq_true hle
          go_wp2_with fail
          refine lat K fun x3 => ?_
          go_wp2
          exact ⟨⟨y + 1, x3, rfl, rfl, by omega, by omega, H1', H2'⟩, by simp [intOf]; omega⟩
        · have hraw : rawYear c s Y n = y := HRaw.out y (by omega) H1.out H2.out (fun _ => by omega)
          rw [hraw] at HO HN
          clear H1 H2 HRaw hraw KB
          generalize start c s (y + 1) = S at *
          have hd1 : decide (y ≤ Y) = true := decide_eq_true hyY
          have hd2 : decide (S ≤ n) = false := decide_eq_false hle
          by_cases hlo : y < 1
          · go_wp2_with fail
            refine lat K fun x3 => ?_
            go_wp2
            go_returns
            rw [HN.out (by omega)]
            exact ⟨rfl, HL.out x3⟩
          · have hlo' : decide (y < 1) = false := decide_eq_false hlo
            have hhi' : decide (3000 < y) = false := decide_eq_false (by omega)
            go_wp2_with fail
            refine lat K fun x3 => ?_
            go_wp2
            go_returns
            rw [HO.out (by omega) (by omega)]
            exact ⟨rfl, HL.out x3⟩
      · have hraw : rawYear c s Y n = y := HRaw.out y (by omega) H1.out H2.out (fun h => by omega)
        rw [hraw] at HO HN
        clear H1 H2 HRaw hraw KB K
        have hd1 : decide (y ≤ Y) = false := decide_eq_false hyY
        by_cases hhi : 3000 < y
        · have hlo' : decide (y < 1) = false := decide_eq_false (by omega)
          have hhi' : decide (3000 < y) = true := decide_eq_true hhi
          go_wp2
          go_returns
          rw [HN.out (by omega)]
          exact ⟨rfl, HL.out x⟩
        · have hlo' : decide (y < 1) = false := decide_eq_false (by omega)
          have hhi' : decide (3000 < y) = false := decide_eq_false hhi
          go_wp2
          go_returns
          rw [HO.out (by omega) (by omega)]
          exact ⟨rfl, HL.out x⟩
   · simp only [styleB_false hs] at KS
     have HR : Hid (styR c s n = .tuple #[.int .i64 0, .bool false]) := styR_no (sty_style hs)
     rw [HR.out]
     clear hD HR hs hn1 hn2 hc hT
     go_enter Tryz.func138, Tryz.ntmps138
     go_wp2_with fail
     refine KD.mono ?_
     rintro e w1 ⟨rfl, hb1⟩
     have HB1 := hideP hb1
     clear hb1
     go_wp2_with fail
     refine (KS _).mono ?_
     rintro e w2 ⟨rfl, hb⟩
     have HB2 := hideP (below_alloc hb)
     clear hb
     go_wp2
     go_returns
     exact ⟨rfl, HB1.out.trans (HB2.out.mono HB1.out.size)⟩
theorem date_parts {c n Y m d : Int} (h : dateOf c n = (c, Y, m, d, true)) : (c = 0 ∨ c = 1) ∧ 1 ≤ Y ∧ Y ≤ 3000 ∧ 1 ≤ m ∧ m ≤ 12 ∧ 1 ≤ d ∧ d ≤ monthDays c Y m ∧ d ≤ 31 ∧ first c Y ≤ n ∧ n < first c (Y + 1) ∧ lineD c Y m d = n := by
 obtain ⟨_, hd, hn⟩ := date_back h
 have hl := line_in hd.1 (dateP_month hd).1 (dateP_month hd).2 hd.2.2.2.1 hd.2.2.2.2
 rw [lineD_dayOf hd] at hn
 rw [hn] at hl
 exact ⟨hd.1, hd.2.1, hd.2.2.1, (dateP_month hd).1, (dateP_month hd).2, hd.2.2.2.1, hd.2.2.2.2, (dateP_day hd).2, hl.1, hl.2, hn⟩
theorem date_between {c a n b Y0 m0 d0 Y1 m1 d1 : Int} (ha : dateOf c a = (c, Y0, m0, d0, true)) (hb : dateOf c b = (c, Y1, m1, d1, true)) (h1 : a ≤ n) (h2 : n ≤ b) : ∃ Y m d, dateOf c n = (c, Y, m, d, true) := by
 obtain ⟨hc, y1, _, _, _, _, _, _, f1, _, _⟩ := date_parts ha
 obtain ⟨_, _, y2, _, _, _, _, _, _, f2, _⟩ := date_parts hb
 have g1 := first_le' hc y1
 have g2 := first_le' hc (show Y1 + 1 ≤ 3001 by omega)
 obtain ⟨n1, n2, z1, z2⟩ := year_in hc (show first c 1 ≤ n by omega) (show n < first c 3001 by omega)
 exact ⟨_, _, _, dateOf_yes hc n1 n2 rfl rfl z1 z2⟩
def datedP (c n : Int) : Prop := (dateOf c n).2.2.2.2 = true
def reignP (c s f t n : Int) : Prop := f ≤ n ∧ n ≤ t ∧ styleP s ∧ datedP c f ∧ datedP c n
noncomputable instance (c s f t n : Int) : Decidable (reignP c s f t n) := Classical.propDecidable _

end Go.Proofs.YtpclaceefapppaaGreatDoor.ctr
