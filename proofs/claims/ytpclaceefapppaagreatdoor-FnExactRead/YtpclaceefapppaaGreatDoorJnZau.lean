/- slices.IndexFunc and slices.DeleteFunc at the closure of impl.DaysSaid$1, which makes memory at each call: wha; and what else the law reaches. -/
import Derived.Test.YtpclaceefapppaaGreatDoorJnZam
import Derived.Lib.SliceRun
import Derived.Shelf.Abstract
import Derived.Deep.CutRange
import Derived.Test.YtpclaceefapppaaGreatDoorJnZaa
import Derived.Deep.DeepCutAuto
set_option maxHeartbeats 4000000
namespace Go.Proofs.YtpclaceefapppaaGreatDoor.ctr
open Go.RowKit
theorem idxSaid (g cap : Nat) (xs : List Int) (a1 a2 : Value) (p : Int → Bool) (W : World) (hR : RowI W g xs) (hl : xs.length ≤ 2000000) (KC : ∀ V x, Below W.heap.size W V → x ∈ xs → CR 82 #[.int .i64 x, a1, a2] V (.bool (!p x))) :
    Calls Tryz.prog 95 #[.slice (some ⟨g, 0, none⟩) xs.length cap, .func (.func 82) #[] #[a1, a2]] W fun e w' => ∃ z : Int, e = .returned (.int .i64 z) ∧ ((z = -1 ∧ ∀ x ∈ xs, p x = true) ∨ ∃ k : Nat, k < xs.length ∧ z = (k : Int) ∧ p (xs.getD k 0) = false ∧ ∀ j, j < k → p (xs.getD j 0) = true) ∧ Below W.heap.size W w' := by
  have HR := hideP hR
  have HK := hideP KC
  clear hR KC
  go_enter Tryz.func95, Tryz.ntmps95
  go_wp2_with fail
  go_loopw [5, 8] (fun _ i wr => ∃ k : Nat, k ≤ xs.length ∧ i = .int .i64 (k : Int) ∧ Hid (∀ j, j < k → p (xs.getD j 0) = true) ∧ Below W.heap.size W wr) (fun _ i _ => ((xs.length : Int) - intOf i).toNat)
  case atStart => exact ⟨0, Nat.zero_le _, rfl, fun j hj => absurd hj (Nat.not_lt_zero _), Below.refl _ _⟩
  case round =>
   obtain ⟨k, hk, rfl, hA, hB⟩ := hrel
   have B := hideP hB
   clear hB
   by_cases hlt : (k : Int) < (xs.length : Int)
   · have hkn : k < xs.length := by omega
     have hc : wr.cell? ⟨g, k, none⟩ = some (.int .i64 (xs.getD k 0)) := (HR.out.below B.out).cell hkn
     have hm : xs.getD k 0 ∈ xs := by simp only [List.getD, List.getElem?_eq_getElem hkn, Option.getD_some]; exact List.getElem_mem hkn
     have K := HK.out wr (xs.getD k 0) B.out hm
     cases hp : p (xs.getD k 0)
     · rw [hp] at K
       have HP := hideP hp
       clear hp hm
       generalize xs.getD k 0 = x at hc K
       go_wp2_with fail
       refine K.mono ?_
       rintro e w1 ⟨rfl, hb⟩
       go_wp2
       go_ret
       exact ⟨_, rfl, .inr ⟨k, hkn, rfl, HP.out, hA.out⟩, B.out.trans (hb.mono B.out.size)⟩
     · rw [hp] at K
       have HA2 : Hid (∀ j, j < k + 1 → p (xs.getD j 0) = true) := fun j hj => by
        by_cases e : j = k
        · rw [e]; exact hp
        · exact hA.out j (by omega)
       clear hp hm hA
       generalize xs.getD k 0 = x at hc K
       go_wp2_with fail
       refine K.mono ?_
       rintro e w1 ⟨rfl, hb⟩
       go_wp2
       exact ⟨⟨k + 1, hkn, by apply congrArg (Value.int .i64); omega, HA2, B.out.trans (hb.mono B.out.size)⟩, by simp [intOf]; omega⟩
   · obtain rfl : k = xs.length := by omega
     go_wp2
     go_ret
     exact ⟨_, rfl, .inl ⟨rfl, fun x hx => by
      obtain ⟨j, hj, rfl⟩ := List.getElem_of_mem hx
      have := hA.out j hj
      simpa [List.getD, hj] using this⟩, B.out⟩
theorem delSaid (g cap : Nat) (xs : List Int) (a1 a2 : Value) (p : Int → Bool) (W0 W : World) (hg : W0.heap.size ≤ g) (hB : Below W0.heap.size W0 W) (hR : RowI W g xs) (hl : xs.length ≤ 2000000) (hcap : xs.length ≤ cap) (KC : ∀ V x, Below W0.heap.size W0 V → x ∈ xs → CR 82 #[.int .i64 x, a1, a2] V (.bool (!p x))) :
    Calls Tryz.prog 47 #[.slice (some ⟨g, 0, none⟩) xs.length cap, .func (.func 82) #[] #[a1, a2]] W fun e w' => e = .returned (.slice (some ⟨g, 0, none⟩) (xs.filter p).length cap) ∧ RowI w' g (xs.filter p) ∧ Below W0.heap.size W0 w' := by
  have KX := idxSaid g cap xs a1 a2 p W hR hl (fun V x hb hx => KC V x (hB.trans (hb.mono hB.size)) hx)
  have HR := hideP hR
  have HB := hideP hB
  have HK := hideP KC
  have HG := hideP hg
  clear hR KC hB
  go_enter Tryz.func47, Tryz.ntmps47
  go_wp2_with fail
  refine KX.mono ?_
  rintro e w1 ⟨z, rfl, hz, hb⟩
  have B1 := hideP hb
  clear hb KX
  rcases hz with ⟨rfl, hall⟩ | ⟨k, hk, rfl, hp0, hbe⟩
  · have e : xs.filter p = xs := List.filter_eq_self.2 hall
    have He := hideP e
    clear e hall
    go_wp2
    go_ret
    exact ⟨(by rw [He.out]; rfl), by rw [He.out]; exact HR.out.below B1.out, HB.out.trans (B1.out.mono HB.out.size)⟩
  have KS : Hid (Kpt p xs xs k (k + 1)) := Kpt.start hk hp0 hbe
  have R1 : Hid (RowI w1 g xs) := HR.out.below B1.out
  have B2 : Hid (Below W0.heap.size W0 w1) := HB.out.trans (B1.out.mono HB.out.size)
  clear hp0 hbe HR HB B1
  have hne1 : ((k : Int) == -1) = false := beq_eq_false_iff_ne.2 (by omega)
  go_wp2_with fail
  go_loopw [5, 6, 7] (fun i j _ wr => ∃ (a b : Nat) (L : List Int), i = .int .i64 (a : Int) ∧ j = .int .i64 (b : Int) ∧ Hid (Kpt p xs L a b) ∧ Hid (RowI wr g L) ∧ Hid (Below W0.heap.size W0 wr)) (fun _ j _ _ => ((xs.length : Int) - intOf j).toNat)
  case atStart => exact ⟨k, k + 1, xs, rfl, by apply congrArg (Value.int .i64); omega, KS, R1, B2⟩
  case round =>
   obtain ⟨a, b, L, rfl, rfl, KP, R, B⟩ := hrel
   have hbl := KP.out.le
   have hab := KP.out.lt
   have hLl := KP.out.len
   clear KS R1 B2
   by_cases hlt : (b : Int) < (xs.length : Int)
   · have hbn : b < xs.length := by omega
     have hc : wr.cell? ⟨g, b, none⟩ = some (.int .i64 (xs.getD b 0)) := by rw [R.out.cell (by omega), KP.out.at]
     have hm : xs.getD b 0 ∈ xs := by simp only [List.getD, List.getElem?_eq_getElem hbn, Option.getD_some]; exact List.getElem_mem hbn
     have K := HK.out wr (xs.getD b 0) B.out hm
     have hac : wr.cell? ⟨g, a, none⟩ = some (.int .i64 (L.getD a 0)) := R.out.cell (by omega)
     have HL := hideP hLl
     clear hLl
     cases hp : p (xs.getD b 0)
     · rw [hp] at K
       have KN : Hid (Kpt p xs L a (b + 1)) := KP.out.skip hbn hp
       clear hp hm KP
       generalize xs.getD b 0 = x at hc K
       go_wp2_with fail
       refine K.mono ?_
       rintro e w2 ⟨rfl, hb⟩
       go_wp2
       exact ⟨⟨a, b + 1, L, rfl, by apply congrArg (Value.int .i64); omega, KN, R.out.below hb, B.out.trans (hb.mono B.out.size)⟩, by simp [intOf]; omega⟩
     · rw [hp] at K
       have KN : Hid (Kpt p xs (L.set a (xs.getD b 0)) (a + 1) (b + 1)) := KP.out.keep hbn hp
       clear hp hm KP
       generalize xs.getD b 0 = x at hc K KN
       generalize L.getD a 0 = y at hac
       go_wp2_with fail
       refine K.mono ?_
       rintro e w2 ⟨rfl, hb⟩
       have R2 := hideP (R.out.below hb)
       have B2 := hideP (B.out.trans (hb.mono B.out.size))
       have c2 : w2.cell? ⟨g, a, none⟩ = some (.int .i64 (L.getD a 0)) := R2.out.cell (Nat.lt_of_lt_of_eq (Nat.lt_of_lt_of_le hab hbl) HL.out.symm)
       have f2 : w2.frozen? ⟨g, a, none⟩ = false := R2.out.thaw a
       clear hb
       go_wp2
       exact ⟨⟨a + 1, b + 1, L.set a x, by apply congrArg (Value.int .i64); omega, by apply congrArg (Value.int .i64); omega, KN, R2.out.set (by have := HL.out; omega) x, below_store B2.out _ HG.out⟩, by simp [intOf]; omega⟩
   · obtain rfl : b = xs.length := by omega
     obtain ⟨e1, e2⟩ := KP.out.done
     have RF : Hid (RowI (wr.setCells g a (List.replicate (xs.length - a) (.int .i64 0))) g (xs.filter p)) := by
      have q := R.out.clear (k := a) (List.replicate (xs.length - a) (.int .i64 0))
      rw [e1] at q
      exact q
     have BF : Hid (Below W0.heap.size W0 (wr.setCells g a (List.replicate (xs.length - a) (.int .i64 0)))) := below_setCells HG.out _ _ _ B.out
     have hcl : ∀ ty, (Builtin.clear_ #[28] ty #[.slice (some ⟨g, a, none⟩) (xs.length - a) (cap - a)]).run Tryz.prog wr = .ok (.tuple #[]) (wr.setCells g a (List.replicate (xs.length - a) (.int .i64 0))) :=
      fun ty => Lib.run_clear_slice wr _ _ ty _ Tryz.underlying28 Tryz.zeroValue3 rfl rfl g a _ _ (by omega) (fun t ht => by rw [R.out.cell (by omega)]; rfl) (fun t ht => R.out.thaw _)
     have HE2 := hideP e2
     clear e1 e2 KP hLl
     go_wp2
     go_ret
     exact ⟨(by rw [← HE2.out]; rfl), RF.out, BF.out⟩
def calNo (s : ByteArray) : Int := if calText 0 = s then 0 else if calText 1 = s then 1 else -1
theorem implCalOf (s : ByteArray) (w : World) : CS 114 #[.string s] w (.int .i64 (calNo s)) := by
 have hx0 : ∀ W, (Instr.index 189 (.agg #[.int .i64 0, .int .i64 1]) (.int .i64 0)).run Tryz.prog W = .ok (.int .i64 0) W := fun W => by simp [Instr.index, run_underlying Tryz.underlying189, asIntOf, go_sem, part]
 have hx1 : ∀ W, (Instr.index 189 (.agg #[.int .i64 0, .int .i64 1]) (.int .i64 1)).run Tryz.prog W = .ok (.int .i64 1) W := fun W => by simp [Instr.index, run_underlying Tryz.underlying189, asIntOf, go_sem, part]
 have K0 := fun W => implCalName 0 W
 have K1 := fun W => implCalName 1 W
 obtain ⟨R, hR⟩ : ∃ R, R = calNo s := ⟨_, rfl⟩
 rw [← hR]
 unfold calNo at hR
 generalize calText 0 = t0 at *
 generalize calText 1 = t1 at *
 have HR := hideP hR
 clear hR
 by_cases h0 : t0 = s
 · have e0 : (t0.toList == s.toList) = true := by rw [h0]; simp
   have HE : Hid (R = 0) := by unfold Hid; rw [HR.out, if_pos h0]
   clear h0 HR
   go_enter Tryz.func114, Tryz.ntmps114
   go_wp2_with fail
   go_loopw [6] (fun i wr => i = .int .i64 0 ∧ wr = w) (fun _ _ => 0)
   case atStart => exact ⟨rfl, rfl⟩
   case round =>
    obtain ⟨rfl, rfl⟩ := hrel
    go_wp2_with fail
    refine sameC (K0 _) ?_
    go_wp2
    go_ret
    exact ⟨ret_int HE.out.symm, rfl⟩
 have e0 : (t0.toList == s.toList) = false := by
  cases h : (t0.toList == s.toList)
  · rfl
  · exact absurd (str_eq h) h0
 by_cases h1 : t1 = s
 · have e1 : (t1.toList == s.toList) = true := by rw [h1]; simp
   have HE : Hid (R = 1) := by unfold Hid; rw [HR.out, if_neg h0, if_pos h1]
   clear h0 h1 HR
   go_enter Tryz.func114, Tryz.ntmps114
   go_wp2_with fail
   go_loopw [6] (fun i wr => (i = .int .i64 0 ∨ i = .int .i64 1) ∧ wr = w) (fun i _ => 2 - (intOf i).toNat)
   case atStart => exact ⟨.inl rfl, rfl⟩
   case round =>
    obtain ⟨rfl | rfl, rfl⟩ := hrel
    · go_wp2_with fail
      refine sameC (K0 _) ?_
      go_wp2
      exact ⟨⟨.inr rfl, by trivial⟩, by simp [intOf]⟩
    · go_wp2_with fail
      refine sameC (K1 _) ?_
      go_wp2
      go_ret
      exact ⟨ret_int HE.out.symm, rfl⟩
 · have e1 : (t1.toList == s.toList) = false := by
    cases h : (t1.toList == s.toList)
    · rfl
    · exact absurd (str_eq h) h1
   have HE : Hid (R = -1) := by unfold Hid; rw [HR.out, if_neg h0, if_neg h1]
   clear h0 h1 HR
   go_enter Tryz.func114, Tryz.ntmps114
   go_wp2_with fail
   go_loopw [6] (fun i wr => (i = .int .i64 0 ∨ i = .int .i64 1 ∨ i = .int .i64 2) ∧ wr = w) (fun i _ => 2 - (intOf i).toNat)
   case atStart => exact ⟨.inl rfl, rfl⟩
   case round =>
    obtain ⟨rfl | rfl | rfl, rfl⟩ := hrel
    · go_wp2_with fail
      refine sameC (K0 _) ?_
      go_wp2
      exact ⟨⟨.inr (.inl rfl), by trivial⟩, by simp [intOf]⟩
    · go_wp2_with fail
      refine sameC (K1 _) ?_
      go_wp2
      exact ⟨⟨.inr (.inr rfl), by trivial⟩, by simp [intOf]⟩
    · go_wp2
      go_ret
      exact ⟨ret_int HE.out.symm, rfl⟩
theorem specCalOf (s : ByteArray) (w : World) : CS 52 #[.string s] w (.int .i64 (calNo s)) := by
 have K0 := fun W => specCalName 0 W
 have K1 := fun W => specCalName 1 W
 obtain ⟨R, hR⟩ : ∃ R, R = calNo s := ⟨_, rfl⟩
 rw [← hR]
 unfold calNo at hR
 generalize calText 0 = t0 at *
 generalize calText 1 = t1 at *
 have HR := hideP hR
 clear hR
 by_cases h0 : t0 = s
 · have e0 : (t0.toList == s.toList) = true := by rw [h0]; simp
   have HE : Hid (R = 0) := by unfold Hid; rw [HR.out, if_pos h0]
   clear h0 HR
   go_enter Tryz.func52, Tryz.ntmps52
   go_wp2_with fail
   go_loopw [3] (fun i wr => i = .int .i64 0 ∧ wr = w) (fun _ _ => 0)
   case atStart => exact ⟨rfl, rfl⟩
   case round =>
    obtain ⟨rfl, rfl⟩ := hrel
    go_wp2_with fail
    refine sameC (K0 _) ?_
    go_wp2
    go_ret
    exact ⟨ret_int HE.out.symm, rfl⟩
 have e0 : (t0.toList == s.toList) = false := by
  cases h : (t0.toList == s.toList)
  · rfl
  · exact absurd (str_eq h) h0
 by_cases h1 : t1 = s
 · have e1 : (t1.toList == s.toList) = true := by rw [h1]; simp
   have HE : Hid (R = 1) := by unfold Hid; rw [HR.out, if_neg h0, if_pos h1]
   clear h0 h1 HR
   go_enter Tryz.func52, Tryz.ntmps52
   go_wp2_with fail
   go_loopw [3] (fun i wr => (i = .int .i64 0 ∨ i = .int .i64 1) ∧ wr = w) (fun i _ => 2 - (intOf i).toNat)
   case atStart => exact ⟨.inl rfl, rfl⟩
   case round =>
    obtain ⟨rfl | rfl, rfl⟩ := hrel
    · go_wp2_with fail
      refine sameC (K0 _) ?_
      go_wp2
      exact ⟨⟨.inr rfl, by trivial⟩, by simp [intOf]⟩
    · go_wp2_with fail
      refine sameC (K1 _) ?_
      go_wp2
      go_ret
      exact ⟨ret_int HE.out.symm, rfl⟩
 · have e1 : (t1.toList == s.toList) = false := by
    cases h : (t1.toList == s.toList)
    · rfl
    · exact absurd (str_eq h) h1
   have HE : Hid (R = -1) := by unfold Hid; rw [HR.out, if_neg h0, if_neg h1]
   clear h0 h1 HR
   go_enter Tryz.func52, Tryz.ntmps52
   go_wp2_with fail
   go_loopw [3] (fun i wr => (i = .int .i64 0 ∨ i = .int .i64 1 ∨ i = .int .i64 2) ∧ wr = w) (fun i _ => 2 - (intOf i).toNat)
   case atStart => exact ⟨.inl rfl, rfl⟩
   case round =>
    obtain ⟨rfl | rfl | rfl, rfl⟩ := hrel
    · go_wp2_with fail
      refine sameC (K0 _) ?_
      go_wp2
      exact ⟨⟨.inr (.inl rfl), by trivial⟩, by simp [intOf]⟩
    · go_wp2_with fail
      refine sameC (K1 _) ?_
      go_wp2
      exact ⟨⟨.inr (.inr rfl), by trivial⟩, by simp [intOf]⟩
    · go_wp2
      go_ret
      exact ⟨ret_int HE.out.symm, rfl⟩
end Go.Proofs.YtpclaceefapppaaGreatDoor.ctr
