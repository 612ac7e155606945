/- What a tied card's proof wants of listed variables: two or three of them are so many data; the one row of the ; and what else the law reaches. -/
import Derived.Test.YtpclaceefapppaaGreatDoorJnZab
import Derived.Test.YtpclaceefapppaaGreatDoorJnZag
import Derived.Stop.LaidErr
import Derived.Test.YtpclaceefapppaaGreatDoorJnZar
import Derived.Test.YtpclaceefapppaaGreatDoorJnZas
import Derived.Test.YtpclaceefapppaaGreatDoorJnZaf
import Derived.Test.YtpclaceefapppaaGreatDoorJnZap
set_option maxRecDepth 100000
set_option maxHeartbeats 2000000
namespace Go.Proofs.YtpclaceefapppaaGreatDoor.kit
open Go.RowKit
theorem star : "*" ++ "errors.errorString" = "*errors.errorString" := by decide
theorem rowErr (u : TypeId) (h : Tryz.prog.typeName? 3 u = some "*errors.errorString") : u = 358 :=
 typeName_ptr_named (nm := "errors.errorString") (by rw [star]; kernel_rfl) (by kernel_rfl) (by decide) u (by rw [star]; exact h)
theorem cellsErr : Tryz.prog.cellsOf 377 = 1 := by kernel_rfl
theorem cellsStr : Tryz.prog.cellsOf 9 = 1 := by kernel_rfl
theorem gErr : Tryz.prog.globalNamed "loop.example/g00638/impl.errNoTable" = some 0 := by kernel_rfl
theorem gErrType : (Tryz.prog.globals[0]?).map (·.type) = some 144 := by kernel_rfl
theorem sent_of {text : List UInt8} {r : List (String × DataW Unit)} {W : World} (h : laidMet Tryz.prog (("loop.example/g00638/impl.errNoTable", .iface "*errors.errorString" (.ptr (.agg [.lit (.string text)]))) :: r) W) : ∃ a, ctr.Sent W a := by
 obtain ⟨a, s, hv, _⟩ := laid_sentinel h gErr gErrType Tryz.underlying144 rowErr Tryz.underlying358 Tryz.underlying377 rfl rfl Tryz.underlying9 cellsErr cellsStr
 exact ⟨a, by unfold ctr.Sent; simpa using World.var?_cell gErr hv 0⟩
end Go.Proofs.YtpclaceefapppaaGreatDoor.kit
namespace Go.Proofs.YtpclaceefapppaaGreatDoor.ctr
open Go.RowKit
theorem specReadF (s : ByteArray) (w : World) (hs : s.size ≤ 1048576) : CR 101 #[.string s] w (.tuple #[.int .i64 (readFeast s).1, .int .i64 (readFeast s).2]) := by
 have hne := cut_ne s 43
 have hz0 := cut_short s 43 0
 have hz1 := cut_short s 43 1
 have hcl := cut_long s 43
 have KC := l01Cut s 43 w hs
 have HV : Hid (readFeast s = readParts (cut s 43)) := rfl
 rw [HV.out]
 clear HV
 generalize cut s 43 = xs at *
 have hl0 : 0 < xs.length := by
  rcases xs with _ | _
  · exact absurd rfl hne
  · simp
 have HV : Hid (readParts xs = if xs.length = 1 then (findFeast (xs.getD 0 ⟨#[]⟩), 0) else if findFeast (xs.getD 0 ⟨#[]⟩) < 0 ∨ 2 < xs.length ∨ readDec (xs.getD 1 ⟨#[]⟩) < 1 ∨ 99 < readDec (xs.getD 1 ⟨#[]⟩) then (-1, 0) else (findFeast (xs.getD 0 ⟨#[]⟩), readDec (xs.getD 1 ⟨#[]⟩))) := rfl
 obtain ⟨R, hR⟩ : ∃ R, R = readParts xs := ⟨_, rfl⟩
 rw [← hR]
 have HR := hideP (hR.trans HV.out)
 clear hR HV
 obtain ⟨n0, hn0⟩ : ∃ n0, n0 = xs.getD 0 ⟨#[]⟩ := ⟨_, rfl⟩
 obtain ⟨n1, hn1⟩ : ∃ n1, n1 = xs.getD 1 ⟨#[]⟩ := ⟨_, rfl⟩
 rw [← hn0, ← hn1] at HR
 rw [← hn0] at hz0
 rw [← hn1] at hz1
 have HN0 := hideP hn0
 have HN1 := hideP hn1
 clear hn0 hn1
 have KF : ∀ W, CR 148 #[.string n0] W (.int .i64 (findFeast n0)) := fun W => specFind _ W
 have KR : ∀ W, CS 54 #[.string n1] W (.int .i64 (readDec n1)) := fun W => specReadDec _ W (by unfold maxLen; omega)
 have hfb := find_b n0
 generalize findFeast n0 = at0 at *
 generalize readDec n1 = kk at *
 go_enter Tryz.func101, Tryz.ntmps101
 go_wp2_with fail
 refine KC.mono ?_
 rintro e W1 ⟨v, rfl, hr, hb1⟩
 obtain ⟨g, cap, rfl, hg, hgl, hst, _⟩ := own_row hr hne
 have B1 := hideP hb1
 have e0 : W1.cell? ⟨g, 0, none⟩ = some (.string n0) := by rw [HN0.out]; exact hst 0 hl0
 have HST := hideP hst
 clear hr hb1 hst KC
 go_wp2_with fail
 refine (KF _).mono ?_
 rintro e W2 ⟨rfl, hb2⟩
 have B2 : Hid (Below w.heap.size w W2) := B1.out.trans (hb2.mono B1.out.size)
 have HST2 := hideP (HST.out.below hb2 hgl)
 clear hb2 e0
 by_cases h1 : xs.length = 1
 · have HE := hideP (HR.out.trans (if_pos h1))
   clear HR
   have h1' : ((xs.length : Int) == 1) = true := by simp [h1]
   go_wp2
   go_ret2
   rw [HE.out]
   exact ⟨rfl, B2.out⟩
 have h1' : ((xs.length : Int) == 1) = false := by simp; omega
 have HE := hideP (HR.out.trans (if_neg h1))
 have hl1 : 1 < xs.length := by omega
 have e1 : W2.cell? ⟨g, 1, none⟩ = some (.string n1) := by rw [HN1.out]; exact HST2.out 1 hl1
 have hi1 : (1 : Int) < (xs.length : Int) := by omega
 clear HR
 go_wp2_with fail
 refine sameC (KR _) ?_
 clear e1
 by_cases q1 : at0 < 0
 · have HE2 := hideP (HE.out.trans (if_pos (.inl q1)))
   clear HE
   go_wp2
   go_ret2
   rw [HE2.out]
   exact ⟨rfl, B2.out⟩
 by_cases q2 : 2 < xs.length
 · have HE2 := hideP (HE.out.trans (if_pos (.inr (.inl q2))))
   have q2' : (2 : Int) < (xs.length : Int) := by omega
   clear HE
   go_wp2
   go_ret2
   rw [HE2.out]
   exact ⟨rfl, B2.out⟩
 have q2' : ¬ (2 : Int) < (xs.length : Int) := by omega
 have KI : ∀ W, CS 98 #[.int .i64 kk, .int .i64 1, .int .i64 99] W (.bool (inB kk 1 99)) := l01In kk 1 99
 by_cases q3 : kk < 1 ∨ 99 < kk
 · have HE2 := hideP (HE.out.trans (if_pos (.inr (.inr q3))))
   rw [inB_false q3] at KI
   clear HE q3
   go_wp2_with fail
   refine sameC (KI _) ?_
   go_wp2
   go_ret2
   rw [HE2.out]
   exact ⟨rfl, B2.out⟩
 · have HE2 := hideP (HE.out.trans (if_neg (fun h => by omega)))
   rw [inB_true (by omega) (by omega)] at KI
   clear HE q3
   go_wp2_with fail
   refine sameC (KI _) ?_
   go_wp2
   go_ret2
   rw [HE2.out]
   exact ⟨rfl, B2.out⟩
def OwnC (w : World) (g m : Nat) : Prop := ∀ j, j < m → (∃ u, w.cell? ⟨g, j, none⟩ = some u) ∧ w.frozen? ⟨g, j, none⟩ = false
def MarkC (w : World) (g m : Nat) : Prop := ∀ j, j < m → w.cell? ⟨g, j, none⟩ = some (.int .i64 ((1 + j : Nat) : Int))
theorem ownC_of {W : World} {g m : Nat} {cs : Array Value} {t : TypeId} (h : Blk W g cs t) (hs : m ≤ cs.size) : OwnC W g m := fun j hj => ⟨⟨cs[j]'(by omega), h.cell j (by simp)⟩, h.thaw j⟩
theorem PRow.own {w : World} {g cap : Nat} {T : TypeId} {L : List Seg} (h : PRow segK T w g cap L) : OwnC w g (L.length * 5) := by
 obtain ⟨cur, hB, hs, h1, _⟩ := h
 have : L.length * 5 ≤ cap * 5 := Nat.mul_le_mul_right _ h1
 exact ownC_of hB (by rw [hs]; exact this)
theorem ownC_set {W : World} {g n : Nat} (h : OwnC W g n) (k : Nat) (v : Value) : OwnC (W.setCell ⟨g, k, none⟩ v) g n := fun j hj => by
 obtain ⟨⟨u, hu⟩, hf⟩ := h j hj
 refine ⟨?_, by rw [World.frozen?_setCell]; exact hf⟩
 by_cases e : j = k
 · subst e
   exact ⟨v, World.cell?_setCell_same W _ _ hu⟩
 · exact ⟨u, by rw [World.cell?_setCell_other W _ _ _ (by intro h; injection h with _ h2; exact e h2.symm)]; exact hu⟩
theorem markC_set {W : World} {g n k : Nat} (h : MarkC W g k) (ho : OwnC W g n) (hk : k < n) : MarkC (W.setCell ⟨g, k, none⟩ (.int .i64 ((1 + k : Nat) : Int))) g (k + 1) := fun j hj => by
 obtain ⟨⟨u, hu⟩, _⟩ := ho k hk
 by_cases e : j = k
 · subst e
   exact World.cell?_setCell_same W _ _ hu
 · rw [World.cell?_setCell_other W _ _ _ (by intro h; injection h with _ h2; exact e h2.symm)]
   exact h j (by omega)
theorem grown_set (W : World) (B o : Nat) (v : Value) : W.grownBy (W.setCell ⟨B, o, none⟩ v) (some B) :=
 ⟨rfl, rfl, rfl, by rw [World.size_setCell]; exact Nat.le_refl _, fun k _ hk => Below.heap_setCell W _ _ k (by intro e; apply hk; rw [e])⟩
structure MSt (w : World) (g n k : Nat) (wr : World) : Prop where
 own : OwnC wr g (n * 5)
 mark : MarkC wr g k
 grown : w.grownBy wr (some g)
theorem MSt.put {w wr : World} {g n k : Nat} (h : MSt w g n k wr) (hk : k < n * 5) : MSt w g n (k + 1) (wr.setCell ⟨g, k, none⟩ (.int .i64 ((1 + k : Nat) : Int))) :=
 ⟨ownC_set h.own _ _, markC_set h.mark h.own hk, grown_two h.grown (grown_set _ _ _ _)⟩
theorem MSt.five {w wr : World} {g n k : Nat} (h : MSt w g n (k * 5) wr) (hk : k < n) : MSt w g n ((k + 1) * 5) (((((wr.setCell ⟨g, k * 5, none⟩ (.int .i64 ((k : Int) * 5 + 1))).setCell ⟨g, k * 5 + 1, none⟩ (.int .i64 ((k : Int) * 5 + 1 + 1))).setCell ⟨g, k * 5 + 2, none⟩ (.int .i64 ((k : Int) * 5 + 1 + 1 + 1))).setCell ⟨g, k * 5 + 3, none⟩ (.int .i64 ((k : Int) * 5 + 1 + 1 + 1 + 1))).setCell ⟨g, k * 5 + 4, none⟩ (.int .i64 ((k : Int) * 5 + 1 + 1 + 1 + 1 + 1))) := by
 have e : ∀ j : Nat, j < 5 → ((1 + (k * 5 + j) : Nat) : Int) = (k : Int) * 5 + 1 + (j : Int) := fun j _ => by omega
 have h5 := ((((h.put (by omega)).put (by omega)).put (by omega)).put (by omega)).put (by omega)
 rw [show (k + 1) * 5 = k * 5 + 1 + 1 + 1 + 1 + 1 by omega]
 have a0 : ((1 + (k * 5) : Nat) : Int) = (k : Int) * 5 + 1 := by omega
 have a1 : ((1 + (k * 5 + 1) : Nat) : Int) = (k : Int) * 5 + 1 + 1 := by omega
 have a2 : ((1 + (k * 5 + 1 + 1) : Nat) : Int) = (k : Int) * 5 + 1 + 1 + 1 := by omega
 have a3 : ((1 + (k * 5 + 1 + 1 + 1) : Nat) : Int) = (k : Int) * 5 + 1 + 1 + 1 + 1 := by omega
 have a4 : ((1 + (k * 5 + 1 + 1 + 1 + 1) : Nat) : Int) = (k : Int) * 5 + 1 + 1 + 1 + 1 + 1 := by omega
 rw [a0, a1, a2, a3, a4] at h5
 exact h5
theorem markSegs (g cap n : Nat) (w : World) (hn : n ≤ 1048576) (ho : OwnC w g (n * 5)) :
    Calls Tryz.prog 40 #[.slice (some ⟨g, 0, none⟩) n cap, .int .i64 1] w fun e w' => e = .returned (.int .i64 ((n : Int) * 5 + 1)) ∧ MSt w g n (n * 5) w' := by
  have S0 : Hid (MSt w g n 0 w) := ⟨ho, fun j hj => by omega, ⟨rfl, rfl, rfl, Nat.le_refl _, fun _ _ _ => rfl⟩⟩
  clear ho
  go_enter Tryz.func40, Tryz.ntmps40
  go_wp2
  go_loopw [1, 5] (fun t i wr => ∃ k : Nat, k ≤ n ∧ i = .int .i64 (k : Int) ∧ t = .int .i64 ((k : Int) * 5 + 1) ∧ MSt w g n (k * 5) wr) (fun _ i _ => n - (intOf i).toNat)
  case atStart => exact ⟨0, Nat.zero_le _, rfl, rfl, S0.out⟩
  case round =>
   obtain ⟨k, hk, rfl, rfl, hM⟩ := hrel
   have HM := hideP hM
   clear hM S0
   by_cases hlt : k < n
   · obtain ⟨⟨u0, h0⟩, f0⟩ := HM.out.own (k * 5) (by omega)
     obtain ⟨⟨u1, h1⟩, f1⟩ := HM.out.own (k * 5 + 1) (by omega)
     obtain ⟨⟨u2, h2⟩, f2⟩ := HM.out.own (k * 5 + 2) (by omega)
     obtain ⟨⟨u3, h3⟩, f3⟩ := HM.out.own (k * 5 + 3) (by omega)
     obtain ⟨⟨u4, h4⟩, f4⟩ := HM.out.own (k * 5 + 4) (by omega)
     have HN := hideP (HM.out.five hlt)
     go_wp2
     exact ⟨⟨k + 1, by omega, by go_num, by apply congrArg (Value.int .i64); omega, HN.out⟩, by simp [intOf]; omega⟩
   · obtain rfl : k = n := by omega
     go_wp2
     go_ret
     exact ⟨rfl, HM.out⟩
end Go.Proofs.YtpclaceefapppaaGreatDoor.ctr
