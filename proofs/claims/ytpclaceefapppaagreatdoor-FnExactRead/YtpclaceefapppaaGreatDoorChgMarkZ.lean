/- Contract of the laws' markRegime: marks are written into the three lists' own rows. -/
import Derived.Test.YtpclaceefapppaaGreatDoorJnZba
import Derived.Test.YtpclaceefapppaaGreatDoorJnZaf
import Derived.Test.YtpclaceefapppaaGreatDoorJnZbc
import Derived.Test.YtpclaceefapppaaGreatDoorJnZah
set_option maxHeartbeats 2000000
namespace Go.Proofs.YtpclaceefapppaaGreatDoor.ctr
open Go.RowKit
structure Kp (S : Nat → Prop) (w w' : World) : Prop where
 os : w'.os = w.os
 tape : w'.tape = w.tape
 output : w'.output = w.output
 size : w.heap.size ≤ w'.heap.size
 block : ∀ k, k < w.heap.size → ¬ S k → w'.heap[k]? = w.heap[k]?
theorem Kp.refl (S : Nat → Prop) (w : World) : Kp S w w := ⟨rfl, rfl, rfl, Nat.le_refl _, fun _ _ _ => rfl⟩
theorem Kp.later {S : Nat → Prop} {a b c : World} (h : Kp S a b) (k : Below b.heap.size b c) : Kp S a c :=
 ⟨k.os.trans h.os, k.tape.trans h.tape, k.output.trans h.output, Nat.le_trans h.size k.size, fun i hi hs => (k.block i (Nat.lt_of_lt_of_le hi h.size)).trans (h.block i hi hs)⟩
theorem Kp.grown {S : Nat → Prop} {a b c : World} {g : Nat} (h : Kp S a b) (k : b.grownBy c (some g)) (hg : S g) : Kp S a c :=
 ⟨k.os.trans h.os, k.tape.trans h.tape, k.output.trans h.output, Nat.le_trans h.size k.size, fun i hi hs => (k.block i (Nat.lt_of_lt_of_le hi h.size) (fun e => hs (by cases e; exact hg))).trans (h.block i hi hs)⟩
theorem Kp.below {S : Nat → Prop} {a b w : World} {B : Nat} (h : Kp S a b) (hb : Below B w a) (hB : B ≤ a.heap.size) (hS : ∀ k, S k → B ≤ k) : Below B w b :=
 hb.trans ⟨h.os, h.tape, h.output, h.size, fun k hk => h.block k (by omega) (fun hs => by have := hS k hs; omega)⟩
theorem Kp.blk {S : Nat → Prop} {a b : World} {g : Nat} {cs : Array Value} {t : TypeId} (h : Kp S a b) (hB : Blk a g cs t) (hS : ¬ S g) : Blk b g cs t := (h.block g hB.lt hS).trans hB
theorem Kp.mov {S : Nat → Prop} {W a b : World} {v : Value} {xs : List Int} (h : Kp S a b) (hm : MovRow W a v xs) (hS : ∀ k, S k → k < W.heap.size) : MovRow W b v xs := by
 obtain ⟨ad, cap, rfl, hm | ⟨g, t, zs, rfl, hg, hB⟩⟩ := hm
 · exact ⟨ad, cap, rfl, .inl hm⟩
 · exact ⟨_, cap, rfl, .inr ⟨g, t, zs, rfl, hg, h.blk hB (fun hs => by have := hS g hs; omega)⟩⟩
theorem MovRow.mono {w w0 w' : World} {v : Value} {xs : List Int} (h : MovRow w w' v xs) (hb : w0.heap.size ≤ w.heap.size) : MovRow w0 w' v xs := by
 obtain ⟨ad, cap, rfl, h | ⟨g, t, zs, rfl, hg, hB⟩⟩ := h
 · exact ⟨ad, cap, rfl, .inl h⟩
 · exact ⟨_, cap, rfl, .inr ⟨g, t, zs, rfl, Nat.le_trans hb hg, hB⟩⟩
theorem ownC_below {w w' : World} {g m : Nat} (h : OwnC w g m) (hb : Below w.heap.size w w') (hg : g < w.heap.size) : OwnC w' g m := fun j hj => by
 obtain ⟨⟨u, hu⟩, hf⟩ := h j hj
 exact ⟨⟨u, (hb.cell (p := ⟨g, j, none⟩) hg).trans hu⟩, (hb.frozen (p := ⟨g, j, none⟩) hg).trans hf⟩
theorem ownC_other {w w' : World} {g g' m : Nat} (h : OwnC w g m) (hb : w.grownBy w' (some g')) (hg : g < w.heap.size) (hn : g ≠ g') : OwnC w' g m := fun j hj => by
 obtain ⟨⟨u, hu⟩, hf⟩ := h j hj
 have e := hb.block g hg (fun e => hn (by cases e; rfl))
 exact ⟨⟨u, (World.cell?_of_block (a := ⟨g, j, none⟩) e).trans hu⟩, (World.frozen?_of_block (a := ⟨g, j, none⟩) e).trans hf⟩
theorem markPats (g cap n z : Nat) (w : World) (hn : n ≤ 1048576) (hz : z ≤ 20000000) (ho : OwnC w g (n * 3)) :
    Calls Tryz.prog 41 #[.slice (some ⟨g, 0, none⟩) n cap, .int .i64 (z : Int)] w fun e w' => e = .returned (.int .i64 ((z + n * 3 : Nat) : Int)) ∧ w.grownBy w' (some g) ∧ OwnC w' g (n * 3) := by
  have HO := hideP ho
  clear ho
  go_enter Tryz.func41, Tryz.ntmps41
  go_wp2
  go_loopw [1, 5] (fun t i wr => ∃ k : Nat, k ≤ n ∧ i = .int .i64 (k : Int) ∧ t = .int .i64 ((z + k * 3 : Nat) : Int) ∧ w.grownBy wr (some g) ∧ OwnC wr g (n * 3)) (fun _ i _ => n - (intOf i).toNat)
  case atStart => exact ⟨0, Nat.zero_le _, rfl, rfl, ⟨rfl, rfl, rfl, Nat.le_refl _, fun _ _ _ => rfl⟩, HO.out⟩
  case round =>
   obtain ⟨k, hk, rfl, rfl, hG, hOw⟩ := hrel
   have HG := hideP hG
   have HW := hideP hOw
   clear hG hOw
   by_cases hlt : k < n
   · obtain ⟨⟨u0, h0⟩, f0⟩ := HW.out (k * 3) (by omega)
     obtain ⟨⟨u1, h1⟩, f1⟩ := HW.out (k * 3 + 1) (by omega)
     obtain ⟨⟨u2, h2⟩, f2⟩ := HW.out (k * 3 + 2) (by omega)
     go_wp2
     exact ⟨⟨k + 1, by omega, by go_num, by apply congrArg (Value.int .i64); omega, grown_two HG.out (grown_two (grown_two (grown_set _ _ _ _) (grown_set _ _ _ _)) (grown_set _ _ _ _)), ownC_set (ownC_set (ownC_set HW.out _ _) _ _) _ _⟩, by simp [intOf]; omega⟩
   · have hkn : k = n := by omega
     subst hkn
     go_wp2
     go_ret
     exact ⟨rfl, HG.out, HW.out⟩
theorem markRgnz (g cap n z : Nat) (w : World) (hn : n ≤ 1048576) (hz0 : 0 < z) (hz : z ≤ 20000000) (hg : g < w.heap.size) (ho : OwnC w g (n * 3)) :
    Calls Tryz.prog 42 #[.slice (some ⟨g, 0, none⟩) n cap, .int .i64 (z : Int)] w fun e w' => e = .returned (.int .i64 ((z + n * 3 : Nat) : Int)) ∧ w.grownBy w' (some g) := by
  have HO := hideP ho
  clear ho
  go_enter Tryz.func42, Tryz.ntmps42
  go_wp2
  go_loopw [1, 5] (fun t i wr => ∃ k : Nat, k ≤ n ∧ i = .int .i64 (k : Int) ∧ t = .int .i64 ((z + k * 3 : Nat) : Int) ∧ w.grownBy wr (some g) ∧ OwnC wr g (n * 3)) (fun _ i _ => n - (intOf i).toNat)
  case atStart => exact ⟨0, Nat.zero_le _, rfl, rfl, ⟨rfl, rfl, rfl, Nat.le_refl _, fun _ _ _ => rfl⟩, HO.out⟩
  case round =>
   obtain ⟨k, hk, rfl, rfl, hG, hOw⟩ := hrel
   have HG := hideP hG
   have HW := hideP hOw
   clear hG hOw
   by_cases hlt : k < n
   · go_wp2_with fail
     rw [show ((z : Int) + (k : Int) * 3) = ((z + k * 3 : Nat) : Int) from by omega]
     refine (markText (z + k * 3) _ (by omega) (by omega)).mono ?_
     rintro e w2 ⟨rfl, hb2⟩
     have hgw : g < wr.heap.size := Nat.lt_of_lt_of_le hg HG.out.size
     have hO2 := ownC_below HW.out hb2 hgw
     have HO2 := hideP hO2
     obtain ⟨⟨u0, h0⟩, f0⟩ := hO2 (k * 3) (by omega)
     obtain ⟨⟨u1, h1⟩, f1⟩ := hO2 (k * 3 + 1) (by omega)
     obtain ⟨⟨u2, h2⟩, f2⟩ := hO2 (k * 3 + 2) (by omega)
     have HG2 : Hid (w.grownBy w2 (some g)) := grown_two HG.out ⟨hb2.os, hb2.tape, hb2.output, hb2.size, fun j hj _ => hb2.block j hj⟩
     clear hO2 hb2
     go_wp2
     exact ⟨⟨k + 1, by omega, by go_num, by apply congrArg (Value.int .i64); omega, grown_two HG2.out (grown_two (grown_two (grown_set _ _ _ _) (grown_set _ _ _ _)) (grown_set _ _ _ _)), ownC_set (ownC_set (ownC_set HO2.out _ _) _ _) _ _⟩, by simp [intOf]; omega⟩
   · have hkn : k = n := by omega
     subst hkn
     go_wp2
     go_ret
     exact ⟨rfl, HG.out⟩
theorem ownC_any {w w' : World} {g g' m m' : Nat} (h : OwnC w g m) (hb : w.grownBy w' (some g')) (hg : g < w.heap.size) (ho : OwnC w' g' m') (he : g = g' → m ≤ m') : OwnC w' g m := by
 by_cases e : g = g'
 · have := he e
   subst e
   exact fun j hj => ho j (by omega)
 · exact ownC_other h hb hg e
theorem markRegime0 (nm : ByteArray) (f t ru : Int) (s1 s3 s5 n1 n2 n3 : Nat) (w : World) (hn1 : n1 ≤ 1048576) (hn2 : n2 ≤ 1048576) (hn3 : n3 ≤ 1048576) (b1 : s1 < w.heap.size) (b3 : s3 < w.heap.size) (b5 : s5 < w.heap.size) (o1 : OwnC w s1 (n1 * 5)) (o3 : OwnC w s3 (n2 * 3)) (o5 : OwnC w s5 (n3 * 3)) (e31 : s3 = s1 → n2 * 3 ≤ n1 * 5) (e51 : s5 = s1 → n3 * 3 ≤ n1 * 5) (e53 : s5 = s3 → n3 * 3 ≤ n2 * 3) :
    Calls Tryz.prog 13 #[.agg #[.string nm, .int .i64 f, .int .i64 t, .slice (some ⟨s1, 0, none⟩) n1 n1, .slice (some ⟨s3, 0, none⟩) n2 n2, .slice (some ⟨s5, 0, none⟩) n3 n3, .int .i64 ru], .int .i64 1] w fun e w' => ∃ z : Nat, e = .returned (.int .i64 (z : Int)) ∧ Kp (fun k => k = s1 ∨ k = s3 ∨ k = s5) w w' := by
  obtain ⟨W0, hW0, d0, d1, d2, d3, d4, d5, d6, hBl⟩ := seven_box w (.string nm) (.int .i64 f) (.int .i64 t) (.slice (some ⟨s1, 0, none⟩) n1 n1) (.slice (some ⟨s3, 0, none⟩) n2 n2) (.slice (some ⟨s5, 0, none⟩) n3 n3) (.int .i64 ru) 35
  have hb0 := hBl ⟨W0, Below.refl _ _⟩
  have hz0 : w.heap.size < W0.heap.size := by rw [hW0]; simp
  have hs0 := hb0.size
  have c4 : W0.cell? ⟨w.heap.size, 4, none⟩ = some (.slice (some ⟨s3, 0, none⟩) n2 n2) := d4 ⟨W0, Below.refl _ _⟩
  have c5 : W0.cell? ⟨w.heap.size, 5, none⟩ = some (.slice (some ⟨s5, 0, none⟩) n3 n3) := d5 ⟨W0, Below.refl _ _⟩
  have K1 := hideP (markSegs s1 n1 n1 W0 hn1 (ownC_below o1 hb0 b1))
  have O3 := hideP (ownC_below o3 hb0 b3)
  have O5 := hideP (ownC_below o5 hb0 b5)
  have P0 : Hid (Kp (fun k => k = s1 ∨ k = s3 ∨ k = s5) w W0) := (Kp.refl _ w).later hb0
  have HW0 := hideP hW0
  have HC4 := hideP c4
  have HC5 := hideP c5
  clear hW0 d0 d1 d2 d3 d4 d5 d6 hBl hb0 o1 o3 o5 c4 c5
  go_enter Tryz.func13, Tryz.ntmps13
  go_wp2_with fail
  rw [← HW0.out]
  refine K1.out.mono ?_
  rintro e w1 ⟨rfl, hM⟩
  have G1 := hideP hM.grown
  have P1 := hideP (P0.out.grown G1.out (.inl rfl))
  have c4 : w1.cell? ⟨w.heap.size, 4, none⟩ = some (.slice (some ⟨s3, 0, none⟩) n2 n2) := (World.cell?_of_block (a := ⟨w.heap.size, 4, none⟩) (G1.out.block w.heap.size hz0 (fun e => by cases e; omega))).trans HC4.out
  have HC5' : Hid (w1.cell? ⟨w.heap.size, 5, none⟩ = some (.slice (some ⟨s5, 0, none⟩) n3 n3)) := (World.cell?_of_block (a := ⟨w.heap.size, 5, none⟩) (G1.out.block w.heap.size hz0 (fun e => by cases e; omega))).trans HC5.out
  have K3 := hideP (markPats s3 n2 n2 (n1 * 5 + 1) w1 hn2 (by omega) (ownC_any O3.out G1.out (by omega) hM.own e31))
  have O5' := hideP (ownC_any O5.out G1.out (by omega) hM.own e51)
  have hs1 := G1.out.size
  clear hM
  go_wp2_with fail
  rw [show ((n1 : Int) * 5 + 1) = ((n1 * 5 + 1 : Nat) : Int) from by omega]
  refine K3.out.mono ?_
  rintro e w2 ⟨rfl, g2, g4⟩
  have G2 := hideP g2
  have P2 := hideP (P1.out.grown G2.out (.inr (.inl rfl)))
  have c5 : w2.cell? ⟨w.heap.size, 5, none⟩ = some (.slice (some ⟨s5, 0, none⟩) n3 n3) := (World.cell?_of_block (a := ⟨w.heap.size, 5, none⟩) (G2.out.block w.heap.size (by omega) (fun e => by cases e; omega))).trans HC5'.out
  have hs2 := G2.out.size
  have K5 := hideP (markRgnz s5 n3 n3 (n1 * 5 + 1 + n2 * 3) w2 hn3 (by omega) (by omega) (by omega) (ownC_any O5'.out G2.out (by omega) g4 e53))
  clear g2 g4 c4
  go_wp2_with fail
  first | refine K5.out.mono ?_ | (rw [show ((n1 : Int) * 5 + 1 + (n2 : Int) * 3) = ((n1 * 5 + 1 + n2 * 3 : Nat) : Int) from by omega]; refine K5.out.mono ?_)
  rintro e w3 ⟨rfl, g3⟩
  have P3 := hideP (P2.out.grown g3 (.inr (.inr rfl)))
  clear g3
  go_wp2_with fail
  go_ret
  exact ⟨n1 * 5 + 1 + n2 * 3 + n3 * 3, rfl, P3.out⟩
theorem blk_size {w : World} {g : Nat} {cs cs' : Array Value} {t t' : TypeId} (h : Blk w g cs t) (h' : Blk w g cs' t') : cs.size = cs'.size := by
 have e := Option.some.inj (Eq.trans (Eq.symm h) h')
 injection e with e1
 rw [e1]
theorem markRegime (r : Rgm) (s1 s3 s5 : Nat) (t1 t3 t5 : TypeId) (w : World) (ho : GOk r) (k1 : Blk w s1 (iA segK r.segs) t1) (k3 : Blk w s3 (iA patK r.pats) t3) (k5 : Blk w s5 (rA r.rgns) t5) :
    Calls Tryz.prog 13 #[.agg #[.string r.name, .int .i64 r.fr, .int .i64 r.to, .slice (some ⟨s1, 0, none⟩) r.segs.length r.segs.length, .slice (some ⟨s3, 0, none⟩) r.pats.length r.pats.length, .slice (some ⟨s5, 0, none⟩) r.rgns.length r.rgns.length, .int .i64 r.rule], .int .i64 1] w fun e w' => ∃ z : Nat, e = .returned (.int .i64 (z : Int)) ∧ Kp (fun k => k = s1 ∨ k = s3 ∨ k = s5) w w' := by
  have z1 : (iA segK r.segs).size = r.segs.length * 5 := iA_size _
  have z3 : (iA patK r.pats).size = r.pats.length * 3 := iA_size _
  have z5 := rA_size r.rgns
  refine markRegime0 _ _ _ _ s1 s3 s5 _ _ _ w ho.2.1 ho.2.2.1 ?_ k1.lt k3.lt k5.lt (ownC_of k1 (by omega)) (ownC_of k3 (by omega)) (ownC_of k5 (by omega)) (fun e => ?_) (fun e => ?_) (fun e => ?_)
  · exact ho.2.2.2.1
  · subst e; have := blk_size k1 k3; omega
  · subst e; have := blk_size k1 k5; omega
  · subst e; have := blk_size k3 k5; omega
end Go.Proofs.YtpclaceefapppaaGreatDoor.ctr
