/- Contract of the laws' markRegime: marks are written into the three lists' own rows; nothing else turns. Structs of four ints; lists of them in rows of their own ('QMov': in a block that was not there in w; 'QRow': anywhere); the state of a loop that puts such a list together by append. The dates behind one day and ahead of another, at most forty: plain; the program's datesBetween tells them in a row of its own. -/
import Derived.Test.YtdgolaaheakfoaaGreatDoorJnRbf
import Derived.Test.YtdgolaaheakfoaaGreatDoorJnRbg
import Derived.Test.YtdgolaaheakfoaaGreatDoorJnRaq
import Derived.Test.YtdgolaaheakfoaaGreatDoorJnRaw
import Derived.Deep.DeepCutAuto
import Derived.Deep.RegionHeld
namespace Go.Proofs.YtdgolaaheakfoaaGreatDoor.ctr
open Go.RowKit
structure Kp (S : Nat → Prop) (w w' : World) : Prop where
  os : w'.os = w.os
  tape : w'.tape = w.tape
  output : w'.output = w.output
  size : w.heap.size ≤ w'.heap.size
  block : ∀ k, k < w.heap.size → ¬ S k → w'.heap[k]? = w.heap[k]?
theorem Kp.refl (S : Nat → Prop) (w : World) : Kp S w w := ⟨rfl, rfl, rfl, Nat.le_refl _, fun _ _ _ => rfl⟩
theorem Kp.later {S : Nat → Prop} {a b c : World} (h : Kp S a b) (k : Below b.heap.size b c) : Kp S a c :=
  ⟨k.os.trans h.os, k.tape.trans h.tape, k.output.trans h.output, Nat.le_trans h.size k.size, fun i hi hs => (k.block i (Nat.lt_of_lt_of_le hi h.size)).trans (h.block i hi hs)⟩
theorem Kp.grown {S : Nat → Prop} {a b c : World} {g : Nat} (h : Kp S a b) (k : b.grownBy c (some g)) (hg : S g) : Kp S a c :=
  ⟨k.os.trans h.os, k.tape.trans h.tape, k.output.trans h.output, Nat.le_trans h.size k.size, fun i hi hs => (k.block i (Nat.lt_of_lt_of_le hi h.size) (fun e => hs (by cases e; exact hg))).trans (h.block i hi hs)⟩
theorem Kp.below {S : Nat → Prop} {a b w : World} {B : Nat} (h : Kp S a b) (hb : Below B w a) (hB : B ≤ a.heap.size) (hS : ∀ k, S k → B ≤ k) : Below B w b :=
  hb.trans ⟨h.os, h.tape, h.output, h.size, fun k hk => h.block k (by omega) (fun hs => by have := hS k hs; omega)⟩
theorem Kp.blk {S : Nat → Prop} {a b : World} {g : Nat} {cs : Array Value} {t : TypeId} (h : Kp S a b) (hB : Blk a g cs t) (hS : ¬ S g) : Blk b g cs t := (h.block g hB.lt hS).trans hB
theorem Kp.mov {S : Nat → Prop} {W a b : World} {v : Value} {xs : List Int} (h : Kp S a b) (hm : MovRow W a v xs) (hS : ∀ k, S k → k < W.heap.size) : MovRow W b v xs := by
  obtain ⟨ad, cap, rfl, hm | ⟨g, t, zs, rfl, hg, hB⟩⟩ := hm
  · exact ⟨ad, cap, rfl, .inl hm⟩
  · exact ⟨_, cap, rfl, .inr ⟨g, t, zs, rfl, hg, h.blk hB (fun hs => by have := hS g hs; omega)⟩⟩
theorem MovRow.mono {w w0 w' : World} {v : Value} {xs : List Int} (h : MovRow w w' v xs) (hb : w0.heap.size ≤ w.heap.size) : MovRow w0 w' v xs := by
  obtain ⟨ad, cap, rfl, h | ⟨g, t, zs, rfl, hg, hB⟩⟩ := h
  · exact ⟨ad, cap, rfl, .inl h⟩
  · exact ⟨_, cap, rfl, .inr ⟨g, t, zs, rfl, Nat.le_trans hb hg, hB⟩⟩
theorem ownC_below {w w' : World} {g m : Nat} (h : OwnC w g m) (hb : Below w.heap.size w w') (hg : g < w.heap.size) : OwnC w' g m := fun j hj => by
  obtain ⟨⟨u, hu⟩, hf⟩ := h j hj
  exact ⟨⟨u, (hb.cell (p := ⟨g, j, none⟩) hg).trans hu⟩, (hb.frozen (p := ⟨g, j, none⟩) hg).trans hf⟩
theorem ownC_other {w w' : World} {g g' m : Nat} (h : OwnC w g m) (hb : w.grownBy w' (some g')) (hg : g < w.heap.size) (hn : g ≠ g') : OwnC w' g m := fun j hj => by
  obtain ⟨⟨u, hu⟩, hf⟩ := h j hj
  have e := hb.block g hg (fun e => hn (by cases e; rfl))
  exact ⟨⟨u, (World.cell?_of_block (a := ⟨g, j, none⟩) e).trans hu⟩, (World.frozen?_of_block (a := ⟨g, j, none⟩) e).trans hf⟩
set_option maxHeartbeats 2000000 in
theorem markPats (g cap n z : Nat) (w : World) (hn : n ≤ 1048576) (hz : z ≤ 20000000) (ho : OwnC w g (n * 3)) :
    Calls Tryz.prog 52 #[.slice (some ⟨g, 0, none⟩) n cap, .int .i64 (z : Int)] w fun e w' => e = .returned (.int .i64 ((z + n * 3 : Nat) : Int)) ∧ w.grownBy w' (some g) ∧ OwnC w' g (n * 3) := by
  have HO := hideP ho
  clear ho
  go_enter Tryz.func52, Tryz.ntmps52
  go_wp2
  go_loopw [1, 5] (fun t i wr => ∃ k : Nat, k ≤ n ∧ i = .int .i64 (k : Int) ∧ t = .int .i64 ((z + k * 3 : Nat) : Int) ∧ w.grownBy wr (some g) ∧ OwnC wr g (n * 3)) (fun _ i _ => n - (intOf i).toNat)
  case atStart => exact ⟨0, Nat.zero_le _, rfl, rfl, ⟨rfl, rfl, rfl, Nat.le_refl _, fun _ _ _ => rfl⟩, HO.out⟩
  case round =>
    obtain ⟨k, hk, rfl, rfl, hG, hOw⟩ := hrel
    have HG := hideP hG
    have HW := hideP hOw
    clear hG hOw
    by_cases hlt : k < n
    · obtain ⟨⟨u0, h0⟩, f0⟩ := HW.out (k * 3) (by omega)
      obtain ⟨⟨u1, h1⟩, f1⟩ := HW.out (k * 3 + 1) (by omega)
      obtain ⟨⟨u2, h2⟩, f2⟩ := HW.out (k * 3 + 2) (by omega)
      go_wp2
      exact ⟨⟨k + 1, by omega, by go_num, by apply congrArg (Value.int .i64); omega, grown_two HG.out (grown_two (grown_two (grown_set _ _ _ _) (grown_set _ _ _ _)) (grown_set _ _ _ _)), ownC_set (ownC_set (ownC_set HW.out _ _) _ _) _ _⟩, by simp [intOf]; omega⟩
    · have hkn : k = n := by omega
      subst hkn
      go_wp2
      go_ret
      exact ⟨rfl, HG.out, HW.out⟩
set_option maxHeartbeats 2000000 in
theorem markRgnz (g cap n z : Nat) (w : World) (hn : n ≤ 1048576) (hz0 : 0 < z) (hz : z ≤ 20000000) (hg : g < w.heap.size) (ho : OwnC w g (n * 3)) :
    Calls Tryz.prog 53 #[.slice (some ⟨g, 0, none⟩) n cap, .int .i64 (z : Int)] w fun e w' => e = .returned (.int .i64 ((z + n * 3 : Nat) : Int)) ∧ w.grownBy w' (some g) := by
  have HO := hideP ho
  clear ho
  go_enter Tryz.func53, Tryz.ntmps53
  go_wp2
  go_loopw [1, 5] (fun t i wr => ∃ k : Nat, k ≤ n ∧ i = .int .i64 (k : Int) ∧ t = .int .i64 ((z + k * 3 : Nat) : Int) ∧ w.grownBy wr (some g) ∧ OwnC wr g (n * 3)) (fun _ i _ => n - (intOf i).toNat)
  case atStart => exact ⟨0, Nat.zero_le _, rfl, rfl, ⟨rfl, rfl, rfl, Nat.le_refl _, fun _ _ _ => rfl⟩, HO.out⟩
  case round =>
    obtain ⟨k, hk, rfl, rfl, hG, hOw⟩ := hrel
    have HG := hideP hG
    have HW := hideP hOw
    clear hG hOw
    by_cases hlt : k < n
    · go_wp2_with fail
      rw [show ((z : Int) + (k : Int) * 3) = ((z + k * 3 : Nat) : Int) from by omega]
      refine (markText (z + k * 3) _ (by omega) (by omega)).mono ?_
      rintro e w2 ⟨rfl, hb2⟩
      have hgw : g < wr.heap.size := Nat.lt_of_lt_of_le hg HG.out.size
      have hO2 := ownC_below HW.out hb2 hgw
      have HO2 := hideP hO2
      obtain ⟨⟨u0, h0⟩, f0⟩ := hO2 (k * 3) (by omega)
      obtain ⟨⟨u1, h1⟩, f1⟩ := hO2 (k * 3 + 1) (by omega)
      obtain ⟨⟨u2, h2⟩, f2⟩ := hO2 (k * 3 + 2) (by omega)
      have HG2 : Hid (w.grownBy w2 (some g)) := grown_two HG.out ⟨hb2.os, hb2.tape, hb2.output, hb2.size, fun j hj _ => hb2.block j hj⟩
      clear hO2 hb2
      go_wp2
      exact ⟨⟨k + 1, by omega, by go_num, by apply congrArg (Value.int .i64); omega, grown_two HG2.out (grown_two (grown_two (grown_set _ _ _ _) (grown_set _ _ _ _)) (grown_set _ _ _ _)), ownC_set (ownC_set (ownC_set HO2.out _ _) _ _) _ _⟩, by simp [intOf]; omega⟩
    · have hkn : k = n := by omega
      subst hkn
      go_wp2
      go_ret
      exact ⟨rfl, HG.out⟩
theorem ownC_any {w w' : World} {g g' m m' : Nat} (h : OwnC w g m) (hb : w.grownBy w' (some g')) (hg : g < w.heap.size) (ho : OwnC w' g' m') (he : g = g' → m ≤ m') : OwnC w' g m := by
  by_cases e : g = g'
  · have := he e
    subst e
    exact fun j hj => ho j (by omega)
  · exact ownC_other h hb hg e
set_option maxHeartbeats 2000000 in
theorem markRegime0 (nm : ByteArray) (f t ru : Int) (s1 s3 s5 n1 n2 n3 : Nat) (w : World) (hn1 : n1 ≤ 1048576) (hn2 : n2 ≤ 1048576) (hn3 : n3 ≤ 1048576) (b1 : s1 < w.heap.size) (b3 : s3 < w.heap.size) (b5 : s5 < w.heap.size) (o1 : OwnC w s1 (n1 * 5)) (o3 : OwnC w s3 (n2 * 3)) (o5 : OwnC w s5 (n3 * 3)) (e31 : s3 = s1 → n2 * 3 ≤ n1 * 5) (e51 : s5 = s1 → n3 * 3 ≤ n1 * 5) (e53 : s5 = s3 → n3 * 3 ≤ n2 * 3) :
    Calls Tryz.prog 17 #[.agg #[.string nm, .int .i64 f, .int .i64 t, .slice (some ⟨s1, 0, none⟩) n1 n1, .slice (some ⟨s3, 0, none⟩) n2 n2, .slice (some ⟨s5, 0, none⟩) n3 n3, .int .i64 ru], .int .i64 1] w fun e w' => ∃ z : Nat, e = .returned (.int .i64 (z : Int)) ∧ Kp (fun k => k = s1 ∨ k = s3 ∨ k = s5) w w' := by
  obtain ⟨W0, hW0, d0, d1, d2, d3, d4, d5, d6, hBl⟩ := seven_box w (.string nm) (.int .i64 f) (.int .i64 t) (.slice (some ⟨s1, 0, none⟩) n1 n1) (.slice (some ⟨s3, 0, none⟩) n2 n2) (.slice (some ⟨s5, 0, none⟩) n3 n3) (.int .i64 ru) 40
  have hb0 := hBl ⟨W0, Below.refl _ _⟩
  have hz0 : w.heap.size < W0.heap.size := by rw [hW0]; simp
  have hs0 := hb0.size
  have c4 : W0.cell? ⟨w.heap.size, 4, none⟩ = some (.slice (some ⟨s3, 0, none⟩) n2 n2) := d4 ⟨W0, Below.refl _ _⟩
  have c5 : W0.cell? ⟨w.heap.size, 5, none⟩ = some (.slice (some ⟨s5, 0, none⟩) n3 n3) := d5 ⟨W0, Below.refl _ _⟩
  have K1 := hideP (markSegs s1 n1 n1 W0 hn1 (ownC_below o1 hb0 b1))
  have O3 := hideP (ownC_below o3 hb0 b3)
  have O5 := hideP (ownC_below o5 hb0 b5)
  have P0 : Hid (Kp (fun k => k = s1 ∨ k = s3 ∨ k = s5) w W0) := (Kp.refl _ w).later hb0
  have HW0 := hideP hW0
  have HC4 := hideP c4
  have HC5 := hideP c5
  clear hW0 d0 d1 d2 d3 d4 d5 d6 hBl hb0 o1 o3 o5 c4 c5
  go_enter Tryz.func17, Tryz.ntmps17
  go_wp2_with fail
  rw [← HW0.out]
  refine K1.out.mono ?_
  rintro e w1 ⟨rfl, hM⟩
  have G1 := hideP hM.grown
  have P1 := hideP (P0.out.grown G1.out (.inl rfl))
  have c4 : w1.cell? ⟨w.heap.size, 4, none⟩ = some (.slice (some ⟨s3, 0, none⟩) n2 n2) := (World.cell?_of_block (a := ⟨w.heap.size, 4, none⟩) (G1.out.block w.heap.size hz0 (fun e => by cases e; omega))).trans HC4.out
  have HC5' : Hid (w1.cell? ⟨w.heap.size, 5, none⟩ = some (.slice (some ⟨s5, 0, none⟩) n3 n3)) := (World.cell?_of_block (a := ⟨w.heap.size, 5, none⟩) (G1.out.block w.heap.size hz0 (fun e => by cases e; omega))).trans HC5.out
  have K3 := hideP (markPats s3 n2 n2 (n1 * 5 + 1) w1 hn2 (by omega) (ownC_any O3.out G1.out (by omega) hM.own e31))
  have O5' := hideP (ownC_any O5.out G1.out (by omega) hM.own e51)
  have hs1 := G1.out.size
  clear hM
  go_wp2_with fail
  rw [show ((n1 : Int) * 5 + 1) = ((n1 * 5 + 1 : Nat) : Int) from by omega]
  refine K3.out.mono ?_
  rintro e w2 ⟨rfl, g2, g4⟩
  have G2 := hideP g2
  have P2 := hideP (P1.out.grown G2.out (.inr (.inl rfl)))
  have c5 : w2.cell? ⟨w.heap.size, 5, none⟩ = some (.slice (some ⟨s5, 0, none⟩) n3 n3) := (World.cell?_of_block (a := ⟨w.heap.size, 5, none⟩) (G2.out.block w.heap.size (by omega) (fun e => by cases e; omega))).trans HC5'.out
  have hs2 := G2.out.size
  have K5 := hideP (markRgnz s5 n3 n3 (n1 * 5 + 1 + n2 * 3) w2 hn3 (by omega) (by omega) (by omega) (ownC_any O5'.out G2.out (by omega) g4 e53))
  clear g2 g4 c4
  go_wp2_with fail
  first | refine K5.out.mono ?_ | (rw [show ((n1 : Int) * 5 + 1 + (n2 : Int) * 3) = ((n1 * 5 + 1 + n2 * 3 : Nat) : Int) from by omega]; refine K5.out.mono ?_)
  rintro e w3 ⟨rfl, g3⟩
  have P3 := hideP (P2.out.grown g3 (.inr (.inr rfl)))
  clear g3
  go_wp2_with fail
  go_ret
  exact ⟨n1 * 5 + 1 + n2 * 3 + n3 * 3, rfl, P3.out⟩
theorem blk_size {w : World} {g : Nat} {cs cs' : Array Value} {t t' : TypeId} (h : Blk w g cs t) (h' : Blk w g cs' t') : cs.size = cs'.size := by
  have e := Option.some.inj (Eq.trans (Eq.symm h) h')
  injection e with e1
  rw [e1]
theorem markRegime (r : Rgm) (s1 s3 s5 : Nat) (t1 t3 t5 : TypeId) (w : World) (ho : GOk r) (k1 : Blk w s1 (iA segK r.segs) t1) (k3 : Blk w s3 (iA patK r.pats) t3) (k5 : Blk w s5 (rA r.rgns) t5) :
    Calls Tryz.prog 17 #[.agg #[.string r.name, .int .i64 r.fr, .int .i64 r.to, .slice (some ⟨s1, 0, none⟩) r.segs.length r.segs.length, .slice (some ⟨s3, 0, none⟩) r.pats.length r.pats.length, .slice (some ⟨s5, 0, none⟩) r.rgns.length r.rgns.length, .int .i64 r.rule], .int .i64 1] w fun e w' => ∃ z : Nat, e = .returned (.int .i64 (z : Int)) ∧ Kp (fun k => k = s1 ∨ k = s3 ∨ k = s5) w w' := by
  have z1 : (iA segK r.segs).size = r.segs.length * 5 := iA_size _
  have z3 : (iA patK r.pats).size = r.pats.length * 3 := iA_size _
  have z5 := rA_size r.rgns
  refine markRegime0 _ _ _ _ s1 s3 s5 _ _ _ w ho.2.1 ho.2.2.1 ?_ k1.lt k3.lt k5.lt (ownC_of k1 (by omega)) (ownC_of k3 (by omega)) (ownC_of k5 (by omega)) (fun e => ?_) (fun e => ?_) (fun e => ?_)
  · exact ho.2.2.2.1
  · subst e; have := blk_size k1 k3; omega
  · subst e; have := blk_size k1 k5; omega
  · subst e; have := blk_size k3 k5; omega
end Go.Proofs.YtdgolaaheakfoaaGreatDoor.ctr
namespace Go.Proofs.YtdgolaaheakfoaaGreatDoor.ctr
open Go.RowKit
structure Qd where
  a : Int
  b : Int
  c : Int
  d : Int
deriving DecidableEq
def qdK : IK Qd where
  m := 4
  iv := fun s => [s.a, s.b, s.c, s.d]
  ofI := fun zs => ⟨zs.getD 0 0, zs.getD 1 0, zs.getD 2 0, zs.getD 3 0⟩
  d := ⟨0, 0, 0, 0⟩
  len := fun _ => rfl
  back := fun zs h => by
    match zs, h with
    | [_, _, _, _], _ => rfl
abbrev qdV (x : Qd) : Value := .agg #[.int .i64 x.a, .int .i64 x.b, .int .i64 x.c, .int .i64 x.d]
theorem icells_join {α : Type} {K : IK α} : ∀ l m : List α, icells K (l ++ m) = icells K l ++ icells K m
  | [], m => rfl
  | a :: l, m => by rw [List.cons_append, icells, icells, icells_join l m, List.append_assoc]
theorem IAt.quad {w : World} {g k : Nat} {x : Qd} (h : IAt qdK w g k x) : w.cell? ⟨g, k * 4, none⟩ = some (.int .i64 x.a) ∧ w.cell? ⟨g, k * 4 + 1, none⟩ = some (.int .i64 x.b) ∧ w.cell? ⟨g, k * 4 + 2, none⟩ = some (.int .i64 x.c) ∧ w.cell? ⟨g, k * 4 + 3, none⟩ = some (.int .i64 x.d) :=
  ⟨h 0 _ rfl, h 1 _ rfl, h 2 _ rfl, h 3 _ rfl⟩
def QRow (w : World) (v : Value) (xs : List Qd) : Prop := ∃ ad cap, v = .slice ad xs.length cap ∧ ∀ k, k < xs.length → ∃ g, ad = some ⟨g, 0, none⟩ ∧ g < w.heap.size ∧ IAt qdK w g k (atK qdK xs k)
theorem QRow.below {w w' : World} {v : Value} {xs : List Qd} (h : QRow w v xs) (hb : Below w.heap.size w w') : QRow w' v xs := by
  obtain ⟨ad, cap, rfl, h⟩ := h
  exact ⟨ad, cap, rfl, fun k hk => by
    obtain ⟨g, e, hg, hc⟩ := h k hk
    exact ⟨g, e, Nat.lt_of_lt_of_le hg hb.size, hc.below hb hg⟩⟩
def QMov (w w' : World) (v : Value) (xs : List Qd) : Prop := ∃ ad cap, v = .slice ad xs.length cap ∧ (xs = [] ∨ ∃ g t rs, ad = some ⟨g, 0, none⟩ ∧ w.heap.size ≤ g ∧ Blk w' g (iA qdK xs ++ rs) t)
theorem qmov_nil {w w' : World} (ad : Option Addr) (cap : Nat) : QMov w w' (.slice ad 0 cap) [] := ⟨ad, cap, rfl, .inl rfl⟩
theorem QMov.below {w w' w'' : World} {v : Value} {xs : List Qd} (h : QMov w w' v xs) (hb : Below w'.heap.size w' w'') : QMov w w'' v xs := by
  obtain ⟨ad, cap, rfl, h | ⟨g, t, zs, rfl, hg, hB⟩⟩ := h
  · exact ⟨ad, cap, rfl, .inl h⟩
  · exact ⟨_, cap, rfl, .inr ⟨g, t, zs, rfl, hg, hB.below hb hB.lt⟩⟩
theorem QMov.mono {w w0 w' : World} {v : Value} {xs : List Qd} (h : QMov w w' v xs) (hb : w0.heap.size ≤ w.heap.size) : QMov w0 w' v xs := by
  obtain ⟨ad, cap, rfl, h | ⟨g, t, zs, rfl, hg, hB⟩⟩ := h
  · exact ⟨ad, cap, rfl, .inl h⟩
  · exact ⟨_, cap, rfl, .inr ⟨g, t, zs, rfl, Nat.le_trans hb hg, hB⟩⟩
theorem Kp.qmov {S : Nat → Prop} {W a b : World} {v : Value} {xs : List Qd} (h : Kp S a b) (hm : QMov W a v xs) (hS : ∀ k, S k → k < W.heap.size) : QMov W b v xs := by
  obtain ⟨ad, cap, rfl, hm | ⟨g, t, zs, rfl, hg, hB⟩⟩ := hm
  · exact ⟨ad, cap, rfl, .inl hm⟩
  · exact ⟨_, cap, rfl, .inr ⟨g, t, zs, rfl, hg, h.blk hB (fun hs => by have := hS g hs; omega)⟩⟩
theorem QMov.row {w w' : World} {v : Value} {xs : List Qd} (h : QMov w w' v xs) : QRow w' v xs := by
  obtain ⟨ad, cap, rfl, h | ⟨g, t, zs, rfl, _, hb⟩⟩ := h
  · subst h
    exact ⟨ad, cap, rfl, fun j hj => by simp at hj⟩
  · exact ⟨_, cap, rfl, fun k hk => ⟨g, rfl, hb.lt, fun j z e => by
      have hj : j < 4 := by have := (List.getElem?_eq_some_iff.1 e).1; simpa [qdK] using this
      refine hb.cell _ ?_
      rw [Array.getElem?_append_left (by rw [iA_size]; show k * 4 + j < xs.length * 4; omega)]
      exact iA_at j hk e⟩⟩
structure QSt (ty : TypeId) (w : World) (o : Value) (xs : List Qd) (W : World) : Prop where
  row : W.ownsRow w.heap.size ty 4 o xs.length (icells qdK xs)
  below : Below w.heap.size w W
theorem QSt.nil (ty : TypeId) (w : World) : QSt ty w (.slice none 0 0) [] w := ⟨World.ownsRow_nil _ _ _ _, Below.refl _ _⟩
theorem QSt.empty (ty : TypeId) (w : World) : QSt ty w (.slice (some ⟨w.heap.size, 0, none⟩) 0 0) [] (w.alloc (.cells #[] ty)) :=
  ⟨⟨rfl, .inr ⟨w.heap.size, 0, #[], rfl, Nat.le_refl _, by simp [World.alloc, -World.alloc_eq], Nat.le_refl _, Nat.zero_le _, rfl, rfl⟩⟩, (Below.refl _ _).alloc (Nat.le_refl _) _⟩
theorem QSt.later {ty : TypeId} {w : World} {o : Value} {xs : List Qd} {W W' : World} (h : QSt ty w o xs W) (hb : Below W.heap.size W W') : QSt ty w o xs W' := ⟨iown_later h.row hb, h.below.trans (hb.mono h.below.size)⟩
theorem QSt.app {ty : TypeId} {w : World} {o o' : Value} {xs : List Qd} {W W' : World} {ob : Obj} (h : QSt ty w o xs W) (x : Qd) (hr : W'.ownsRow w.heap.size ty 4 o' (xs.length + 1) (icells qdK xs ++ [.int .i64 x.a, .int .i64 x.b, .int .i64 x.c, .int .i64 x.d])) (hg : (W.alloc ob).grownBy W' o.ownBlock) : QSt ty w o' (xs ++ [x]) W' := by
  refine ⟨?_, (h.below.alloc h.below.size ob).grown hg (by have := h.below.size; rw [inew]; omega) (ibase h.row)⟩
  rw [List.length_append, icells_join]
  exact hr
theorem QSt.done {ty : TypeId} {w w0 W : World} {o : Value} {xs : List Qd} (h : QSt ty w o xs W) (hb : Below w0.heap.size w0 w) : QMov w0 W o xs ∧ Below w0.heap.size w0 W := by
  refine ⟨?_, hb.trans (h.below.mono hb.size)⟩
  rcases h.row.2 with ⟨hv, h0⟩ | ⟨g, cap, cur, hv, hg, hh, hcap, _, hsz, htake⟩
  · subst hv
    exact ⟨none, 0, by rw [h0], .inl (List.length_eq_zero_iff.1 h0)⟩
  · subst hv
    refine ⟨_, cap, rfl, .inr ⟨g, ty, (cur.toList.drop (xs.length * 4)).toArray, rfl, Nat.le_trans hb.size hg, ?_⟩⟩
    have e1 : cur = iA qdK xs ++ (cur.toList.drop (xs.length * 4)).toArray := by
      apply Array.toList_inj.1
      rw [Array.toList_append]
      show cur.toList = icells qdK xs ++ cur.toList.drop (xs.length * 4)
      rw [← htake]
      simp
    unfold Blk
    rw [← e1]
    exact hh
theorem cells_quad (W : World) (a b c d : Value) (t : TypeId) {n : Nat} (hn : n = W.heap.size) : ∀ (j : Nat) (u : Value), [a, b, c, d][j]? = some u → (W.alloc (.cells #[a, b, c, d] t)).cell? ((⟨n, 0, none⟩ : Addr).add j) = some u := by
  intro j u h
  subst hn
  have ha : (⟨W.heap.size, 0, none⟩ : Addr).add j = ⟨W.heap.size, j, none⟩ := by unfold Addr.add; split <;> simp_all
  rw [ha]
  match j, h with
  | 0, h => simpa [World.alloc, World.cell?, -World.alloc_eq] using h
  | 1, h => simpa [World.alloc, World.cell?, -World.alloc_eq] using h
  | 2, h => simpa [World.alloc, World.cell?, -World.alloc_eq] using h
  | 3, h => simpa [World.alloc, World.cell?, -World.alloc_eq] using h
  | j + 4, h => simp at h
def QMark (w : World) (v : Value) (n : Nat) : Prop := ∃ ad cap, v = .slice ad n cap ∧ ∀ j, j < n * 4 → ∃ g, ad = some ⟨g, 0, none⟩ ∧ g < w.heap.size ∧ w.cell? ⟨g, j, none⟩ = some (.int .i64 ((1 + j : Nat) : Int))
theorem QMark.below {w w' : World} {v : Value} {n : Nat} (h : QMark w v n) (hb : Below w.heap.size w w') : QMark w' v n := by
  obtain ⟨ad, cap, rfl, h⟩ := h
  exact ⟨ad, cap, rfl, fun j hj => by
    obtain ⟨g, e, hg, hc⟩ := h j hj
    exact ⟨g, e, Nat.lt_of_lt_of_le hg hb.size, (hb.cell (p := ⟨g, j, none⟩) hg).trans hc⟩⟩
structure QMst (w : World) (g n k : Nat) (wr : World) : Prop where
  own : OwnC wr g (n * 4)
  mark : MarkC wr g k
  grown : w.grownBy wr (some g)
theorem QMst.put {w wr : World} {g n k : Nat} (h : QMst w g n k wr) (hk : k < n * 4) : QMst w g n (k + 1) (wr.setCell ⟨g, k, none⟩ (.int .i64 ((1 + k : Nat) : Int))) :=
  ⟨ownC_set h.own _ _, markC_set h.mark h.own hk, grown_two h.grown (grown_set _ _ _ _)⟩
theorem QMst.four {w wr : World} {g n k : Nat} (h : QMst w g n (k * 4) wr) (hk : k < n) : QMst w g n ((k + 1) * 4) ((((wr.setCell ⟨g, k * 4, none⟩ (.int .i64 ((k : Int) * 4 + 1))).setCell ⟨g, k * 4 + 1, none⟩ (.int .i64 ((k : Int) * 4 + 1 + 1))).setCell ⟨g, k * 4 + 2, none⟩ (.int .i64 ((k : Int) * 4 + 1 + 1 + 1))).setCell ⟨g, k * 4 + 3, none⟩ (.int .i64 ((k : Int) * 4 + 1 + 1 + 1 + 1))) := by
  have h5 := (((h.put (by omega)).put (by omega)).put (by omega)).put (by omega)
  rw [show (k + 1) * 4 = k * 4 + 1 + 1 + 1 + 1 by omega]
  have a0 : ((1 + (k * 4) : Nat) : Int) = (k : Int) * 4 + 1 := by omega
  have a1 : ((1 + (k * 4 + 1) : Nat) : Int) = (k : Int) * 4 + 1 + 1 := by omega
  have a2 : ((1 + (k * 4 + 1 + 1) : Nat) : Int) = (k : Int) * 4 + 1 + 1 + 1 := by omega
  have a3 : ((1 + (k * 4 + 1 + 1 + 1) : Nat) : Int) = (k : Int) * 4 + 1 + 1 + 1 + 1 := by omega
  rw [a0, a1, a2, a3] at h5
  exact h5
end Go.Proofs.YtdgolaaheakfoaaGreatDoor.ctr
namespace Go.Proofs.YtdgolaaheakfoaaGreatDoor.ctr
open Go.RowKit
theorem fourQ {W : World} {b : Nat} {v0 v1 v2 v3 : Value} {t : TypeId} (h : ∀ x : Later W, Blk x.w b #[v0, v1, v2, v3] t) : (∀ x : Later W, x.w.cell? ⟨b, 0, none⟩ = some v0) ∧ (∀ x : Later W, x.w.cell? ⟨b, 1, none⟩ = some v1) ∧ (∀ x : Later W, x.w.cell? ⟨b, 2, none⟩ = some v2) ∧ ∀ x : Later W, x.w.cell? ⟨b, 3, none⟩ = some v3 :=
  ⟨fun x => (h x).cell 0 rfl, fun x => (h x).cell 1 rfl, fun x => (h x).cell 2 rfl, fun x => (h x).cell 3 rfl⟩
theorem info_date : (Tryz.prog.info? 92).map (fun i => (i.zero, i.size, i.bytes)) = some (some (.agg #[.int .i64 0, .int .i64 0, .int .i64 0, .int .i64 0]), 4, 32) := by kernel_rfl
noncomputable def dateQ (c n : Int) : Qd := ⟨(dateOf c n).1, (dateOf c n).2.1, (dateOf c n).2.2.1, (dateOf c n).2.2.2.1⟩
def lostN (E B : Int) : Nat := min 40 (B - E - 1).toNat
noncomputable def datesL (c E : Int) (k : Nat) : List Qd := (List.range k).map fun (j : Nat) => dateQ c (E + 1 + (j : Int))
theorem datesL_len (c E : Int) (k : Nat) : (datesL c E k).length = k := by simp [datesL]
theorem datesL_next (c E : Int) (k : Nat) : datesL c E (k + 1) = datesL c E k ++ [dateQ c (E + 1 + (k : Int))] := by simp [datesL, List.range_succ]
noncomputable def lostL (r : Rgm) (i : Int) : List Qd :=
  if (regimeB r = true ∧ 1 ≤ i ∧ i < (r.segs.length : Int)) ∧ dateOk (rdgOn r (atK segK r.segs i.toNat).fr).cal (rdgOn r ((atK segK r.segs i.toNat).fr - 1)).sol (rdgOn r ((atK segK r.segs i.toNat).fr - 1)).mon (rdgOn r ((atK segK r.segs i.toNat).fr - 1)).day = true ∧
      dateOk (rdgOn r (atK segK r.segs i.toNat).fr).cal (rdgOn r (atK segK r.segs i.toNat).fr).sol (rdgOn r (atK segK r.segs i.toNat).fr).mon (rdgOn r (atK segK r.segs i.toNat).fr).day = true then
    datesL (rdgOn r (atK segK r.segs i.toNat).fr).cal (dayOf (rdgOn r (atK segK r.segs i.toNat).fr).cal (rdgOn r ((atK segK r.segs i.toNat).fr - 1)).sol (rdgOn r ((atK segK r.segs i.toNat).fr - 1)).mon (rdgOn r ((atK segK r.segs i.toNat).fr - 1)).day)
      (lostN (dayOf (rdgOn r (atK segK r.segs i.toNat).fr).cal (rdgOn r ((atK segK r.segs i.toNat).fr - 1)).sol (rdgOn r ((atK segK r.segs i.toNat).fr - 1)).mon (rdgOn r ((atK segK r.segs i.toNat).fr - 1)).day) (dayOf (rdgOn r (atK segK r.segs i.toNat).fr).cal (rdgOn r (atK segK r.segs i.toNat).fr).sol (rdgOn r (atK segK r.segs i.toNat).fr).mon (rdgOn r (atK segK r.segs i.toNat).fr).day))
  else []
theorem lost_no {r : Rgm} {i : Int} (h : ¬ (regimeB r = true ∧ 1 ≤ i ∧ i < (r.segs.length : Int))) : lostL r i = [] := by unfold lostL; rw [if_neg (fun k => h k.1)]
theorem lost_len (r : Rgm) (i : Int) : (lostL r i).length ≤ 40 := by
  unfold lostL
  split
  · rw [datesL_len]; unfold lostN; omega
  · simp
theorem begin_in {r : Rgm} (h : regimeB r = true) {k : Nat} (h1 : 1 ≤ k) (hk : k < r.segs.length) : r.fr ≤ (atK segK r.segs k).fr - 1 ∧ (atK segK r.segs k).fr ≤ r.to ∧ 400 ≤ (atK segK r.segs k).fr ∧ (atK segK r.segs k).fr ≤ 1090000 := by
  obtain ⟨j, rfl⟩ : ∃ j, k = j + 1 := ⟨k - 1, by omega⟩
  have a := right_apart h hk
  have b := right_seg h (k := j) (by omega)
  have c := right_seg h hk
  have b2 := segOk_nums b.1
  have c2 := segOk_nums c.1
  omega
set_option maxRecDepth 100000 in
set_option maxHeartbeats 4000000 in
theorem implDatesBetween (c y1 m1 d1 c2 y2 m2 d2 : Int) (w : World) (hT : Tab w) : Calls Tryz.prog 61 #[.agg #[.int .i64 c, .int .i64 y1, .int .i64 m1, .int .i64 d1], .agg #[.int .i64 c2, .int .i64 y2, .int .i64 m2, .int .i64 d2]] w fun e w' => ∃ o, e = .returned o ∧ QMov w w' o (datesL c (dayOf c y1 m1 d1) (lostN (dayOf c y1 m1 d1) (dayOf c2 y2 m2 d2))) ∧ Below w.heap.size w w' := by
  obtain ⟨i0, hi, hz0, hz1, hz2⟩ := info_parts info_date
  obtain ⟨W0, hW0, hD', hR', hB'⟩ := boxR w #[.int .i64 c, .int .i64 y1, .int .i64 m1, .int .i64 d1] 92 #[.int .i64 c2, .int .i64 y2, .int .i64 m2, .int .i64 d2] 92
  have hD := hD'.out
  have hR := hR'.out
  have hBl := hB'.out
  clear hD' hR' hB'
  obtain ⟨p0, p1, p2, p3⟩ := fourQ hD
  obtain ⟨q0, q1, q2, q3⟩ := fourQ hR
  have KE : Hid (∀ x : Later W0, Calls Tryz.prog 110 #[.agg #[.int .i64 c, .int .i64 y1, .int .i64 m1, .int .i64 d1]] x.w fun e w' => e = .returned (.int .i64 (dayOf c y1 m1 d1)) ∧ Below x.w.heap.size x.w w') := fun x => implDayOf c y1 m1 d1 x.w (hT.later (hBl x))
  have KB : Hid (∀ x : Later W0, Calls Tryz.prog 110 #[.agg #[.int .i64 c2, .int .i64 y2, .int .i64 m2, .int .i64 d2]] x.w fun e w' => e = .returned (.int .i64 (dayOf c2 y2 m2 d2)) ∧ Below x.w.heap.size x.w w') := fun x => implDayOf c2 y2 m2 d2 x.w (hT.later (hBl x))
  have KD : Hid (∀ n, ∀ x : Later W0, Calls Tryz.prog 96 #[.int .i64 c, .int .i64 n] x.w fun e w' => e = .returned (.tuple #[qdV (dateQ c n), .bool (dateOf c n).2.2.2.2]) ∧ Below x.w.heap.size x.w w') := fun n x => implDateOf c n x.w (hT.later (hBl x))
  have e1 := dayOf_bound c y1 m1 d1
  have e2 := dayOf_bound c2 y2 m2 d2
  have HB0 := hideP (hBl ⟨W0, Below.refl _ _⟩)
  have HW0 := hideP hW0
  generalize dayOf c y1 m1 d1 = E at *
  generalize dayOf c2 y2 m2 d2 = B at *
  clear hT hW0 hD hR hBl
  go_enter Tryz.func61, Tryz.ntmps61
  go_wp2_with fail
  rw [← HW0.out]
  refine (KE.out ⟨W0, Below.refl _ _⟩).mono ?_
  rintro e w1 ⟨rfl, hb⟩
  obtain ⟨x1, rfl⟩ := Later.of hb
  clear hb KE
  go_wp2_with fail
  go_loopw [5, 7, 8, 9] (fun o i _ _ wr => ∃ k : Nat, k ≤ lostN E B ∧ i = .int .i64 (E + 1 + (k : Int)) ∧ QSt 92 x1.w o (datesL c E k) wr) (fun _ i _ _ _ => (E + 41 - intOf i).toNat)
  case atStart => exact ⟨0, Nat.zero_le _, by simp, QSt.nil _ _⟩
  case round =>
    obtain ⟨k, hk, rfl, hS⟩ := hrel
    have S := hideP hS
    clear hS
    have hkk := hk
    unfold lostN at hkk
    have hln := datesL_len c E k
    have K := KB.out ⟨wr, x1.below.trans (S.out.below.mono x1.below.size)⟩
    have b0 := q0 ⟨wr, x1.below.trans (S.out.below.mono x1.below.size)⟩
    have b1 := q1 ⟨wr, x1.below.trans (S.out.below.mono x1.below.size)⟩
    have b2 := q2 ⟨wr, x1.below.trans (S.out.below.mono x1.below.size)⟩
    have b3 := q3 ⟨wr, x1.below.trans (S.out.below.mono x1.below.size)⟩
    dsimp only at K b0 b1 b2 b3
    by_cases h1 : E + 1 + (k : Int) < B
    case neg =>
      have hd1 : decide (E + 1 + (k : Int) < B) = false := decide_eq_false h1
      have hkN : k = lostN E B := by unfold lostN; omega
      go_wp2_with fail
      refine K.mono ?_
      rintro e w2 ⟨rfl, hb⟩
      have S2 := hideP (S.out.later hb)
      clear hb
      go_wp2
      go_ret
      rw [← hkN]
      exact ⟨_, rfl, S2.out.done (HB0.out.trans (x1.below.mono HB0.out.size))⟩
    have hd1 : decide (E + 1 + (k : Int) < B) = true := decide_eq_true h1
    by_cases h2 : E + 1 + (k : Int) ≤ E + 40
    case neg =>
      have hd2 : decide (E + 1 + (k : Int) ≤ E + 40) = false := decide_eq_false h2
      have hkN : k = lostN E B := by unfold lostN; omega
      go_wp2_with fail
      refine K.mono ?_
      rintro e w2 ⟨rfl, hb⟩
      have S2 := hideP (S.out.later hb)
      clear hb
      go_wp2
      go_ret
      rw [← hkN]
      exact ⟨_, rfl, S2.out.done (HB0.out.trans (x1.below.mono HB0.out.size))⟩
    have hd2 : decide (E + 1 + (k : Int) ≤ E + 40) = true := decide_eq_true h2
    have HN : Hid (k + 1 ≤ lostN E B) := by unfold Hid lostN; omega
    have HX := hideP (datesL_next c E k)
    go_wp2_with fail
    refine K.mono ?_
    rintro e w2 ⟨rfl, hb⟩
    have S2 := hideP (S.out.later hb)
    clear hb K b0 b1 b2 b3 S
    have KD1 := KD.out (E + 1 + (k : Int)) ⟨w2, x1.below.trans (S2.out.below.mono x1.below.size)⟩
    have b0 := p0 ⟨w2, x1.below.trans (S2.out.below.mono x1.below.size)⟩
    dsimp only at KD1 b0
    generalize dateQ c (E + 1 + (k : Int)) = x at *
    generalize (dateOf c (E + 1 + (k : Int))).2.2.2.2 = ok at *
    go_wp2_with fail
    refine KD1.mono ?_
    rintro e w3 ⟨rfl, hb⟩
    have S3 := hideP (S2.out.later hb)
    clear hb KD1 b0 S2
    have S4 := hideP (S3.out.later ((Below.refl _ w3).alloc (Nat.le_refl _) (.cells #[.int .i64 x.a, .int .i64 x.b, .int .i64 x.c, .int .i64 x.d] 92)))
    go_wp2_with (at_builtin; refine wpList_append_own _ rfl _ _ 56 rfl x1.w.heap.size 92 i0 (.agg #[.int .i64 0, .int .i64 0, .int .i64 0, .int .i64 0]) 4 32 Tryz.underlying56 hi hz0 hz1 hz2 rfl (by decide) _ _ _ rfl (S4.out.row.alloc _) ⟨w3.heap.size + 1, 0, none⟩ 1 1 [.int .i64 x.a, .int .i64 x.b, .int .i64 x.c, .int .i64 x.d] rfl rfl (cells_quad _ _ _ _ _ _ (inew _ _).symm) (by simp [Value.oneCell']) (by unfold maxLen; omega) (by omega) (by have := S4.out.below.size; rw [inew]; omega) ?_; intro v' w9 hown' hgrow _)
    refine ⟨⟨k + 1, HN.out, by apply congrArg (Value.int .i64); omega, ?_⟩, by simp [intOf]; omega⟩
    rw [HX.out]
    exact S4.out.app x hown' hgrow
end Go.Proofs.YtdgolaaheakfoaaGreatDoor.ctr
