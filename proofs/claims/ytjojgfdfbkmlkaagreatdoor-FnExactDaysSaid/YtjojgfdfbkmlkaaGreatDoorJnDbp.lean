/- Contract of the laws' markRegime: marks are written into the three lists' own rows; nothing else turns. What a tied card's proof wants of the listed handle errors.errorType. What a tied card's proof wants of listed variables: two or three of them are so many data; the one row of the type that errors.New makes; the listed sentinel. What a law is told of a list of structs of ints that comes in: its ints are ints of 64 bits. From a walk in one goroutine to a row that says 'leaving', and its tied card where the call can start goroutines: where all others have ended, they are only leaving. What a law is told of a feast, and of a bool, that comes in; and the contracts of the laws' own szFeast and toFeast. What a law is told of a When and of a saying that comes in; and the contracts of the laws' own szWhen, toWhen, szSaying, toSaying. Contract of the laws' own toSaying: what comes in is handed on, field by field. -/
import Derived.Test.YtjojgfdfbkmlkaaGreatDoorJnDbo
import Derived.Test.YtjojgfdfbkmlkaaGreatDoorJnDba
import Derived.Test.YtjojgfdfbkmlkaaGreatDoorJnDbh
import Derived.Test.YtjojgfdfbkmlkaaGreatDoorJnDbf
import Derived.LaidLaws
import Derived.LaidHandle
import Derived.Test.YtjojgfdfbkmlkaaGreatDoorJnDaa
import Derived.Stop.LaidErr
import Derived.Test.YtjojgfdfbkmlkaaGreatDoorJnDaq
import Derived.Conc.Holds
import Derived.SevenTiedAt
import Derived.Leaving
import Derived.Test.YtjojgfdfbkmlkaaGreatDoorJnDaj
import Derived.Lib.SmallJoins
import Derived.Test.YtjojgfdfbkmlkaaGreatDoorJnDap
import Derived.Test.YtjojgfdfbkmlkaaGreatDoorWhnToD
namespace Go.Proofs.YtjojgfdfbkmlkaaGreatDoor.ctr
open Go.RowKit
structure Kp (S : Nat → Prop) (w w' : World) : Prop where
  os : w'.os = w.os
  tape : w'.tape = w.tape
  output : w'.output = w.output
  size : w.heap.size ≤ w'.heap.size
  block : ∀ k, k < w.heap.size → ¬ S k → w'.heap[k]? = w.heap[k]?
theorem Kp.refl (S : Nat → Prop) (w : World) : Kp S w w := ⟨rfl, rfl, rfl, Nat.le_refl _, fun _ _ _ => rfl⟩
theorem Kp.later {S : Nat → Prop} {a b c : World} (h : Kp S a b) (k : Below b.heap.size b c) : Kp S a c :=
  ⟨k.os.trans h.os, k.tape.trans h.tape, k.output.trans h.output, Nat.le_trans h.size k.size, fun i hi hs => (k.block i (Nat.lt_of_lt_of_le hi h.size)).trans (h.block i hi hs)⟩
theorem Kp.grown {S : Nat → Prop} {a b c : World} {g : Nat} (h : Kp S a b) (k : b.grownBy c (some g)) (hg : S g) : Kp S a c :=
  ⟨k.os.trans h.os, k.tape.trans h.tape, k.output.trans h.output, Nat.le_trans h.size k.size, fun i hi hs => (k.block i (Nat.lt_of_lt_of_le hi h.size) (fun e => hs (by cases e; exact hg))).trans (h.block i hi hs)⟩
theorem Kp.below {S : Nat → Prop} {a b w : World} {B : Nat} (h : Kp S a b) (hb : Below B w a) (hB : B ≤ a.heap.size) (hS : ∀ k, S k → B ≤ k) : Below B w b :=
  hb.trans ⟨h.os, h.tape, h.output, h.size, fun k hk => h.block k (by omega) (fun hs => by have := hS k hs; omega)⟩
theorem Kp.blk {S : Nat → Prop} {a b : World} {g : Nat} {cs : Array Value} {t : TypeId} (h : Kp S a b) (hB : Blk a g cs t) (hS : ¬ S g) : Blk b g cs t := (h.block g hB.lt hS).trans hB
theorem Kp.mov {S : Nat → Prop} {W a b : World} {v : Value} {xs : List Int} (h : Kp S a b) (hm : MovRow W a v xs) (hS : ∀ k, S k → k < W.heap.size) : MovRow W b v xs := by
  obtain ⟨ad, cap, rfl, hm | ⟨g, t, zs, rfl, hg, hB⟩⟩ := hm
  · exact ⟨ad, cap, rfl, .inl hm⟩
  · exact ⟨_, cap, rfl, .inr ⟨g, t, zs, rfl, hg, h.blk hB (fun hs => by have := hS g hs; omega)⟩⟩
theorem MovRow.mono {w w0 w' : World} {v : Value} {xs : List Int} (h : MovRow w w' v xs) (hb : w0.heap.size ≤ w.heap.size) : MovRow w0 w' v xs := by
  obtain ⟨ad, cap, rfl, h | ⟨g, t, zs, rfl, hg, hB⟩⟩ := h
  · exact ⟨ad, cap, rfl, .inl h⟩
  · exact ⟨_, cap, rfl, .inr ⟨g, t, zs, rfl, Nat.le_trans hb hg, hB⟩⟩
theorem ownC_below {w w' : World} {g m : Nat} (h : OwnC w g m) (hb : Below w.heap.size w w') (hg : g < w.heap.size) : OwnC w' g m := fun j hj => by
  obtain ⟨⟨u, hu⟩, hf⟩ := h j hj
  exact ⟨⟨u, (hb.cell (p := ⟨g, j, none⟩) hg).trans hu⟩, (hb.frozen (p := ⟨g, j, none⟩) hg).trans hf⟩
theorem ownC_other {w w' : World} {g g' m : Nat} (h : OwnC w g m) (hb : w.grownBy w' (some g')) (hg : g < w.heap.size) (hn : g ≠ g') : OwnC w' g m := fun j hj => by
  obtain ⟨⟨u, hu⟩, hf⟩ := h j hj
  have e := hb.block g hg (fun e => hn (by cases e; rfl))
  exact ⟨⟨u, (World.cell?_of_block (a := ⟨g, j, none⟩) e).trans hu⟩, (World.frozen?_of_block (a := ⟨g, j, none⟩) e).trans hf⟩
set_option maxHeartbeats 2000000 in
theorem markPats (g cap n z : Nat) (w : World) (hn : n ≤ 1048576) (hz : z ≤ 10000000) (ho : OwnC w g (n * 3)) :
    Calls Tryz.prog 77 #[.slice (some ⟨g, 0, none⟩) n cap, .int .i64 (z : Int)] w fun e w' => e = .returned (.int .i64 ((z + n * 3 : Nat) : Int)) ∧ w.grownBy w' (some g) ∧ OwnC w' g (n * 3) := by
  have HO := hideP ho
  clear ho
  go_enter Tryz.func77, Tryz.ntmps77
  go_wp2
  go_loopw [1, 5] (fun t i wr => ∃ k : Nat, k ≤ n ∧ i = .int .i64 (k : Int) ∧ t = .int .i64 ((z + k * 3 : Nat) : Int) ∧ w.grownBy wr (some g) ∧ OwnC wr g (n * 3)) (fun _ i _ => n - (intOf i).toNat)
  case atStart => exact ⟨0, Nat.zero_le _, rfl, rfl, ⟨rfl, rfl, rfl, Nat.le_refl _, fun _ _ _ => rfl⟩, HO.out⟩
  case round =>
    obtain ⟨k, hk, rfl, rfl, hG, hOw⟩ := hrel
    have HG := hideP hG
    have HW := hideP hOw
    clear hG hOw
    by_cases hlt : k < n
    · obtain ⟨⟨u0, h0⟩, f0⟩ := HW.out (k * 3) (by omega)
      obtain ⟨⟨u1, h1⟩, f1⟩ := HW.out (k * 3 + 1) (by omega)
      obtain ⟨⟨u2, h2⟩, f2⟩ := HW.out (k * 3 + 2) (by omega)
      go_wp2
      exact ⟨⟨k + 1, by omega, by go_num, by apply congrArg (Value.int .i64); omega, grown_two HG.out (grown_two (grown_two (grown_set _ _ _ _) (grown_set _ _ _ _)) (grown_set _ _ _ _)), ownC_set (ownC_set (ownC_set HW.out _ _) _ _) _ _⟩, by simp [intOf]; omega⟩
    · have hkn : k = n := by omega
      subst hkn
      go_wp2
      go_ret
      exact ⟨rfl, HG.out, HW.out⟩
set_option maxHeartbeats 2000000 in
theorem markRgnz (g cap n z : Nat) (w : World) (hn : n ≤ 1048576) (hz0 : 0 < z) (hz : z ≤ 20000000) (hg : g < w.heap.size) (ho : OwnC w g (n * 3)) :
    Calls Tryz.prog 78 #[.slice (some ⟨g, 0, none⟩) n cap, .int .i64 (z : Int)] w fun e w' => e = .returned (.int .i64 ((z + n * 3 : Nat) : Int)) ∧ w.grownBy w' (some g) := by
  have HO := hideP ho
  clear ho
  go_enter Tryz.func78, Tryz.ntmps78
  go_wp2
  go_loopw [1, 5] (fun t i wr => ∃ k : Nat, k ≤ n ∧ i = .int .i64 (k : Int) ∧ t = .int .i64 ((z + k * 3 : Nat) : Int) ∧ w.grownBy wr (some g) ∧ OwnC wr g (n * 3)) (fun _ i _ => n - (intOf i).toNat)
  case atStart => exact ⟨0, Nat.zero_le _, rfl, rfl, ⟨rfl, rfl, rfl, Nat.le_refl _, fun _ _ _ => rfl⟩, HO.out⟩
  case round =>
    obtain ⟨k, hk, rfl, rfl, hG, hOw⟩ := hrel
    have HG := hideP hG
    have HW := hideP hOw
    clear hG hOw
    by_cases hlt : k < n
    · go_wp2_with fail
      rw [show ((z : Int) + (k : Int) * 3) = ((z + k * 3 : Nat) : Int) from by omega]
      refine (markText (z + k * 3) _ (by omega) (by omega)).mono ?_
      rintro e w2 ⟨rfl, hb2⟩
      have hgw : g < wr.heap.size := Nat.lt_of_lt_of_le hg HG.out.size
      have hO2 := ownC_below HW.out hb2 hgw
      have HO2 := hideP hO2
      obtain ⟨⟨u0, h0⟩, f0⟩ := hO2 (k * 3) (by omega)
      obtain ⟨⟨u1, h1⟩, f1⟩ := hO2 (k * 3 + 1) (by omega)
      obtain ⟨⟨u2, h2⟩, f2⟩ := hO2 (k * 3 + 2) (by omega)
      have HG2 : Hid (w.grownBy w2 (some g)) := grown_two HG.out ⟨hb2.os, hb2.tape, hb2.output, hb2.size, fun j hj _ => hb2.block j hj⟩
      clear hO2 hb2
      go_wp2
      exact ⟨⟨k + 1, by omega, by go_num, by apply congrArg (Value.int .i64); omega, grown_two HG2.out (grown_two (grown_two (grown_set _ _ _ _) (grown_set _ _ _ _)) (grown_set _ _ _ _)), ownC_set (ownC_set (ownC_set HO2.out _ _) _ _) _ _⟩, by simp [intOf]; omega⟩
    · have hkn : k = n := by omega
      subst hkn
      go_wp2
      go_ret
      exact ⟨rfl, HG.out⟩
theorem ownC_any {w w' : World} {g g' m m' : Nat} (h : OwnC w g m) (hb : w.grownBy w' (some g')) (hg : g < w.heap.size) (ho : OwnC w' g' m') (he : g = g' → m ≤ m') : OwnC w' g m := by
  by_cases e : g = g'
  · have := he e
    subst e
    exact fun j hj => ho j (by omega)
  · exact ownC_other h hb hg e
set_option maxHeartbeats 2000000 in
theorem markRegime0 (nm : ByteArray) (f t ru : Int) (s1 s3 s5 n1 n2 n3 : Nat) (w : World) (hn1 : n1 ≤ 1048576) (hn2 : n2 ≤ 1048576) (hn3 : n3 ≤ 1048576) (b1 : s1 < w.heap.size) (b3 : s3 < w.heap.size) (b5 : s5 < w.heap.size) (o1 : OwnC w s1 (n1 * 5)) (o3 : OwnC w s3 (n2 * 3)) (o5 : OwnC w s5 (n3 * 3)) (e31 : s3 = s1 → n2 * 3 ≤ n1 * 5) (e51 : s5 = s1 → n3 * 3 ≤ n1 * 5) (e53 : s5 = s3 → n3 * 3 ≤ n2 * 3) :
    Calls Tryz.prog 22 #[.agg #[.string nm, .int .i64 f, .int .i64 t, .slice (some ⟨s1, 0, none⟩) n1 n1, .slice (some ⟨s3, 0, none⟩) n2 n2, .slice (some ⟨s5, 0, none⟩) n3 n3, .int .i64 ru], .int .i64 1] w fun e w' => ∃ z : Nat, e = .returned (.int .i64 (z : Int)) ∧ Kp (fun k => k = s1 ∨ k = s3 ∨ k = s5) w w' := by
  obtain ⟨W0, hW0, d0, d1, d2, d3, d4, d5, d6, hBl⟩ := seven_box w (.string nm) (.int .i64 f) (.int .i64 t) (.slice (some ⟨s1, 0, none⟩) n1 n1) (.slice (some ⟨s3, 0, none⟩) n2 n2) (.slice (some ⟨s5, 0, none⟩) n3 n3) (.int .i64 ru) 36
  have hb0 := hBl ⟨W0, Below.refl _ _⟩
  have hz0 : w.heap.size < W0.heap.size := by rw [hW0]; simp
  have hs0 := hb0.size
  have c4 : W0.cell? ⟨w.heap.size, 4, none⟩ = some (.slice (some ⟨s3, 0, none⟩) n2 n2) := d4 ⟨W0, Below.refl _ _⟩
  have c5 : W0.cell? ⟨w.heap.size, 5, none⟩ = some (.slice (some ⟨s5, 0, none⟩) n3 n3) := d5 ⟨W0, Below.refl _ _⟩
  have K1 := hideP (markSegs s1 n1 n1 W0 hn1 (ownC_below o1 hb0 b1))
  have O3 := hideP (ownC_below o3 hb0 b3)
  have O5 := hideP (ownC_below o5 hb0 b5)
  have P0 : Hid (Kp (fun k => k = s1 ∨ k = s3 ∨ k = s5) w W0) := (Kp.refl _ w).later hb0
  have HW0 := hideP hW0
  have HC4 := hideP c4
  have HC5 := hideP c5
  clear hW0 d0 d1 d2 d3 d4 d5 d6 hBl hb0 o1 o3 o5 c4 c5
  go_enter Tryz.func22, Tryz.ntmps22
  go_wp2_with fail
  rw [← HW0.out]
  refine K1.out.mono ?_
  rintro e w1 ⟨rfl, hM⟩
  have G1 := hideP hM.grown
  have P1 := hideP (P0.out.grown G1.out (.inl rfl))
  have c4 : w1.cell? ⟨w.heap.size, 4, none⟩ = some (.slice (some ⟨s3, 0, none⟩) n2 n2) := (World.cell?_of_block (a := ⟨w.heap.size, 4, none⟩) (G1.out.block w.heap.size hz0 (fun e => by cases e; omega))).trans HC4.out
  have HC5' : Hid (w1.cell? ⟨w.heap.size, 5, none⟩ = some (.slice (some ⟨s5, 0, none⟩) n3 n3)) := (World.cell?_of_block (a := ⟨w.heap.size, 5, none⟩) (G1.out.block w.heap.size hz0 (fun e => by cases e; omega))).trans HC5.out
  have K3 := hideP (markPats s3 n2 n2 (n1 * 5 + 1) w1 hn2 (by omega) (ownC_any O3.out G1.out (by omega) hM.own e31))
  have O5' := hideP (ownC_any O5.out G1.out (by omega) hM.own e51)
  have hs1 := G1.out.size
  clear hM
  go_wp2_with fail
  rw [show ((n1 : Int) * 5 + 1) = ((n1 * 5 + 1 : Nat) : Int) from by omega]
  refine K3.out.mono ?_
  rintro e w2 ⟨rfl, g2, g4⟩
  have G2 := hideP g2
  have P2 := hideP (P1.out.grown G2.out (.inr (.inl rfl)))
  have c5 : w2.cell? ⟨w.heap.size, 5, none⟩ = some (.slice (some ⟨s5, 0, none⟩) n3 n3) := (World.cell?_of_block (a := ⟨w.heap.size, 5, none⟩) (G2.out.block w.heap.size (by omega) (fun e => by cases e; omega))).trans HC5'.out
  have hs2 := G2.out.size
  have K5 := hideP (markRgnz s5 n3 n3 (n1 * 5 + 1 + n2 * 3) w2 hn3 (by omega) (by omega) (by omega) (ownC_any O5'.out G2.out (by omega) g4 e53))
  clear g2 g4 c4
  go_wp2_with fail
  first | refine K5.out.mono ?_ | (rw [show ((n1 : Int) * 5 + 1 + (n2 : Int) * 3) = ((n1 * 5 + 1 + n2 * 3 : Nat) : Int) from by omega]; refine K5.out.mono ?_)
  rintro e w3 ⟨rfl, g3⟩
  have P3 := hideP (P2.out.grown g3 (.inr (.inr rfl)))
  clear g3
  go_wp2_with fail
  go_ret
  exact ⟨n1 * 5 + 1 + n2 * 3 + n3 * 3, rfl, P3.out⟩
theorem blk_size {w : World} {g : Nat} {cs cs' : Array Value} {t t' : TypeId} (h : Blk w g cs t) (h' : Blk w g cs' t') : cs.size = cs'.size := by
  have e := Option.some.inj (Eq.trans (Eq.symm h) h')
  injection e with e1
  rw [e1]
theorem markRegime (r : Rgm) (s1 s3 s5 : Nat) (t1 t3 t5 : TypeId) (w : World) (ho : GOk r) (k1 : Blk w s1 (iA segK r.segs) t1) (k3 : Blk w s3 (iA patK r.pats) t3) (k5 : Blk w s5 (rA r.rgns) t5) :
    Calls Tryz.prog 22 #[.agg #[.string r.name, .int .i64 r.fr, .int .i64 r.to, .slice (some ⟨s1, 0, none⟩) r.segs.length r.segs.length, .slice (some ⟨s3, 0, none⟩) r.pats.length r.pats.length, .slice (some ⟨s5, 0, none⟩) r.rgns.length r.rgns.length, .int .i64 r.rule], .int .i64 1] w fun e w' => ∃ z : Nat, e = .returned (.int .i64 (z : Int)) ∧ Kp (fun k => k = s1 ∨ k = s3 ∨ k = s5) w w' := by
  have z1 : (iA segK r.segs).size = r.segs.length * 5 := iA_size _
  have z3 : (iA patK r.pats).size = r.pats.length * 3 := iA_size _
  have z5 := rA_size r.rgns
  refine markRegime0 _ _ _ _ s1 s3 s5 _ _ _ w ho.2.1 ho.2.2.1 ?_ k1.lt k3.lt k5.lt (ownC_of k1 (by omega)) (ownC_of k3 (by omega)) (ownC_of k5 (by omega)) (fun e => ?_) (fun e => ?_) (fun e => ?_)
  · exact ho.2.2.2.1
  · subst e; have := blk_size k1 k3; omega
  · subst e; have := blk_size k1 k5; omega
  · subst e; have := blk_size k3 k5; omega
end Go.Proofs.YtjojgfdfbkmlkaaGreatDoor.ctr
namespace Go.Proofs.YtjojgfdfbkmlkaaGreatDoor.kit
open Go.RowKit
theorem a_et : Tryz.prog.globalNamed "errors.errorType" = some 3 := by kernel_rfl
theorem a_rt : (Tryz.prog.cutTypes.find? (·.1 == "internal/reflectlite.rtype")).map (·.2) = some 301 := by kernel_rfl
theorem a_row : ((List.range 412).filter fun t => Tryz.prog.rowNamed t [101, 114, 114, 111, 114]) = [203] := by kernel_rfl
theorem a_size : Tryz.prog.types.size = 412 := by kernel_rfl
theorem err_of {W : World} (h : handlesMet Tryz.prog [("errors.errorType", .iface "internal/reflectlite.rtype" (.agg [.ptr (.lit (.string [101, 114, 114, 111, 114]))]))] W) : ctr.ErrT W := by
  obtain ⟨name, u, ty, e1, e2, e3, e4, e5⟩ := h _ (List.mem_singleton.2 rfl)
  have en : name = [101, 114, 114, 111, 114] := (Option.some.inj e1).symm
  subst en
  obtain rfl := Option.some.inj (a_rt.symm.trans e2)
  have hm : ty ∈ (List.range 412).filter fun t => Tryz.prog.rowNamed t [101, 114, 114, 111, 114] := List.mem_filter.2 ⟨List.mem_range.2 (by rw [← a_size]; exact e3), e4⟩
  rw [a_row] at hm
  obtain rfl := List.mem_singleton.1 hm
  have hh : typeHandle Tryz.prog 203 = .pointer (some ⟨10, 203, none⟩) := by kernel_rfl
  rw [hh] at e5
  unfold ctr.ErrT
  simpa using World.var?_cell a_et e5 0
end Go.Proofs.YtjojgfdfbkmlkaaGreatDoor.kit
namespace Go.Proofs.YtjojgfdfbkmlkaaGreatDoor.kit
open Go.RowKit
theorem gs_two {H : Type} {enc : TypeId × Value → H} {P : Program} {W : World} {sp : Nat → Bool} {a b : String} {gs : List (DataW H)} {q : List MemPlace} (h : DataW.TrodVars enc P W sp [a, b] gs q) : ∃ g1 g2, gs = [g1, g2] := by
  match gs, h with
  | [], h => exact h.elim
  | [g1], h =>
    obtain ⟨_, _, _, _, _, _, _, _, _, _, h5, _⟩ := h
    exact h5.elim
  | [g1, g2], _ => exact ⟨g1, g2, rfl⟩
  | g1 :: g2 :: g3 :: r, h =>
    obtain ⟨_, _, _, _, _, _, _, _, _, _, h5, _⟩ := h
    obtain ⟨_, _, _, _, _, _, _, _, _, _, h6, _⟩ := h5
    exact h6.elim
theorem star : "*" ++ "errors.errorString" = "*errors.errorString" := by decide
theorem rowErr (u : TypeId) (h : Tryz.prog.typeName? 3 u = some "*errors.errorString") : u = 381 :=
  typeName_ptr_named (nm := "errors.errorString") (by rw [star]; kernel_rfl) (by kernel_rfl) (by decide) u (by rw [star]; exact h)
theorem cellsErr : Tryz.prog.cellsOf 400 = 1 := by kernel_rfl
theorem cellsStr : Tryz.prog.cellsOf 9 = 1 := by kernel_rfl
theorem gErr : Tryz.prog.globalNamed "loop.example/g00638/impl.errNoTable" = some 0 := by kernel_rfl
theorem gErrType : (Tryz.prog.globals[0]?).map (·.type) = some 203 := by kernel_rfl
theorem sent_of {text : List UInt8} {r : List (String × DataW Unit)} {W : World} (h : laidMet Tryz.prog (("loop.example/g00638/impl.errNoTable", .iface "*errors.errorString" (.ptr (.agg [.lit (.string text)]))) :: r) W) : ∃ a, ctr.Sent W a := by
  obtain ⟨a, s, hv, _⟩ := laid_sentinel h gErr gErrType Tryz.underlying203 rowErr Tryz.underlying381 Tryz.underlying400 rfl rfl Tryz.underlying9 cellsErr cellsStr
  exact ⟨a, by unfold ctr.Sent; simpa using World.var?_cell gErr hv 0⟩
end Go.Proofs.YtjojgfdfbkmlkaaGreatDoor.kit
namespace Go.Proofs.YtjojgfdfbkmlkaaGreatDoor.kit
open Go.RowKit Go.WideShapes Go.Deep Go.ChangeShapes
theorem wf_bounds {z : Int} (h : (Lit.int .i64 z).wf = true) : -9223372036854775808 ≤ z ∧ z ≤ 9223372036854775807 := by
  have h' : (decide (IntKind.i64.min ≤ z) && decide (z ≤ IntKind.i64.max)) = true := h
  rw [show IntKind.i64.min = -9223372036854775808 from rfl, show IntKind.i64.max = 9223372036854775807 from rfl] at h'
  simpa using h'
end Go.Proofs.YtjojgfdfbkmlkaaGreatDoor.kit
namespace Go.Proofs.YtjojgfdfbkmlkaaGreatDoor.kit
open Go
end Go.Proofs.YtjojgfdfbkmlkaaGreatDoor.kit
namespace Go.Proofs.YtjojgfdfbkmlkaaGreatDoor.kit
open Go.RowKit Go.WideShapes Go.Deep
theorem five {α : Type} {cs : Array α} (h : cs.size = 5) : ∃ a b c d e, cs = #[a, b, c, d, e] := by
  obtain ⟨l⟩ := cs
  match l, h with
  | [a, b, c, d, e], _ => exact ⟨a, b, c, d, e, rfl⟩
end Go.Proofs.YtjojgfdfbkmlkaaGreatDoor.kit
namespace Go.Proofs.YtjojgfdfbkmlkaaGreatDoor.ctr
open Go.RowKit
end Go.Proofs.YtjojgfdfbkmlkaaGreatDoor.ctr
namespace Go.Proofs.YtjojgfdfbkmlkaaGreatDoor.kit
open Go.RowKit Go.WideShapes Go.Deep
theorem nine {α : Type} {cs : Array α} (h : cs.size = 9) : ∃ a b c d e f g i j, cs = #[a, b, c, d, e, f, g, i, j] := by
  obtain ⟨l⟩ := cs
  match l, h with
  | [a, b, c, d, e, f, g, i, j], _ => exact ⟨a, b, c, d, e, f, g, i, j, rfl⟩
theorem twelve {α : Type} {cs : Array α} (h : cs.size = 12) : ∃ a b c d e f g i j k l m, cs = #[a, b, c, d, e, f, g, i, j, k, l, m] := by
  obtain ⟨l⟩ := cs
  match l, h with
  | [a, b, c, d, e, f, g, i, j, k, l, m], _ => exact ⟨a, b, c, d, e, f, g, i, j, k, l, m, rfl⟩
theorem whn_cells {H : Type} {enc : TypeId × Value → H} {P : Program} {w : World} {base : Nat} {sp : Nat → Bool} {held : Bool} {ty : TypeId} {f0 f1 f2 f3 f4 f5 g0 g1 g2 g3 : Field} {fuel : Nat} {x0 x1 x2 x3 x4 x5 x6 x7 x8 : Value} {dq : DataW H × List MemPlace}
    (hs : P.underlying ty = some (.struct #[f0, f1, f2, f3, f4, f5])) (hr : P.underlying f3.type = some (.struct #[g0, g1, g2, g3]))
    (ho : [f0.offset, f1.offset, f2.offset, f3.offset, f4.offset, f5.offset, g0.offset, g1.offset, g2.offset, g3.offset] = [0, 1, 2, 3, 7, 8, 0, 1, 2, 3])
    (hk : [P.cellsOf f0.type, P.cellsOf f1.type, P.cellsOf f2.type, P.cellsOf f3.type, P.cellsOf f4.type, P.cellsOf f5.type, P.cellsOf g0.type, P.cellsOf g1.type, P.cellsOf g2.type, P.cellsOf g3.type] = [1, 1, 1, 4, 1, 1, 1, 1, 1, 1])
    (u0 : P.underlying f0.type = some (.int .i64)) (u1 : P.underlying f1.type = some (.int .i64)) (u2 : P.underlying f2.type = some (.int .i64)) (u4 : P.underlying f4.type = some .string) (u5 : P.underlying f5.type = some (.int .i64)) (v0 : P.underlying g0.type = some (.int .i64)) (v1 : P.underlying g1.type = some (.int .i64)) (v2 : P.underlying g2.type = some (.int .i64)) (v3 : P.underlying g3.type = some .bool)
    (hf : DataW.trod enc P w base sp held fuel ty [x0, x1, x2, x3, x4, x5, x6, x7, x8] = some dq) :
    ∃ (k m d a b c : Int) (t : Bool) (s : ByteArray) (p : Int), [x0, x1, x2, x3, x4, x5, x6, x7, x8] = [.int .i64 k, .int .i64 m, .int .i64 d, .int .i64 a, .int .i64 b, .int .i64 c, .bool t, .string s, .int .i64 p] ∧ s.size ≤ maxLen := by
  obtain ⟨xs, n, _, _, _, hlen, hg⟩ := DataW.trod_struct hs hf
  simp only [List.cons.injEq, and_true] at ho hk
  obtain ⟨o0, o1, o2, o3, o4, o5, r0, r1, r2, r3⟩ := ho
  obtain ⟨k0, k1, k2, k3, k4, k5, l0, l1, l2, l3⟩ := hk
  match xs, hlen with
  | [y0, y1, y2, y3, y4, y5], _ =>
    have e0 := hg 0 f0 rfl
    simp only [o0, k0] at e0
    have e1 := hg 1 f1 rfl
    simp only [o1, k1] at e1
    have e2 := hg 2 f2 rfl
    simp only [o2, k2] at e2
    have e3 := hg 3 f3 rfl
    simp only [o3, k3] at e3
    have e4 := hg 4 f4 rfl
    simp only [o4, k4] at e4
    have e5 := hg 5 f5 rfl
    simp only [o5, k5] at e5
    obtain ⟨z0, i0, _, _⟩ := DataW.trod_int u0 (x := y0) (by simpa using e0)
    obtain ⟨z1, i1, _, _⟩ := DataW.trod_int u1 (x := y1) (by simpa using e1)
    obtain ⟨z2, i2, _, _⟩ := DataW.trod_int u2 (x := y2) (by simpa using e2)
    obtain ⟨s, i4, _, hsm⟩ := DataW.trod_string u4 (x := y4) (by simpa using e4)
    obtain ⟨z5, i5, _, _⟩ := DataW.trod_int u5 (x := y5) (by simpa using e5)
    obtain ⟨zs, n2, _, _, _, hlen2, hg2⟩ := DataW.trod_struct hr (x := y3) (cs := [x3, x4, x5, x6]) (by simpa using e3)
    match zs, hlen2 with
    | [w0, w1, w2, w3], _ =>
      have d0 := hg2 0 g0 rfl
      have d1 := hg2 1 g1 rfl
      have d2 := hg2 2 g2 rfl
      have d3 := hg2 3 g3 rfl
      simp only [r0, l0] at d0
      simp only [r1, l1] at d1
      simp only [r2, l2] at d2
      simp only [r3, l3] at d3
      obtain ⟨a0, j0, _, _⟩ := DataW.trod_int v0 (x := w0) (by simpa using d0)
      obtain ⟨a1, j1, _, _⟩ := DataW.trod_int v1 (x := w1) (by simpa using d1)
      obtain ⟨a2, j2, _, _⟩ := DataW.trod_int v2 (x := w2) (by simpa using d2)
      obtain ⟨a3, j3, _⟩ := DataW.trod_bool v3 (x := w3) (by simpa using d3)
      simp only [List.cons.injEq, and_true] at i0 i1 i2 i4 i5 j0 j1 j2 j3
      exact ⟨z0, z1, z2, a0, a1, a2, a3, s, z5, by rw [i0, i1, i2, i4, i5, j0, j1, j2, j3], hsm⟩
theorem open_say {H : Type} {enc : TypeId × Value → H} {P : Program} {w : World} {base : Nat} {sp : Nat → Bool} {held : Bool} {r : Reach} {b0 : Nat} {ty : TypeId} {f0 f1 f2 f3 f4 f5 g0 g1 g2 g3 : Field} {tz : TypeId} {h0 h1 h2 h3 : Field} {v : Value} {dt : DataW H} {q : List MemPlace}
    (hz : P.underlying tz = some (.struct #[h0, h1, h2, h3])) (hC : P.cellsOf tz = 12) (hty : h0.type = ty)
    (hoz : [h0.offset, h1.offset, h2.offset, h3.offset] = [0, 9, 10, 11]) (hkz : [P.cellsOf h0.type, P.cellsOf h1.type, P.cellsOf h2.type, P.cellsOf h3.type] = [9, 1, 1, 1])
    (b1 : P.underlying h1.type = some (.int .i64)) (b2 : P.underlying h2.type = some (.int .i64)) (b3 : P.underlying h3.type = some (.int .i64))
    (hs : P.underlying ty = some (.struct #[f0, f1, f2, f3, f4, f5])) (hr : P.underlying f3.type = some (.struct #[g0, g1, g2, g3]))
    (ho : [f0.offset, f1.offset, f2.offset, f3.offset, f4.offset, f5.offset, g0.offset, g1.offset, g2.offset, g3.offset] = [0, 1, 2, 3, 7, 8, 0, 1, 2, 3])
    (hk : [P.cellsOf f0.type, P.cellsOf f1.type, P.cellsOf f2.type, P.cellsOf f3.type, P.cellsOf f4.type, P.cellsOf f5.type, P.cellsOf g0.type, P.cellsOf g1.type, P.cellsOf g2.type, P.cellsOf g3.type] = [1, 1, 1, 4, 1, 1, 1, 1, 1, 1])
    (u0 : P.underlying f0.type = some (.int .i64)) (u1 : P.underlying f1.type = some (.int .i64)) (u2 : P.underlying f2.type = some (.int .i64)) (u4 : P.underlying f4.type = some .string) (u5 : P.underlying f5.type = some (.int .i64)) (v0 : P.underlying g0.type = some (.int .i64)) (v1 : P.underlying g1.type = some (.int .i64)) (v2 : P.underlying g2.type = some (.int .i64)) (v3 : P.underlying g3.type = some .bool)
    (hv : Value.okWide P w r b0 tz v) (h : DataW.Trod enc P w base sp held tz v dt q) :
    ∃ (k m d a b c : Int) (t : Bool) (s : ByteArray) (p y so ca : Int), v = .agg #[.int .i64 k, .int .i64 m, .int .i64 d, .int .i64 a, .int .i64 b, .int .i64 c, .bool t, .string s, .int .i64 p, .int .i64 y, .int .i64 so, .int .i64 ca] ∧ s.size ≤ maxLen := by
  obtain ⟨cs, rfl, hsz⟩ := okWide_struct hz hv
  obtain ⟨x0, x1, x2, x3, x4, x5, x6, x7, x8, x9, x10, x11, rfl⟩ := twelve (hsz.trans hC)
  obtain ⟨fuel, hf⟩ := h
  obtain ⟨xs, n, _, _, _, hlen, hg⟩ := DataW.trod_struct hz (show DataW.trod enc P w base sp held fuel tz [x0, x1, x2, x3, x4, x5, x6, x7, x8, x9, x10, x11] = _ from hf)
  simp only [List.cons.injEq, and_true] at hoz hkz
  obtain ⟨o0, o1, o2, o3⟩ := hoz
  obtain ⟨k0, k1, k2, k3⟩ := hkz
  match xs, hlen with
  | [y0, y1, y2, y3], _ =>
    have e0 := hg 0 h0 rfl
    have e1 := hg 1 h1 rfl
    have e2 := hg 2 h2 rfl
    have e3 := hg 3 h3 rfl
    simp only [o0, k0] at e0
    simp only [o1, k1] at e1
    simp only [o2, k2] at e2
    simp only [o3, k3] at e3
    obtain ⟨y, i1, _, _⟩ := DataW.trod_int b1 (x := y1) (by simpa using e1)
    obtain ⟨so, i2, _, _⟩ := DataW.trod_int b2 (x := y2) (by simpa using e2)
    obtain ⟨ca, i3, _, _⟩ := DataW.trod_int b3 (x := y3) (by simpa using e3)
    subst hty
    obtain ⟨k, m, d, a, b, c, t, s, p, he, hsm⟩ := whn_cells hs hr ho hk u0 u1 u2 u4 u5 v0 v1 v2 v3 (show DataW.trod enc P w base sp held n h0.type [x0, x1, x2, x3, x4, x5, x6, x7, x8] = some y0 by simpa using e0)
    simp only [List.cons.injEq, and_true] at he i1 i2 i3
    obtain ⟨rfl, rfl, rfl, rfl, rfl, rfl, rfl, rfl, rfl⟩ := he
    subst i1 i2 i3
    exact ⟨k, m, d, a, b, c, t, s, p, y, so, ca, rfl, hsm⟩
end Go.Proofs.YtjojgfdfbkmlkaaGreatDoor.kit
namespace Go.Proofs.YtjojgfdfbkmlkaaGreatDoor.ctr
open Go.RowKit
theorem szWhn (k m d a b c : Int) (t : Bool) (s : ByteArray) (p : Int) (n : Int) (w : World) (hs : s.size ≤ maxLen) (h0 : 0 ≤ n) (h1 : n ≤ 1048576) : Calls Tryz.prog 82 #[.agg #[.int .i64 k, .int .i64 m, .int .i64 d, .int .i64 a, .int .i64 b, .int .i64 c, .bool t, .string s, .int .i64 p], .int .i64 n] w fun e w' => e = .returned (.int .i64 (if n < s.size then -1 else n - s.size)) ∧ Below w.heap.size w w' := by
  unfold maxLen at hs
  by_cases h : n < s.size
  · rw [if_pos h]
    go_enter Tryz.func82, Tryz.ntmps82
    go_wp2
    go_ret
    exact ⟨rfl, (Below.refl _ _).alloc (Nat.le_refl _) _⟩
  · rw [if_neg h]
    go_enter Tryz.func82, Tryz.ntmps82
    go_wp2
    go_ret
    exact ⟨rfl, (Below.refl _ _).alloc (Nat.le_refl _) _⟩
set_option maxHeartbeats 4000000 in
theorem szSay (k m d a b c : Int) (t : Bool) (s : ByteArray) (p y so ca : Int) (n : Int) (w : World) (hs : s.size ≤ maxLen) (h0 : 0 ≤ n) (h1 : n ≤ 1048576) : Calls Tryz.prog 27 #[.agg #[.int .i64 k, .int .i64 m, .int .i64 d, .int .i64 a, .int .i64 b, .int .i64 c, .bool t, .string s, .int .i64 p, .int .i64 y, .int .i64 so, .int .i64 ca], .int .i64 n] w fun e w' => e = .returned (.int .i64 (if n < s.size then -1 else n - s.size)) ∧ Below w.heap.size w w' := by
  have K := fun W => szWhn k m d a b c t s p n W hs h0 h1
  obtain ⟨W0, hW0, _, hBl⟩ := box_any w #[.int .i64 k, .int .i64 m, .int .i64 d, .int .i64 a, .int .i64 b, .int .i64 c, .bool t, .string s, .int .i64 p, .int .i64 y, .int .i64 so, .int .i64 ca] 52
  have HW0 := hideP hW0
  have HBl := hideP hBl
  clear hW0 hBl
  have hz : (if n < s.size then -1 else n - s.size) = -1 ∨ 0 ≤ (if n < s.size then -1 else n - s.size) := by split <;> omega
  generalize (if n < s.size then -1 else n - s.size) = z at *
  clear hs h0 h1
  rcases hz with rfl | hz
  all_goals
    go_enter Tryz.func27, Tryz.ntmps27
    go_wp2_with fail
    rw [← HW0.out]
    refine (K _).mono ?_
    rintro e w1 ⟨rfl, hb⟩
    obtain ⟨x1, rfl⟩ := Later.of hb
    clear hb
    go_wp2
    go_ret
    exact ⟨rfl, HBl.out x1⟩
end Go.Proofs.YtjojgfdfbkmlkaaGreatDoor.ctr
namespace Go.Proofs.YtjojgfdfbkmlkaaGreatDoor.ctr
open Go.RowKit
theorem setToS {w : World} {b : Nat} {vs vs' : Array Value} {t : TypeId} (h : Blk w b vs t) (i : Nat) (v : Value) (he : vs.setIfInBounds i v = vs') : Blk (w.setCell ⟨b, i, none⟩ v) b vs' t := he ▸ h.set i v
set_option maxRecDepth 100000 in
set_option maxHeartbeats 8000000 in
theorem toSay (k m d a b c : Int) (t : Bool) (s : ByteArray) (p y so ca : Int) (w : World) : Calls Tryz.prog 29 #[.agg #[.int .i64 k, .int .i64 m, .int .i64 d, .int .i64 a, .int .i64 b, .int .i64 c, .bool t, .string s, .int .i64 p, .int .i64 y, .int .i64 so, .int .i64 ca]] w fun e w' => e = .returned (.agg #[.int .i64 k, .int .i64 m, .int .i64 d, .int .i64 a, .int .i64 b, .int .i64 c, .bool t, .string s, .int .i64 p, .int .i64 y, .int .i64 so, .int .i64 ca]) ∧ Below w.heap.size w w' := by
  obtain ⟨W1, e1⟩ : ∃ W1, W1 = (((w.alloc (.cells #[.int .i64 k, .int .i64 m, .int .i64 d, .int .i64 a, .int .i64 b, .int .i64 c, .bool t, .string s, .int .i64 p, .int .i64 y, .int .i64 so, .int .i64 ca] 52)).alloc (.cells #[.int .i64 0, .int .i64 0, .int .i64 0, .int .i64 0, .int .i64 0, .int .i64 0, .bool false, .string ⟨#[]⟩, .int .i64 0, .int .i64 0, .int .i64 0, .int .i64 0] 59)).alloc (.cells #[.int .i64 0, .int .i64 0, .int .i64 0, .int .i64 0, .int .i64 0, .int .i64 0, .bool false, .string ⟨#[]⟩, .int .i64 0, .int .i64 0, .int .i64 0, .int .i64 0] 59)) := ⟨_, rfl⟩
  obtain ⟨WA, eA, HP, HR, HO, HB⟩ := boxes3 w #[.int .i64 k, .int .i64 m, .int .i64 d, .int .i64 a, .int .i64 b, .int .i64 c, .bool t, .string s, .int .i64 p, .int .i64 y, .int .i64 so, .int .i64 ca] #[.int .i64 0, .int .i64 0, .int .i64 0, .int .i64 0, .int .i64 0, .int .i64 0, .bool false, .string ⟨#[]⟩, .int .i64 0, .int .i64 0, .int .i64 0, .int .i64 0] #[.int .i64 0, .int .i64 0, .int .i64 0, .int .i64 0, .int .i64 0, .int .i64 0, .bool false, .string ⟨#[]⟩, .int .i64 0, .int .i64 0, .int .i64 0, .int .i64 0] 52 59 59
  have Y0 : Blk W1 w.heap.size #[.int .i64 k, .int .i64 m, .int .i64 d, .int .i64 a, .int .i64 b, .int .i64 c, .bool t, .string s, .int .i64 p, .int .i64 y, .int .i64 so, .int .i64 ca] 52 := by rw [e1, ← eA]; exact HP
  have Y1 : Blk W1 (w.heap.size + 1) #[.int .i64 0, .int .i64 0, .int .i64 0, .int .i64 0, .int .i64 0, .int .i64 0, .bool false, .string ⟨#[]⟩, .int .i64 0, .int .i64 0, .int .i64 0, .int .i64 0] 59 := by rw [e1, ← eA]; exact HR
  have Y2 : Blk W1 (w.heap.size + 2) #[.int .i64 0, .int .i64 0, .int .i64 0, .int .i64 0, .int .i64 0, .int .i64 0, .bool false, .string ⟨#[]⟩, .int .i64 0, .int .i64 0, .int .i64 0, .int .i64 0] 59 := by rw [e1, ← eA]; exact HO
  have B1 : Below w.heap.size w W1 := by rw [e1, ← eA]; exact HB
  have E1 := hideP e1
  have HY0 := hideP Y0
  have HY1 := hideP Y1
  have HY2 := hideP Y2
  have HB1 := hideP B1
  have K : ∀ W, Calls Tryz.prog 85 #[.agg #[.int .i64 k, .int .i64 m, .int .i64 d, .int .i64 a, .int .i64 b, .int .i64 c, .bool t, .string s, .int .i64 p]] W fun e w' => e = .returned (.agg #[.int .i64 k, .int .i64 m, .int .i64 d, .int .i64 a, .int .i64 b, .int .i64 c, .bool t, .string s, .int .i64 p]) ∧ Below W.heap.size W w' := fun W => toWhn k m d a b c t s p W
  clear e1 Y0 Y1 Y2 B1 HP HR HO HB eA
  go_enter Tryz.func29, Tryz.ntmps29
  go_wp2_with fail
  rw [← E1.out]
  refine (K _).mono ?_
  rintro e w2 ⟨rfl, hb⟩
  have Z0 : Hid (Blk w2 w.heap.size #[.int .i64 k, .int .i64 m, .int .i64 d, .int .i64 a, .int .i64 b, .int .i64 c, .bool t, .string s, .int .i64 p, .int .i64 y, .int .i64 so, .int .i64 ca] 52) := HY0.out.below hb HY0.out.lt
  have Z1 : Hid (Blk w2 (w.heap.size + 1) #[.int .i64 0, .int .i64 0, .int .i64 0, .int .i64 0, .int .i64 0, .int .i64 0, .bool false, .string ⟨#[]⟩, .int .i64 0, .int .i64 0, .int .i64 0, .int .i64 0] 59) := HY1.out.below hb HY1.out.lt
  have Z2 : Hid (Blk w2 (w.heap.size + 2) #[.int .i64 0, .int .i64 0, .int .i64 0, .int .i64 0, .int .i64 0, .int .i64 0, .bool false, .string ⟨#[]⟩, .int .i64 0, .int .i64 0, .int .i64 0, .int .i64 0] 59) := HY2.out.below hb HY2.out.lt
  have B2 : Hid (Below w.heap.size w w2) := HB1.out.trans (hb.mono HB1.out.size)
  clear hb E1 HY0 HY1 HY2 HB1 K
  have p0 : w2.cell? ⟨w.heap.size, 0, none⟩ = some (.int .i64 k) := Z0.out.cell 0 rfl
  have p1 : w2.cell? ⟨w.heap.size, 1, none⟩ = some (.int .i64 m) := Z0.out.cell 1 rfl
  have p2 : w2.cell? ⟨w.heap.size, 2, none⟩ = some (.int .i64 d) := Z0.out.cell 2 rfl
  have p3 : w2.cell? ⟨w.heap.size, 3, none⟩ = some (.int .i64 a) := Z0.out.cell 3 rfl
  have p4 : w2.cell? ⟨w.heap.size, 4, none⟩ = some (.int .i64 b) := Z0.out.cell 4 rfl
  have p5 : w2.cell? ⟨w.heap.size, 5, none⟩ = some (.int .i64 c) := Z0.out.cell 5 rfl
  have p6 : w2.cell? ⟨w.heap.size, 6, none⟩ = some (.bool t) := Z0.out.cell 6 rfl
  have p7 : w2.cell? ⟨w.heap.size, 7, none⟩ = some (.string s) := Z0.out.cell 7 rfl
  have p8 : w2.cell? ⟨w.heap.size, 8, none⟩ = some (.int .i64 p) := Z0.out.cell 8 rfl
  have p9 : w2.cell? ⟨w.heap.size, 9, none⟩ = some (.int .i64 y) := Z0.out.cell 9 rfl
  have p10 : w2.cell? ⟨w.heap.size, 10, none⟩ = some (.int .i64 so) := Z0.out.cell 10 rfl
  have p11 : w2.cell? ⟨w.heap.size, 11, none⟩ = some (.int .i64 ca) := Z0.out.cell 11 rfl
  have o0 : w2.cell? ⟨w.heap.size + 2, 0, none⟩ = some (.int .i64 0) := Z2.out.cell 0 rfl
  have o1 : w2.cell? ⟨w.heap.size + 2, 1, none⟩ = some (.int .i64 0) := Z2.out.cell 1 rfl
  have o2 : w2.cell? ⟨w.heap.size + 2, 2, none⟩ = some (.int .i64 0) := Z2.out.cell 2 rfl
  have o3 : w2.cell? ⟨w.heap.size + 2, 3, none⟩ = some (.int .i64 0) := Z2.out.cell 3 rfl
  have o4 : w2.cell? ⟨w.heap.size + 2, 4, none⟩ = some (.int .i64 0) := Z2.out.cell 4 rfl
  have o5 : w2.cell? ⟨w.heap.size + 2, 5, none⟩ = some (.int .i64 0) := Z2.out.cell 5 rfl
  have o6 : w2.cell? ⟨w.heap.size + 2, 6, none⟩ = some (.bool false) := Z2.out.cell 6 rfl
  have o7 : w2.cell? ⟨w.heap.size + 2, 7, none⟩ = some (.string ⟨#[]⟩) := Z2.out.cell 7 rfl
  have o8 : w2.cell? ⟨w.heap.size + 2, 8, none⟩ = some (.int .i64 0) := Z2.out.cell 8 rfl
  have o9 : w2.cell? ⟨w.heap.size + 2, 9, none⟩ = some (.int .i64 0) := Z2.out.cell 9 rfl
  have o10 : w2.cell? ⟨w.heap.size + 2, 10, none⟩ = some (.int .i64 0) := Z2.out.cell 10 rfl
  have o11 : w2.cell? ⟨w.heap.size + 2, 11, none⟩ = some (.int .i64 0) := Z2.out.cell 11 rfl
  have f0 : w2.frozen? ⟨w.heap.size + 2, 0, none⟩ = false := Z2.out.thaw 0
  have f1 : w2.frozen? ⟨w.heap.size + 2, 1, none⟩ = false := Z2.out.thaw 1
  have f2 : w2.frozen? ⟨w.heap.size + 2, 2, none⟩ = false := Z2.out.thaw 2
  have f3 : w2.frozen? ⟨w.heap.size + 2, 3, none⟩ = false := Z2.out.thaw 3
  have f4 : w2.frozen? ⟨w.heap.size + 2, 4, none⟩ = false := Z2.out.thaw 4
  have f5 : w2.frozen? ⟨w.heap.size + 2, 5, none⟩ = false := Z2.out.thaw 5
  have f6 : w2.frozen? ⟨w.heap.size + 2, 6, none⟩ = false := Z2.out.thaw 6
  have f7 : w2.frozen? ⟨w.heap.size + 2, 7, none⟩ = false := Z2.out.thaw 7
  have f8 : w2.frozen? ⟨w.heap.size + 2, 8, none⟩ = false := Z2.out.thaw 8
  have f9 : w2.frozen? ⟨w.heap.size + 2, 9, none⟩ = false := Z2.out.thaw 9
  have f10 : w2.frozen? ⟨w.heap.size + 2, 10, none⟩ = false := Z2.out.thaw 10
  have f11 : w2.frozen? ⟨w.heap.size + 2, 11, none⟩ = false := Z2.out.thaw 11
  go_upto_region 6 with fail
  obtain ⟨W5, e5⟩ : ∃ W5, W5 = ((((((((((((w2.setCell ⟨w.heap.size + 2, 0, none⟩ (.int .i64 k)).setCell ⟨w.heap.size + 2, 1, none⟩ (.int .i64 m)).setCell ⟨w.heap.size + 2, 2, none⟩ (.int .i64 d)).setCell ⟨w.heap.size + 2, 3, none⟩ (.int .i64 a)).setCell ⟨w.heap.size + 2, 4, none⟩ (.int .i64 b)).setCell ⟨w.heap.size + 2, 5, none⟩ (.int .i64 c)).setCell ⟨w.heap.size + 2, 6, none⟩ (.bool t)).setCell ⟨w.heap.size + 2, 7, none⟩ (.string s)).setCell ⟨w.heap.size + 2, 8, none⟩ (.int .i64 p)).setCell ⟨w.heap.size + 2, 9, none⟩ (.int .i64 y)).setCell ⟨w.heap.size + 2, 10, none⟩ (.int .i64 so)).setCell ⟨w.heap.size + 2, 11, none⟩ (.int .i64 ca)) := ⟨_, rfl⟩
  have X1 : Hid (Blk W5 (w.heap.size + 1) #[.int .i64 0, .int .i64 0, .int .i64 0, .int .i64 0, .int .i64 0, .int .i64 0, .bool false, .string ⟨#[]⟩, .int .i64 0, .int .i64 0, .int .i64 0, .int .i64 0] 59) := by unfold Hid; rw [e5]; exact ((((((((((((Z1.out.other (by omega)).other (by omega)).other (by omega)).other (by omega)).other (by omega)).other (by omega)).other (by omega)).other (by omega)).other (by omega)).other (by omega)).other (by omega)).other (by omega))
  have X2 : Hid (Blk W5 (w.heap.size + 2) #[.int .i64 k, .int .i64 m, .int .i64 d, .int .i64 a, .int .i64 b, .int .i64 c, .bool t, .string s, .int .i64 p, .int .i64 y, .int .i64 so, .int .i64 ca] 59) := by unfold Hid; rw [e5]; exact (setToS (vs' := #[.int .i64 k, .int .i64 m, .int .i64 d, .int .i64 a, .int .i64 b, .int .i64 c, .bool t, .string s, .int .i64 p, .int .i64 y, .int .i64 so, .int .i64 ca]) (setToS (vs' := #[.int .i64 k, .int .i64 m, .int .i64 d, .int .i64 a, .int .i64 b, .int .i64 c, .bool t, .string s, .int .i64 p, .int .i64 y, .int .i64 so, .int .i64 0]) (setToS (vs' := #[.int .i64 k, .int .i64 m, .int .i64 d, .int .i64 a, .int .i64 b, .int .i64 c, .bool t, .string s, .int .i64 p, .int .i64 y, .int .i64 0, .int .i64 0]) (setToS (vs' := #[.int .i64 k, .int .i64 m, .int .i64 d, .int .i64 a, .int .i64 b, .int .i64 c, .bool t, .string s, .int .i64 p, .int .i64 0, .int .i64 0, .int .i64 0]) (setToS (vs' := #[.int .i64 k, .int .i64 m, .int .i64 d, .int .i64 a, .int .i64 b, .int .i64 c, .bool t, .string s, .int .i64 0, .int .i64 0, .int .i64 0, .int .i64 0]) (setToS (vs' := #[.int .i64 k, .int .i64 m, .int .i64 d, .int .i64 a, .int .i64 b, .int .i64 c, .bool t, .string ⟨#[]⟩, .int .i64 0, .int .i64 0, .int .i64 0, .int .i64 0]) (setToS (vs' := #[.int .i64 k, .int .i64 m, .int .i64 d, .int .i64 a, .int .i64 b, .int .i64 c, .bool false, .string ⟨#[]⟩, .int .i64 0, .int .i64 0, .int .i64 0, .int .i64 0]) (setToS (vs' := #[.int .i64 k, .int .i64 m, .int .i64 d, .int .i64 a, .int .i64 b, .int .i64 0, .bool false, .string ⟨#[]⟩, .int .i64 0, .int .i64 0, .int .i64 0, .int .i64 0]) (setToS (vs' := #[.int .i64 k, .int .i64 m, .int .i64 d, .int .i64 a, .int .i64 0, .int .i64 0, .bool false, .string ⟨#[]⟩, .int .i64 0, .int .i64 0, .int .i64 0, .int .i64 0]) (setToS (vs' := #[.int .i64 k, .int .i64 m, .int .i64 d, .int .i64 0, .int .i64 0, .int .i64 0, .bool false, .string ⟨#[]⟩, .int .i64 0, .int .i64 0, .int .i64 0, .int .i64 0]) (setToS (vs' := #[.int .i64 k, .int .i64 m, .int .i64 0, .int .i64 0, .int .i64 0, .int .i64 0, .bool false, .string ⟨#[]⟩, .int .i64 0, .int .i64 0, .int .i64 0, .int .i64 0]) (setToS (vs' := #[.int .i64 k, .int .i64 0, .int .i64 0, .int .i64 0, .int .i64 0, .int .i64 0, .bool false, .string ⟨#[]⟩, .int .i64 0, .int .i64 0, .int .i64 0, .int .i64 0]) Z2.out 0 _ rfl) 1 _ rfl) 2 _ rfl) 3 _ rfl) 4 _ rfl) 5 _ rfl) 6 _ rfl) 7 _ rfl) 8 _ rfl) 9 _ rfl) 10 _ rfl) 11 _ rfl)
  have B5 : Hid (Below w.heap.size w W5) := by unfold Hid; rw [e5]; exact (below_store (below_store (below_store (below_store (below_store (below_store (below_store (below_store (below_store (below_store (below_store (below_store B2.out (b := w.heap.size + 2) (i := 0) _ (by omega)) (b := w.heap.size + 2) (i := 1) _ (by omega)) (b := w.heap.size + 2) (i := 2) _ (by omega)) (b := w.heap.size + 2) (i := 3) _ (by omega)) (b := w.heap.size + 2) (i := 4) _ (by omega)) (b := w.heap.size + 2) (i := 5) _ (by omega)) (b := w.heap.size + 2) (i := 6) _ (by omega)) (b := w.heap.size + 2) (i := 7) _ (by omega)) (b := w.heap.size + 2) (i := 8) _ (by omega)) (b := w.heap.size + 2) (i := 9) _ (by omega)) (b := w.heap.size + 2) (i := 10) _ (by omega)) (b := w.heap.size + 2) (i := 11) _ (by omega))
  rw [← e5]
  clear e5 Z0 Z1 Z2 B2 p0 o0 f0 p1 o1 f1 p2 o2 f2 p3 o3 f3 p4 o4 f4 p5 o5 f5 p6 o6 f6 p7 o7 f7 p8 o8 f8 p9 o9 f9 p10 o10 f10 p11 o11 f11
  have o0 : W5.cell? ⟨w.heap.size + 2, 0, none⟩ = some (.int .i64 k) := X2.out.cell 0 rfl
  have o1 : W5.cell? ⟨w.heap.size + 2, 1, none⟩ = some (.int .i64 m) := X2.out.cell 1 rfl
  have o2 : W5.cell? ⟨w.heap.size + 2, 2, none⟩ = some (.int .i64 d) := X2.out.cell 2 rfl
  have o3 : W5.cell? ⟨w.heap.size + 2, 3, none⟩ = some (.int .i64 a) := X2.out.cell 3 rfl
  have o4 : W5.cell? ⟨w.heap.size + 2, 4, none⟩ = some (.int .i64 b) := X2.out.cell 4 rfl
  have o5 : W5.cell? ⟨w.heap.size + 2, 5, none⟩ = some (.int .i64 c) := X2.out.cell 5 rfl
  have o6 : W5.cell? ⟨w.heap.size + 2, 6, none⟩ = some (.bool t) := X2.out.cell 6 rfl
  have o7 : W5.cell? ⟨w.heap.size + 2, 7, none⟩ = some (.string s) := X2.out.cell 7 rfl
  have o8 : W5.cell? ⟨w.heap.size + 2, 8, none⟩ = some (.int .i64 p) := X2.out.cell 8 rfl
  have o9 : W5.cell? ⟨w.heap.size + 2, 9, none⟩ = some (.int .i64 y) := X2.out.cell 9 rfl
  have o10 : W5.cell? ⟨w.heap.size + 2, 10, none⟩ = some (.int .i64 so) := X2.out.cell 10 rfl
  have o11 : W5.cell? ⟨w.heap.size + 2, 11, none⟩ = some (.int .i64 ca) := X2.out.cell 11 rfl
  have r0 : W5.cell? ⟨w.heap.size + 1, 0, none⟩ = some (.int .i64 0) := X1.out.cell 0 rfl
  have r1 : W5.cell? ⟨w.heap.size + 1, 1, none⟩ = some (.int .i64 0) := X1.out.cell 1 rfl
  have r2 : W5.cell? ⟨w.heap.size + 1, 2, none⟩ = some (.int .i64 0) := X1.out.cell 2 rfl
  have r3 : W5.cell? ⟨w.heap.size + 1, 3, none⟩ = some (.int .i64 0) := X1.out.cell 3 rfl
  have r4 : W5.cell? ⟨w.heap.size + 1, 4, none⟩ = some (.int .i64 0) := X1.out.cell 4 rfl
  have r5 : W5.cell? ⟨w.heap.size + 1, 5, none⟩ = some (.int .i64 0) := X1.out.cell 5 rfl
  have r6 : W5.cell? ⟨w.heap.size + 1, 6, none⟩ = some (.bool false) := X1.out.cell 6 rfl
  have r7 : W5.cell? ⟨w.heap.size + 1, 7, none⟩ = some (.string ⟨#[]⟩) := X1.out.cell 7 rfl
  have r8 : W5.cell? ⟨w.heap.size + 1, 8, none⟩ = some (.int .i64 0) := X1.out.cell 8 rfl
  have r9 : W5.cell? ⟨w.heap.size + 1, 9, none⟩ = some (.int .i64 0) := X1.out.cell 9 rfl
  have r10 : W5.cell? ⟨w.heap.size + 1, 10, none⟩ = some (.int .i64 0) := X1.out.cell 10 rfl
  have r11 : W5.cell? ⟨w.heap.size + 1, 11, none⟩ = some (.int .i64 0) := X1.out.cell 11 rfl
  have g0 : W5.frozen? ⟨w.heap.size + 1, 0, none⟩ = false := X1.out.thaw 0
  have g1 : W5.frozen? ⟨w.heap.size + 1, 1, none⟩ = false := X1.out.thaw 1
  have g2 : W5.frozen? ⟨w.heap.size + 1, 2, none⟩ = false := X1.out.thaw 2
  have g3 : W5.frozen? ⟨w.heap.size + 1, 3, none⟩ = false := X1.out.thaw 3
  have g4 : W5.frozen? ⟨w.heap.size + 1, 4, none⟩ = false := X1.out.thaw 4
  have g5 : W5.frozen? ⟨w.heap.size + 1, 5, none⟩ = false := X1.out.thaw 5
  have g6 : W5.frozen? ⟨w.heap.size + 1, 6, none⟩ = false := X1.out.thaw 6
  have g7 : W5.frozen? ⟨w.heap.size + 1, 7, none⟩ = false := X1.out.thaw 7
  have g8 : W5.frozen? ⟨w.heap.size + 1, 8, none⟩ = false := X1.out.thaw 8
  have g9 : W5.frozen? ⟨w.heap.size + 1, 9, none⟩ = false := X1.out.thaw 9
  have g10 : W5.frozen? ⟨w.heap.size + 1, 10, none⟩ = false := X1.out.thaw 10
  have g11 : W5.frozen? ⟨w.heap.size + 1, 11, none⟩ = false := X1.out.thaw 11
  go_wp2
  obtain ⟨W9, e9⟩ : ∃ W9, W9 = ((((((((((((W5.setCell ⟨w.heap.size + 1, 0, none⟩ (.int .i64 k)).setCell ⟨w.heap.size + 1, 1, none⟩ (.int .i64 m)).setCell ⟨w.heap.size + 1, 2, none⟩ (.int .i64 d)).setCell ⟨w.heap.size + 1, 3, none⟩ (.int .i64 a)).setCell ⟨w.heap.size + 1, 4, none⟩ (.int .i64 b)).setCell ⟨w.heap.size + 1, 5, none⟩ (.int .i64 c)).setCell ⟨w.heap.size + 1, 6, none⟩ (.bool t)).setCell ⟨w.heap.size + 1, 7, none⟩ (.string s)).setCell ⟨w.heap.size + 1, 8, none⟩ (.int .i64 p)).setCell ⟨w.heap.size + 1, 9, none⟩ (.int .i64 y)).setCell ⟨w.heap.size + 1, 10, none⟩ (.int .i64 so)).setCell ⟨w.heap.size + 1, 11, none⟩ (.int .i64 ca)) := ⟨_, rfl⟩
  have Z9 : Blk W9 (w.heap.size + 1) #[.int .i64 k, .int .i64 m, .int .i64 d, .int .i64 a, .int .i64 b, .int .i64 c, .bool t, .string s, .int .i64 p, .int .i64 y, .int .i64 so, .int .i64 ca] 59 := by rw [e9]; exact (setToS (vs' := #[.int .i64 k, .int .i64 m, .int .i64 d, .int .i64 a, .int .i64 b, .int .i64 c, .bool t, .string s, .int .i64 p, .int .i64 y, .int .i64 so, .int .i64 ca]) (setToS (vs' := #[.int .i64 k, .int .i64 m, .int .i64 d, .int .i64 a, .int .i64 b, .int .i64 c, .bool t, .string s, .int .i64 p, .int .i64 y, .int .i64 so, .int .i64 0]) (setToS (vs' := #[.int .i64 k, .int .i64 m, .int .i64 d, .int .i64 a, .int .i64 b, .int .i64 c, .bool t, .string s, .int .i64 p, .int .i64 y, .int .i64 0, .int .i64 0]) (setToS (vs' := #[.int .i64 k, .int .i64 m, .int .i64 d, .int .i64 a, .int .i64 b, .int .i64 c, .bool t, .string s, .int .i64 p, .int .i64 0, .int .i64 0, .int .i64 0]) (setToS (vs' := #[.int .i64 k, .int .i64 m, .int .i64 d, .int .i64 a, .int .i64 b, .int .i64 c, .bool t, .string s, .int .i64 0, .int .i64 0, .int .i64 0, .int .i64 0]) (setToS (vs' := #[.int .i64 k, .int .i64 m, .int .i64 d, .int .i64 a, .int .i64 b, .int .i64 c, .bool t, .string ⟨#[]⟩, .int .i64 0, .int .i64 0, .int .i64 0, .int .i64 0]) (setToS (vs' := #[.int .i64 k, .int .i64 m, .int .i64 d, .int .i64 a, .int .i64 b, .int .i64 c, .bool false, .string ⟨#[]⟩, .int .i64 0, .int .i64 0, .int .i64 0, .int .i64 0]) (setToS (vs' := #[.int .i64 k, .int .i64 m, .int .i64 d, .int .i64 a, .int .i64 b, .int .i64 0, .bool false, .string ⟨#[]⟩, .int .i64 0, .int .i64 0, .int .i64 0, .int .i64 0]) (setToS (vs' := #[.int .i64 k, .int .i64 m, .int .i64 d, .int .i64 a, .int .i64 0, .int .i64 0, .bool false, .string ⟨#[]⟩, .int .i64 0, .int .i64 0, .int .i64 0, .int .i64 0]) (setToS (vs' := #[.int .i64 k, .int .i64 m, .int .i64 d, .int .i64 0, .int .i64 0, .int .i64 0, .bool false, .string ⟨#[]⟩, .int .i64 0, .int .i64 0, .int .i64 0, .int .i64 0]) (setToS (vs' := #[.int .i64 k, .int .i64 m, .int .i64 0, .int .i64 0, .int .i64 0, .int .i64 0, .bool false, .string ⟨#[]⟩, .int .i64 0, .int .i64 0, .int .i64 0, .int .i64 0]) (setToS (vs' := #[.int .i64 k, .int .i64 0, .int .i64 0, .int .i64 0, .int .i64 0, .int .i64 0, .bool false, .string ⟨#[]⟩, .int .i64 0, .int .i64 0, .int .i64 0, .int .i64 0]) X1.out 0 _ rfl) 1 _ rfl) 2 _ rfl) 3 _ rfl) 4 _ rfl) 5 _ rfl) 6 _ rfl) 7 _ rfl) 8 _ rfl) 9 _ rfl) 10 _ rfl) 11 _ rfl)
  have B9 : Below w.heap.size w W9 := by rw [e9]; exact (below_store (below_store (below_store (below_store (below_store (below_store (below_store (below_store (below_store (below_store (below_store (below_store B5.out (b := w.heap.size + 1) (i := 0) _ (by omega)) (b := w.heap.size + 1) (i := 1) _ (by omega)) (b := w.heap.size + 1) (i := 2) _ (by omega)) (b := w.heap.size + 1) (i := 3) _ (by omega)) (b := w.heap.size + 1) (i := 4) _ (by omega)) (b := w.heap.size + 1) (i := 5) _ (by omega)) (b := w.heap.size + 1) (i := 6) _ (by omega)) (b := w.heap.size + 1) (i := 7) _ (by omega)) (b := w.heap.size + 1) (i := 8) _ (by omega)) (b := w.heap.size + 1) (i := 9) _ (by omega)) (b := w.heap.size + 1) (i := 10) _ (by omega)) (b := w.heap.size + 1) (i := 11) _ (by omega))
  rw [← e9]
  clear e9
  have q0 : W9.cell? ⟨w.heap.size + 1, 0, none⟩ = some (.int .i64 k) := Z9.cell 0 rfl
  have q1 : W9.cell? ⟨w.heap.size + 1, 1, none⟩ = some (.int .i64 m) := Z9.cell 1 rfl
  have q2 : W9.cell? ⟨w.heap.size + 1, 2, none⟩ = some (.int .i64 d) := Z9.cell 2 rfl
  have q3 : W9.cell? ⟨w.heap.size + 1, 3, none⟩ = some (.int .i64 a) := Z9.cell 3 rfl
  have q4 : W9.cell? ⟨w.heap.size + 1, 4, none⟩ = some (.int .i64 b) := Z9.cell 4 rfl
  have q5 : W9.cell? ⟨w.heap.size + 1, 5, none⟩ = some (.int .i64 c) := Z9.cell 5 rfl
  have q6 : W9.cell? ⟨w.heap.size + 1, 6, none⟩ = some (.bool t) := Z9.cell 6 rfl
  have q7 : W9.cell? ⟨w.heap.size + 1, 7, none⟩ = some (.string s) := Z9.cell 7 rfl
  have q8 : W9.cell? ⟨w.heap.size + 1, 8, none⟩ = some (.int .i64 p) := Z9.cell 8 rfl
  have q9 : W9.cell? ⟨w.heap.size + 1, 9, none⟩ = some (.int .i64 y) := Z9.cell 9 rfl
  have q10 : W9.cell? ⟨w.heap.size + 1, 10, none⟩ = some (.int .i64 so) := Z9.cell 10 rfl
  have q11 : W9.cell? ⟨w.heap.size + 1, 11, none⟩ = some (.int .i64 ca) := Z9.cell 11 rfl
  exact bodyPost_ret (by simp [results, Tryz.results29, go_sem, q0, q1, q2, q3, q4, q5, q6, q7, q8, q9, q10, q11]; first | done | rfl) rfl ⟨rfl, B9⟩
end Go.Proofs.YtjojgfdfbkmlkaaGreatDoor.ctr
