/- What a law is told of a list of reigns that comes in; and what else the law reaches. -/
import Derived.Test.YtpclaceefapppaaGreatDoorRgnListZ
import Derived.Deep.Slices
import Derived.Lib.SmallJoins
import Derived.Laws.MakeOwn
import Derived.Deep.RegionWith
import Derived.Test.YtpclaceefapppaaGreatDoorJnZan
import Derived.Test.YtpclaceefapppaaGreatDoorJnZag
import Derived.Test.YtpclaceefapppaaGreatDoorJnZam
import Derived.Test.YtpclaceefapppaaGreatDoorJnZai
import Derived.Lib.CutLaws
import Derived.Lib.IndexBytes
import Derived.Lib.IndexLaws
set_option maxRecDepth 100000
set_option maxHeartbeats 4000000
namespace Go.Proofs.YtpclaceefapppaaGreatDoor.ctr
open Go.RowKit
def RIn (w : World) (a : Option Addr) (len cap : Nat) (l : List Rgn) : Prop :=
 l.length = len ∧ len ≤ cap ∧ cap ≤ maxLen ∧ (∀ k, k < len → (rgA l k).name.size ≤ maxLen) ∧
 ((a = none ∧ len = 0) ∨ ∃ x, a = some x ∧ ∀ k, k < len → w.cell? (x.add (k * 3)) = some (.string (rgA l k).name) ∧ w.cell? (x.add (k * 3 + 1)) = some (.int .i64 (rgA l k).fr) ∧ w.cell? (x.add (k * 3 + 2)) = some (.int .i64 (rgA l k).to))
end Go.Proofs.YtpclaceefapppaaGreatDoor.ctr
namespace Go.Proofs.YtpclaceefapppaaGreatDoor.kit
open Go.RowKit Go.WideShapes Go.Deep Go.ChangeShapes
theorem open_rgns {H : Type} {enc : TypeId × Value → H} {P : Program} {w : World} {base : Nat} {spare : Nat → Bool} {held : Bool} {t e : TypeId} {f0 f1 f2 : Field} {a : Option Addr} {len cap : Nat} {x : DataW H} {p : List MemPlace}
    (ht : P.underlying t = some (.slice e)) (he : P.underlying e = some (.struct #[f0, f1, f2])) (ce : P.cellsOf e = 3) (o0 : f0.offset = 0) (o1 : f1.offset = 1) (o2 : f2.offset = 2) (c0 : P.cellsOf f0.type = 1) (c1 : P.cellsOf f1.type = 1) (c2 : P.cellsOf f2.type = 1)
    (u0 : P.underlying f0.type = some .string) (u1 : P.underlying f1.type = some (.int .i64)) (u2 : P.underlying f2.type = some (.int .i64))
    (h : DataW.Trod enc P w base spare held t (.slice a len cap) x p) : ∃ l : List ctr.Rgn, ctr.RIn w a len cap l := by
  obtain ⟨fuel, h⟩ := h
  simp only [Value.cells] at h
  rcases open_slice ht h with ⟨h0, _⟩ | ⟨a', len', cap', m, n, D, Pl, e', hb, hl, hm, hmm, hxp, hx⟩
  · simp at h0
    obtain ⟨rfl, rfl, rfl⟩ := h0
    exact ⟨[], rfl, Nat.le_refl _, by unfold maxLen; omega, fun k hk => by omega, .inl ⟨rfl, rfl⟩⟩
  · simp at e'
    obtain ⟨rfl, rfl, rfl⟩ := e'
    have hlm : len ≤ m := by rw [hmm]; split <;> omega
    have each : ∀ i, i < len → ∃ r : ctr.Rgn, r.name.size ≤ maxLen ∧ w.cell? (a'.add (i * 3)) = some (.string r.name) ∧ w.cell? (a'.add (i * 3 + 1)) = some (.int .i64 r.fr) ∧ w.cell? (a'.add (i * 3 + 2)) = some (.int .i64 r.to) := by
     intro i hi
     obtain ⟨cs', h1, h2⟩ := hx i (by omega)
     rw [ce] at h1
     obtain ⟨_, hlen, hcell⟩ := World.cells?_some h1
     obtain ⟨xs, k, hk, hxy, _, hxl, hf⟩ := DataW.trod_struct he h2
     match xs, hxl, cs', hlen with
     | [y0, y1, y2], _, [v0, v1, v2], _ =>
      have g0 := hf 0 f0 rfl
      have g1 := hf 1 f1 rfl
      have g2 := hf 2 f2 rfl
      simp [o0, o1, o2, c0, c1, c2] at g0 g1 g2
      have e0 := hcell 0 (by omega)
      have e1 := hcell 1 (by omega)
      have e2 := hcell 2 (by omega)
      rw [add_add] at e0 e1 e2
      obtain ⟨s, q0, _, hsm⟩ := DataW.trod_string u0 g0
      obtain ⟨z1, q1, _, _⟩ := DataW.trod_int u1 g1
      obtain ⟨z2, q2, _, _⟩ := DataW.trod_int u2 g2
      simp only [List.cons.injEq, and_true] at q0 q1 q2
      subst q0 q1 q2
      exact ⟨⟨s, z1, z2⟩, hsm, by simpa using e0, by simpa using e1, by simpa using e2⟩
    obtain ⟨R, hR⟩ : ∃ R : Nat → ctr.Rgn, ∀ i, i < len → (R i).name.size ≤ maxLen ∧ w.cell? (a'.add (i * 3)) = some (.string (R i).name) ∧ w.cell? (a'.add (i * 3 + 1)) = some (.int .i64 (R i).fr) ∧ w.cell? (a'.add (i * 3 + 2)) = some (.int .i64 (R i).to) := by
     classical
     refine ⟨fun i => if h : i < len then (each i h).choose else ctr.r0, fun i hi => ?_⟩
     simp only [dif_pos hi]
     exact (each i hi).choose_spec
    have hat : ∀ k, k < len → ctr.rgA ((List.range len).map R) k = R k := fun k hk => by simp [ctr.rgA, List.getD, hk]
    refine ⟨(List.range len).map R, by simp, hl, hm, fun k hk => by rw [hat k hk]; exact (hR k hk).1, .inr ⟨a', rfl, fun k hk => by rw [hat k hk]; exact (hR k hk).2⟩⟩
end Go.Proofs.YtpclaceefapppaaGreatDoor.kit
namespace Go.Proofs.YtpclaceefapppaaGreatDoor.kit
open Go.RowKit Go.WideShapes Go.Deep
theorem three {α : Type} {cs : Array α} (h : cs.size = 3) : ∃ a b c, cs = #[a, b, c] := by
 obtain ⟨l⟩ := cs
 match l, h with
 | [a, b, c], _ => exact ⟨a, b, c, rfl⟩
end Go.Proofs.YtpclaceefapppaaGreatDoor.kit
namespace Go.Proofs.YtpclaceefapppaaGreatDoor.ctr
open Go.RowKit
def szR (n : Nat) (left : Int) : Int := if left < n then -1 else left - n
theorem szReign (s : ByteArray) (f t left : Int) (w : World) (hs : s.size ≤ maxLen) (h1 : 0 ≤ left) (h2 : left ≤ 1048576) : CR 50 #[.agg #[.string s, .int .i64 f, .int .i64 t], .int .i64 left] w (.int .i64 (szR s.size left)) := by
 unfold maxLen at hs
 unfold szR
 by_cases h : left < s.size
 · rw [if_pos h]
   go_enter Tryz.func50, Tryz.ntmps50
   go_wp2
   go_ret
   exact ⟨rfl, (Below.refl _ _).alloc (Nat.le_refl _) _⟩
 · rw [if_neg h]
   go_enter Tryz.func50, Tryz.ntmps50
   go_wp2
   go_ret
   exact ⟨rfl, (Below.refl _ _).alloc (Nat.le_refl _) _⟩
theorem toReign (s : ByteArray) (f t : Int) (w : World) : CR 67 #[.agg #[.string s, .int .i64 f, .int .i64 t]] w (.agg #[.string s, .int .i64 f, .int .i64 t]) := by
 go_enter Tryz.func67, Tryz.ntmps67
 go_wp2
 go_returns
 refine ⟨rfl, ?_⟩
 go_grown
theorem eqReign1 (s : ByteArray) (f t : Int) (w : World) : CR 89 #[.agg #[.string s, .int .i64 f, .int .i64 t], .agg #[.string s, .int .i64 f, .int .i64 t]] w (.bool true) := by
 go_enter Tryz.func89, Tryz.ntmps89
 go_wp2
 go_ret
 exact ⟨rfl, ((Below.refl _ _).alloc (Nat.le_refl _) _).alloc (by rw [World.size_alloc]; omega) _⟩
def SizeOk (l : List Rgn) : Prop := l.length ≤ 1048576 ∧ ∀ k, k < l.length → (rgA l k).name.size ≤ 1048576
theorem SizeOk.names {l : List Rgn} (h : SizeOk l) : ∀ k, k < l.length → (rgA l k).name.size ≤ maxLen := fun k hk => by
 have := h.2 k hk
 unfold maxLen
 omega
theorem len_ok {l : List Rgn} (h : SizeOk l) : l.length ≤ maxLen := by
 have := h.1
 unfold maxLen
 omega
theorem RIn.below {w w' : World} {a : Option Addr} {len cap : Nat} {l : List Rgn} (h : RIn w a len cap l) (hb : Below w.heap.size w w') : RIn w' a len cap l := by
 obtain ⟨h1, h2, h3, h4, h5⟩ := h
 refine ⟨h1, h2, h3, h4, ?_⟩
 rcases h5 with h5 | ⟨x, hx, h⟩
 · exact .inl h5
 · exact .inr ⟨x, hx, fun k hk => ⟨Later.at (h k hk).1 ⟨w', hb⟩, Later.at (h k hk).2.1 ⟨w', hb⟩, Later.at (h k hk).2.2 ⟨w', hb⟩⟩⟩
theorem add_off (x : Addr) (n j : Nat) (h : 0 < j) : x.add (n + j) = ⟨(x.add n).block, (x.add n).off + j, none⟩ := by
 unfold Addr.add
 rw [if_neg (by omega)]
 split
 · rename_i e
   subst e
   simp
 · simp only [Nat.add_assoc]
theorem RIn.at {w : World} {a : Option Addr} {len cap : Nat} {l : List Rgn} (h : RIn w a len cap l) {k : Nat} (hk : k < len) : ∃ x, a = some x ∧ ∀ y : Later w, y.w.cell? (x.add (k * 3)) = some (.string (rgA l k).name) ∧ y.w.cell? ⟨(x.add (k * 3)).block, (x.add (k * 3)).off + 1, none⟩ = some (.int .i64 (rgA l k).fr) ∧ y.w.cell? ⟨(x.add (k * 3)).block, (x.add (k * 3)).off + 2, none⟩ = some (.int .i64 (rgA l k).to) := by
 obtain ⟨_, _, _, _, ⟨_, h0⟩ | ⟨x, hx, h⟩⟩ := h
 · omega
 · obtain ⟨h1, h2, h3⟩ := h k hk
   rw [add_off x _ _ (by omega)] at h2 h3
   exact ⟨x, hx, fun y => ⟨Later.at h1 y, Later.at h2 y, Later.at h3 y⟩⟩
theorem szReignS (a : Option Addr) (len cap : Nat) (l : List Rgn) (w : World) (h : RIn w a len cap l) : Calls Tryz.prog 27 #[.slice a len cap, .int .i64 1048576] w fun e w' => ∃ z : Int, e = .returned (.int .i64 z) ∧ (z = -1 ∨ (0 ≤ z ∧ SizeOk l)) ∧ Below w.heap.size w w' := by
 have hcap := h.2.2.1
 have hlc := h.2.1
 have hn := hideP h.2.2.2.1
 have hL := hideP h.1
 have H := hideP h
 unfold maxLen at hcap
 clear h
 by_cases hbig : (1048576 : Int) < len
 · go_enter Tryz.func27, Tryz.ntmps27
   go_wp2
   go_ret
   exact ⟨_, rfl, .inl rfl, Below.refl _ _⟩
 go_enter Tryz.func27, Tryz.ntmps27
 go_wp2
 go_loopw [1, 5] (fun z i wr => ∃ (k : Nat) (q : Int), k ≤ len ∧ i = .int .i64 (k : Int) ∧ z = .int .i64 q ∧ 0 ≤ q ∧ q ≤ 1048576 ∧ Hid (∀ j, j < k → (rgA l j).name.size ≤ 1048576) ∧ Below w.heap.size w wr) (fun _ i _ => len - (intOf i).toNat)
 case atStart => exact ⟨0, 1048576 - (len : Int), Nat.zero_le _, rfl, by go_num, by omega, by omega, fun j hj => by omega, Below.refl _ _⟩
 case round =>
  obtain ⟨k, q, hk, rfl, rfl, q1, q2, HS, hB⟩ := hrel
  have HB := hideP hB
  clear hB
  by_cases hlt : k < len
  · obtain ⟨x, rfl, hx⟩ := H.out.at hlt
    obtain ⟨c0, c1, c2⟩ := hx ⟨wr, HB.out⟩
    have hnk := hn.out k hlt
    dsimp only at c0 c1 c2
    have HN := hideP (show szR (rgA l k).name.size q = -1 ∨ (0 ≤ szR (rgA l k).name.size q ∧ szR (rgA l k).name.size q ≤ 1048576 ∧ (rgA l k).name.size ≤ 1048576) by unfold szR; split <;> omega)
    have HK : Hid (∀ W, CR 50 #[.agg #[.string (rgA l k).name, .int .i64 (rgA l k).fr, .int .i64 (rgA l k).to], .int .i64 q] W (.int .i64 (szR (rgA l k).name.size q))) := fun W => szReign _ _ _ _ W hnk q1 q2
    have HJ : Hid ((rgA l k).name.size ≤ 1048576 → ∀ j, j < k + 1 → (rgA l j).name.size ≤ 1048576) := fun g j hj => by
     by_cases e : j = k
     · subst e; exact g
     · exact HS.out j (by omega)
    clear hx hnk
    generalize szR (rgA l k).name.size q = z at *
    generalize rgA l k = r at *
    go_wp2_with fail
    refine (HK.out _).mono ?_
    rintro e w1 ⟨rfl, hb⟩
    have HB1 : Hid (Below w.heap.size w w1) := HB.out.trans (hb.mono HB.out.size)
    clear hb c0 c1 c2
    rcases HN.out with rfl | ⟨z1, z2, z3⟩
    · go_wp2
      go_ret
      exact ⟨_, rfl, .inl rfl, HB1.out⟩
    · go_wp2
      exact ⟨⟨k + 1, z, by omega, by go_num, rfl, z1, z2, HJ.out z3, HB1.out⟩, by simp [intOf]; omega⟩
  · go_wp2
    go_ret
    exact ⟨_, rfl, .inr ⟨q1, by rw [hL.out]; omega, by rw [hL.out]; exact fun j hj => HS.out j (by omega)⟩, HB.out⟩
def rPart (l : List Rgn) (k : Nat) (cs : Array Value) : Prop := cs.size = l.length * 3 ∧ ∀ j, j < k * 3 → cs[j]? = (rA l)[j]?
theorem rPart_next {l : List Rgn} {k : Nat} {cs : Array Value} (h : rPart l k cs) (hk : k < l.length) :
    rPart l (k + 1) (((cs.setIfInBounds (k * 3) (.string (rgA l k).name)).setIfInBounds (k * 3 + 1) (.int .i64 (rgA l k).fr)).setIfInBounds (k * 3 + 2) (.int .i64 (rgA l k).to)) := by
  obtain ⟨h1, h2⟩ := h
  refine ⟨by simp [h1], fun j hj => ?_⟩
  by_cases e2 : j = k * 3 + 2
  · subst e2
    rw [rA_at 2 hk rfl, Array.getElem?_setIfInBounds_self_of_lt (by simp; omega)]
  · rw [Array.getElem?_setIfInBounds_ne (by omega)]
    by_cases e1 : j = k * 3 + 1
    · subst e1
      rw [rA_at 1 hk rfl, Array.getElem?_setIfInBounds_self_of_lt (by simp; omega)]
    · rw [Array.getElem?_setIfInBounds_ne (by omega)]
      by_cases e0 : j = k * 3
      · subst e0
        have := rA_at (l := l) (k := k) 0 hk rfl
        rw [Nat.add_zero] at this
        rw [this, Array.getElem?_setIfInBounds_self_of_lt (by omega)]
      · rw [Array.getElem?_setIfInBounds_ne (by omega)]
        exact h2 j (by omega)
theorem rPart_all {l : List Rgn} {cs : Array Value} (h : rPart l l.length cs) : cs = rA l := by
 apply Array.ext_getElem?
 intro j
 by_cases hj : j < l.length * 3
 · exact h.2 j hj
 · rw [Array.getElem?_eq_none (by rw [h.1]; omega), Array.getElem?_eq_none (by rw [rA_size]; omega)]
theorem info_rgn : (Tryz.prog.info? 99).map (fun i => (i.zero, i.size, i.bytes)) = some (some (.agg #[.string ⟨#[]⟩, .int .i64 0, .int .i64 0]), 3, 32) := by kernel_rfl
def rzero : Array Value := #[.string ⟨#[]⟩, .int .i64 0, .int .i64 0]
theorem make_rgns (n : Nat) (hn : n ≤ 1048576) (W : World) : (Instr.makeSlice 33 (.int .i64 (n : Int)) (.int .i64 (n : Int))).run Tryz.prog W = .ok (.slice (some ⟨W.heap.size, 0, none⟩) n n) (W.alloc (.cells (madeCells rzero (n * 3)) 99)) := by
 obtain ⟨i0, hi, e⟩ := Option.map_eq_some_iff.1 info_rgn
 simp only [Prod.mk.injEq] at e
 obtain ⟨hz, hs, hb⟩ := e
 have h := run_make (P := Tryz.prog) W 33 99 i0 _ Tryz.underlying33 hi hz .i64 .i64 (n : Int) (n : Int) (by omega) (by omega) (by rw [hb]; omega) (by omega)
 rw [hs] at h
 simp only [Int.toNat_natCast] at h
 exact h
theorem toReignS (a : Option Addr) (len cap : Nat) (l : List Rgn) (w : World) (h : RIn w a len cap l) (hs : SizeOk l) : Calls Tryz.prog 33 #[.slice a len cap] w fun e w' => ∃ v, e = .returned v ∧ RNew w w' v l ∧ Below w.heap.size w w' := by
 have hlen := h.1
 have hl : len ≤ 1048576 := by rw [← hlen]; exact hs.1
 have H := hideP h
 have HL := hideP hlen
 have hmk := make_rgns len hl
 have hpart : Hid (rPart l 0 (madeCells rzero (len * 3))) := ⟨by rw [size_madeCells, hlen], fun j hj => by omega⟩
 clear h hs hlen
 go_enter Tryz.func33, Tryz.ntmps33
 go_wp2
 go_loopw [4] (fun i wr => ∃ (k : Nat) (cs : Array Value), k ≤ len ∧ i = .int .i64 (k : Int) ∧ rPart l k cs ∧ Blk wr w.heap.size cs 99 ∧ Below w.heap.size w wr) (fun i _ => len - (intOf i).toNat)
 case atStart => exact ⟨0, _, Nat.zero_le _, rfl, hpart.out, Blk.new w _ _, (Below.refl _ _).alloc (Nat.le_refl _) _⟩
 case round =>
  obtain ⟨k, cs, hk, rfl, hp, hb, hB⟩ := hrel
  have HB := hideP hB
  have HP := hideP hp
  have HK := hideP hb
  clear hB hp hb
  by_cases hlt : k < len
  · obtain ⟨x, rfl, hx⟩ := H.out.at hlt
    obtain ⟨c0, c1, c2⟩ := hx ⟨wr, HB.out⟩
    dsimp only at c0 c1 c2
    have HN := hideP (rPart_next HP.out (by rw [HL.out]; exact hlt))
    clear hx
    generalize rgA l k = r at *
    go_wp2_with fail
    refine (toReign _ _ _ _).mono ?_
    rintro e w1 ⟨rfl, hb⟩
    have HB1 : Hid (Below w.heap.size w w1) := HB.out.trans (hb.mono HB.out.size)
    have HK1 := HK.out.below hb HK.out.lt
    clear hb c0 c1 c2 hmk
    have hsz : cs.size = len * 3 := by rw [HP.out.1, HL.out]
    have d0 := HK1.cell (k * 3) (v := cs[k * 3]'(by omega)) (by simp)
    have d1 := HK1.cell (k * 3 + 1) (v := cs[k * 3 + 1]'(by omega)) (by simp)
    have d2 := HK1.cell (k * 3 + 2) (v := cs[k * 3 + 2]'(by omega)) (by simp)
    have t0 := HK1.thaw (k * 3)
    have t1 := HK1.thaw (k * 3 + 1)
    have t2 := HK1.thaw (k * 3 + 2)
    have HS := hideP HK1
    generalize cs[k * 3]'(by omega) = v0 at d0
    generalize cs[k * 3 + 1]'(by omega) = v1 at d1
    generalize cs[k * 3 + 2]'(by omega) = v2 at d2
    clear HK1 hsz
    go_wp2
    exact ⟨⟨k + 1, _, by omega, by go_num, HN.out, ((HS.out.set _ _).set _ _).set _ _, below_store (below_store (below_store HB1.out _ (Nat.le_refl _)) _ (Nat.le_refl _)) _ (Nat.le_refl _)⟩, by simp [intOf]; omega⟩
  · have hkn : k = l.length := by rw [HL.out]; omega
    have HP' := HP.out
    rw [hkn] at HP'
    have hcs := rPart_all HP'
    have HC := hideP hcs
    clear hcs HP' hkn
    go_wp2
    go_ret
    exact ⟨.slice (some ⟨w.heap.size, 0, none⟩) len len, rfl, ⟨w.heap.size, 99, by rw [HL.out], Nat.le_refl _, by rw [← HC.out]; exact HK.out⟩, HB.out⟩
theorem eqReignS (v1 v2 : Value) (l : List Rgn) (w : World) (h1 : RRow w v1 l) (h2 : RRow w v2 l) : CR 39 #[v1, v2] w (.bool true) := by
 obtain ⟨a1, c1, rfl, l1, m1, _, H1⟩ := h1
 obtain ⟨a2, c2, rfl, _, _, _, H2⟩ := h2
 have K1 := hideP H1
 have K2 := hideP H2
 unfold maxLen at m1
 clear H1 H2
 go_enter Tryz.func39, Tryz.ntmps39
 go_wp2
 go_loopw [5] (fun i wr => ∃ k : Nat, k ≤ l.length ∧ i = .int .i64 (k : Int) ∧ Below w.heap.size w wr) (fun i _ => l.length - (intOf i).toNat)
 case atStart => exact ⟨0, Nat.zero_le _, rfl, Below.refl _ _⟩
 case round =>
  obtain ⟨k, hk, rfl, hB⟩ := hrel
  have HB := hideP hB
  clear hB
  by_cases hlt : k < l.length
  · obtain ⟨g1, rfl, hg1, x1⟩ := K1.out k hlt
    obtain ⟨g2, rfl, hg2, x2⟩ := K2.out k hlt
    obtain ⟨a0, a1, a2⟩ := x1.below HB.out hg1
    obtain ⟨b0, b1, b2⟩ := x2.below HB.out hg2
    clear x1 x2
    generalize rgA l k = r at *
    go_wp2
    go_region_with (go_at_call 89; refine (eqReign1 _ _ _ _).mono ?_; rintro e w2 ⟨rfl, hb2⟩; have HB2 : Hid (Below w.heap.size w w2) := HB.out.trans ⟨hb2.os, hb2.tape, hb2.output, Nat.le_trans (Nat.le_refl _) hb2.size, fun j hj => hb2.block j (Nat.lt_of_lt_of_le hj HB.out.size)⟩; clear hb2)
    all_goals go_wp2
    all_goals exact ⟨⟨k + 1, by omega, by go_num, HB2.out⟩, by simp [intOf]; omega⟩
  · go_wp2
    go_ret
    exact ⟨rfl, HB.out⟩
noncomputable def bothB (n : Int) : Bool := (dateOf 0 n).2.2.2.2 && (dateOf 1 n).2.2.2.2
noncomputable def endsB (f t : Int) : Bool := bothB f && bothB t
noncomputable def rgnB (r : Rgn) : Bool := nameOk r.name && (decide (r.fr ≤ r.to) && endsB r.fr r.to)
theorem rgn_box (w : World) (s : ByteArray) (f t : Int) (T : TypeId) : ∃ W0, W0 = w.alloc (.cells #[.string s, .int .i64 f, .int .i64 t] T) ∧ (∀ x : Later W0, x.w.cell? ⟨w.heap.size, 0, none⟩ = some (.string s)) ∧ (∀ x : Later W0, x.w.cell? ⟨w.heap.size, 1, none⟩ = some (.int .i64 f)) ∧ (∀ x : Later W0, x.w.cell? ⟨w.heap.size, 2, none⟩ = some (.int .i64 t)) ∧ ∀ x : Later W0, Below w.heap.size w x.w :=
 ⟨_, rfl, Later.new rfl 0 rfl, Later.new rfl 1 rfl, Later.new rfl 2 rfl, fun x => below_alloc x.below⟩
theorem implBoth (n : Int) (w : World) (hT : Tab w) : CR 291 #[.int .i64 n] w (.bool (bothB n)) := by
 rcases h0 : dateOf 0 n with ⟨a0, y0, m0, d0, b0⟩
 rcases h1 : dateOf 1 n with ⟨a1, y1, m1, d1, b1⟩
 have K0 : ∀ W, Below w.heap.size w W → CR 137 #[.int .i64 0, .int .i64 n] W (.tuple #[.agg #[.int .i64 a0, .int .i64 y0, .int .i64 m0, .int .i64 d0], .bool b0]) := fun W hb => by
  have := implDateOf 0 n W (hT.later hb)
  unfold dateR at this
  rw [h0] at this
  exact this
 have K1 : ∀ W, Below w.heap.size w W → CR 137 #[.int .i64 1, .int .i64 n] W (.tuple #[.agg #[.int .i64 a1, .int .i64 y1, .int .i64 m1, .int .i64 d1], .bool b1]) := fun W hb => by
  have := implDateOf 1 n W (hT.later hb)
  unfold dateR at this
  rw [h1] at this
  exact this
 have HR : Hid (bothB n = (b0 && b1)) := by unfold Hid bothB; rw [h0, h1]
 clear h0 h1 hT
 go_enter Tryz.func291, Tryz.ntmps291
 go_wp2_with fail
 refine (K0 _ (Below.refl _ _)).mono ?_
 rintro e w1 ⟨rfl, hb⟩
 have B1 := hideP hb
 clear hb
 go_wp2_with fail
 refine (K1 _ (B1.out.alloc B1.out.size _)).mono ?_
 rintro e w2 ⟨rfl, hb⟩
 have B2 : Hid (Below w.heap.size w w2) := B1.out.trans ((below_alloc hb).mono B1.out.size)
 clear hb
 cases b0
 · go_wp2
   go_ret
   exact ⟨by rw [HR.out]; rfl, B2.out.alloc B2.out.size _⟩
 · go_wp2
   go_ret
   exact ⟨by rw [HR.out]; rfl, B2.out.alloc B2.out.size _⟩
theorem specDated (n : Int) (w : World) : CR 107 #[.int .i64 n] w (.bool (bothB n)) := by
 rcases h0 : dateOf 0 n with ⟨a0, y0, m0, d0, b0⟩
 rcases h1 : dateOf 1 n with ⟨a1, y1, m1, d1, b1⟩
 have K0 : ∀ W, CR 154 #[.int .i64 0, .int .i64 n] W (.tuple #[.agg #[.int .i64 a0, .int .i64 y0, .int .i64 m0, .int .i64 d0], .bool b0]) := fun W => by
  have := specDateOf 0 n W
  unfold dateR at this
  rw [h0] at this
  exact this
 have K1 : ∀ W, CR 154 #[.int .i64 1, .int .i64 n] W (.tuple #[.agg #[.int .i64 a1, .int .i64 y1, .int .i64 m1, .int .i64 d1], .bool b1]) := fun W => by
  have := specDateOf 1 n W
  unfold dateR at this
  rw [h1] at this
  exact this
 have HR : Hid (bothB n = (b0 && b1)) := by unfold Hid bothB; rw [h0, h1]
 clear h0 h1
 go_enter Tryz.func107, Tryz.ntmps107
 go_wp2_with fail
 refine (K0 _).mono ?_
 rintro e w1 ⟨rfl, hb⟩
 have B1 := hideP hb
 clear hb
 go_wp2_with fail
 refine (K1 _).mono ?_
 rintro e w2 ⟨rfl, hb⟩
 have B2 : Hid (Below w.heap.size w w2) := B1.out.trans ((below_alloc hb).mono B1.out.size)
 clear hb
 cases b0
 · go_wp2
   go_ret
   exact ⟨by rw [HR.out]; rfl, B2.out.alloc B2.out.size _⟩
 · go_wp2
   go_ret
   exact ⟨by rw [HR.out]; rfl, B2.out.alloc B2.out.size _⟩
theorem implEnds (s : ByteArray) (f t : Int) (w : World) (hT : Tab w) : CR 251 #[.agg #[.string s, .int .i64 f, .int .i64 t]] w (.bool (endsB f t)) := by
 obtain ⟨W0, hW0, c0, c1, c2, hBl⟩ := rgn_box w s f t 99
 have HW0 := hideP hW0
 have HBl := hideP hBl
 have K1 : ∀ x : Later W0, CR 291 #[.int .i64 f] x.w (.bool (bothB f)) := fun x => implBoth f x.w (hT.later (hBl x))
 have K2 : ∀ x : Later W0, CR 291 #[.int .i64 t] x.w (.bool (bothB t)) := fun x => implBoth t x.w (hT.later (hBl x))
 unfold endsB
 clear hW0 hBl hT
 generalize bothB f = b1 at *
 generalize bothB t = b2 at *
 cases b1
 · go_enter Tryz.func251, Tryz.ntmps251
   go_wp2_with fail
   rw [← HW0.out]
   refine latO (K1 ⟨W0, Below.refl _ _⟩) fun x1 => ?_
   go_wp2
   go_ret
   exact ⟨rfl, HBl.out x1⟩
 · go_enter Tryz.func251, Tryz.ntmps251
   go_wp2_with fail
   rw [← HW0.out]
   refine latO (K1 ⟨W0, Below.refl _ _⟩) fun x1 => ?_
   go_wp2_with fail
   refine lat (K2 x1) fun x2 => ?_
   go_wp2
   go_ret
   exact ⟨rfl, HBl.out x2⟩
theorem same_belowR {W w' : World} (h : w' = W) : Below W.heap.size W w' := by rw [h]; exact Below.refl _ _
theorem implReignOk (s : ByteArray) (f t : Int) (w : World) (hs : s.size ≤ maxLen) (hT : Tab w) : CR 183 #[.agg #[.string s, .int .i64 f, .int .i64 t]] w (.bool (rgnB ⟨s, f, t⟩)) := by
 obtain ⟨W0, hW0, c0, c1, c2, hBl⟩ := rgn_box w s f t 99
 have HW0 := hideP hW0
 have HBl := hideP hBl
 have KN : ∀ x : Later W0, CR 73 #[.string s] x.w (.bool (nameOk s)) := fun x => (implNameOk s x.w hs).mono fun _ _ h => ⟨h.1, same_belowR h.2⟩
 have KE : ∀ x : Later W0, CR 251 #[.agg #[.string s, .int .i64 f, .int .i64 t]] x.w (.bool (endsB f t)) := fun x => implEnds s f t x.w (hT.later (hBl x))
 unfold rgnB
 dsimp only
 clear hW0 hBl hT hs
 generalize nameOk s = b1 at *
 generalize endsB f t = b2 at *
 cases b1
 · go_enter Tryz.func183, Tryz.ntmps183
   go_wp2_with fail
   rw [← HW0.out]
   refine latO (KN ⟨W0, Below.refl _ _⟩) fun x1 => ?_
   go_wp2
   go_ret
   exact ⟨rfl, HBl.out x1⟩
 rw [Bool.true_and]
 by_cases hft : f ≤ t
 · have hd : decide (f ≤ t) = true := decide_eq_true hft
   go_enter Tryz.func183, Tryz.ntmps183
   go_wp2_with fail
   rw [← HW0.out]
   refine latO (KN ⟨W0, Below.refl _ _⟩) fun x1 => ?_
   go_wp2_with fail
   refine lat (KE x1) fun x2 => ?_
   go_wp2
   go_ret
   exact ⟨by simp [hft], HBl.out x2⟩
 · have hd : decide (f ≤ t) = false := decide_eq_false hft
   go_enter Tryz.func183, Tryz.ntmps183
   go_wp2_with fail
   rw [← HW0.out]
   refine latO (KN ⟨W0, Below.refl _ _⟩) fun x1 => ?_
   go_wp2
   go_ret
   exact ⟨by rw [decide_eq_false (show ¬ f ≤ t by omega)]; rfl, HBl.out x1⟩
def behB (la : List Rgn) (f : Int) : Bool := decide (la.length = 0) || decide ((rgA la (la.length - 1)).to < f)
def namedR (l : List Rgn) (s : ByteArray) : Int := rfind (isNamed s) l
noncomputable def okAt (l : List Rgn) (i : Nat) : Bool := rgnB (rgA l i) && (behB (l.take i) (rgA l i).fr && decide (namedR (l.take i) (rgA l i).name = -1))
noncomputable def okTo (l : List Rgn) : Nat → Bool
  | 0 => true
  | k + 1 => okTo l k && okAt l k
noncomputable def reignsOk (l : List Rgn) : Bool := decide (l.length ≤ 30) && okTo l l.length
theorem okTo_bad {l : List Rgn} {k : Nat} (h : okAt l k = false) : ∀ n, k < n → okTo l n = false
  | 0, hn => by omega
  | n + 1, hn => by
   unfold okTo
   by_cases e : k = n
   · subst e; rw [h, Bool.and_false]
   · rw [okTo_bad h n (by omega), Bool.false_and]
theorem okTo_next {l : List Rgn} {k : Nat} (h : okTo l k = true) (h' : okAt l k = true) : okTo l (k + 1) = true := by unfold okTo; rw [h, h']; rfl
theorem ok_bad {l : List Rgn} {k : Nat} (h : okAt l k = false) (hk : k < l.length) : reignsOk l = false := by unfold reignsOk; rw [okTo_bad h _ hk, Bool.and_false]
theorem ok_long {l : List Rgn} (h : 30 < l.length) : reignsOk l = false := by unfold reignsOk; rw [decide_eq_false (by omega), Bool.false_and]
theorem ok_all {l : List Rgn} (h : okTo l l.length = true) : reignsOk l = decide (l.length ≤ 30) := by unfold reignsOk; rw [h, Bool.and_true]
noncomputable def badV (l : List Rgn) : Nat → Nat → Value
  | 0, _ => .nilIface
  | n + 1, k => if okAt l k = true then badV l n (k + 1) else .iface 213 (.agg #[.int .i64 (k : Int)])
noncomputable def errV (l : List Rgn) : Value := if 30 < l.length then .iface 213 (.agg #[.int .i64 30]) else badV l l.length 0
theorem bad_next {l : List Rgn} {k : Nat} {V : Value} (hk : k < l.length) (h : okAt l k = true) (H : badV l (l.length - k) k = V) : badV l (l.length - (k + 1)) (k + 1) = V := by
 rw [show l.length - k = (l.length - (k + 1)) + 1 by omega, badV, if_pos h] at H
 exact H
theorem bad_stop {l : List Rgn} {k : Nat} {V : Value} (hk : k < l.length) (h : okAt l k = false) (H : badV l (l.length - k) k = V) : V = .iface 213 (.agg #[.int .i64 (k : Int)]) := by
 rw [show l.length - k = (l.length - (k + 1)) + 1 by omega, badV, if_neg (by rw [h]; simp)] at H
 exact H.symm
theorem bad_end {l : List Rgn} {k : Nat} {V : Value} (hk : l.length ≤ k) (H : badV l (l.length - k) k = V) : V = .nilIface := by
 rw [show l.length - k = 0 by omega] at H
 exact H.symm
theorem errV_cases (l : List Rgn) : (reignsOk l = true ∧ errV l = .nilIface) ∨ (reignsOk l = false ∧ ∃ z : Int, errV l = .iface 213 (.agg #[.int .i64 z])) := by
 unfold errV
 by_cases hl : 30 < l.length
 · rw [if_pos hl]
   exact .inr ⟨ok_long hl, _, rfl⟩
 rw [if_neg hl]
 have go : ∀ n k, n + k = l.length → okTo l k = true → (reignsOk l = true ∧ badV l (l.length - k) k = .nilIface) ∨ (reignsOk l = false ∧ ∃ z : Int, badV l (l.length - k) k = .iface 213 (.agg #[.int .i64 z])) := by
  intro n
  induction n with
  | zero =>
   intro k hk ho
   obtain rfl : k = l.length := by omega
   refine .inl ⟨?_, bad_end (Nat.le_refl _) rfl⟩
   rw [ok_all ho]
   exact decide_eq_true (by omega)
  | succ n ih =>
   intro k hk ho
   cases h : okAt l k
   · exact .inr ⟨ok_bad h (by omega), _, bad_stop (by omega) h rfl⟩
   · have := ih (k + 1) (by omega) (okTo_next ho h)
     rw [bad_next (by omega) h rfl] at this
     exact this
 exact go l.length 0 (by omega) rfl
theorem behB_take {l : List Rgn} {i : Nat} (hi : i ≤ l.length) (f : Int) : behB (l.take i) f = (decide (i = 0) || decide ((rgA l (i - 1)).to < f)) := by
 unfold behB
 rw [show (l.take i).length = i by simp [hi]]
 by_cases h : i = 0
 · subst h; rfl
 · rw [rgA_take (by omega)]
theorem implBehind (v : Value) (la : List Rgn) (s : ByteArray) (f t : Int) (w : World) (h : RRow w v la) : CR 184 #[v, .agg #[.string s, .int .i64 f, .int .i64 t]] w (.bool (behB la f)) := by
 obtain ⟨W0, hW0, c0, c1, c2, hBl⟩ := rgn_box w s f t 99
 obtain ⟨a, cap, rfl, hl, hm, _, H⟩ := h
 have HW0 := hideP hW0
 have HBl := hideP hBl
 unfold maxLen at hm
 by_cases hz : la.length = 0
 focus
   have HR : Hid (behB la f = true) := by unfold Hid behB; rw [decide_eq_true hz]; rfl
   clear H hW0 hBl
   rw [hz]
 rotate_left
 focus
   obtain ⟨N, hN⟩ : ∃ N, la.length = N + 1 := ⟨la.length - 1, by omega⟩
   obtain ⟨g, rfl, hg, hr⟩ := H N (by omega)
   have e2 : ∀ x : Later W0, x.w.cell? ⟨g, N * 3 + 2, none⟩ = some (.int .i64 (rgA la N).to) := fun x => (hr.below (hBl x) hg).2.2
   have HR : Hid (behB la f = decide ((rgA la N).to < f)) := by unfold Hid behB; rw [decide_eq_false hz, hN]; rfl
   clear H hW0 hBl hr
   rw [hN] at hl ⊢
   generalize (rgA la N).to = T at *
   have hz1 : ((N : Int) + 1 == 0) = false := by simp; omega
   clear hN hz
 rotate_left
 all_goals
  go_enter Tryz.func184, Tryz.ntmps184
  go_wp2_with fail
  rw [← HW0.out]
  refine wp_region_later (W := W0) (Below.refl _ _) (by kernel_rfl) (by kernel_rfl) ?_
  repeat (go_big_quiet_step (fail))
  refine quietE fun x => ?_
  go_wp2
  go_ret
  exact ⟨ret_bool HR.out.symm, HBl.out x⟩
theorem implNamed (v : Value) (l : List Rgn) (s : ByteArray) (w : World) (h : RRow w v l) : CR 185 #[v, .string s] w (.int .i64 (namedR l s)) := by
 obtain ⟨a, c, rfl, hl, hm, _, H⟩ := h
 have K := hideP H
 unfold maxLen at hm
 clear H
 go_enter Tryz.func185, Tryz.ntmps185
 go_wp2
 go_loopw [9] (fun i wr => ∃ k : Nat, k ≤ l.length ∧ i = .int .i64 (k : Int) ∧ Hid (rfFrom (isNamed s) (l.drop k) k = namedR l s) ∧ Below w.heap.size w wr) (fun i _ => l.length - (intOf i).toNat)
 case atStart => exact ⟨0, Nat.zero_le _, rfl, rfl, Below.refl _ _⟩
 case round =>
  obtain ⟨k, hk, rfl, HF, hB⟩ := hrel
  have HB := hideP hB
  clear hB
  by_cases hlt : k < l.length
  · obtain ⟨g, rfl, hg, x⟩ := K.out k hlt
    obtain ⟨a0, a1, a2⟩ := x.below HB.out hg
    have K1 := hideP (fun h => rf_hit (p := isNamed s) hlt h HF.out)
    have K2 := hideP (fun h => rf_miss (p := isNamed s) hlt h HF.out)
    clear x
    generalize rgA l k = r at *
    cases hq : (r.name.toList == s.toList)
    · have HN := hideP (K2.out (decide_eq_false (str_ne hq)))
      go_wp2
      exact ⟨⟨k + 1, by omega, by go_num, HN.out, HB.out.alloc HB.out.size _⟩, by simp [intOf]; omega⟩
    · have HN := hideP (K1.out (decide_eq_true (str_eq hq)))
      go_wp2
      go_ret
      exact ⟨ret_int HN.out.symm, HB.out.alloc HB.out.size _⟩
  · have HN := hideP (rf_end (by omega) HF.out)
    go_wp2
    go_ret
    exact ⟨ret_int HN.out.symm, HB.out⟩
theorem okAt_parts (l : List Rgn) (i : Nat) : (rgnB (rgA l i) = false ∧ okAt l i = false) ∨ (rgnB (rgA l i) = true ∧ behB (l.take i) (rgA l i).fr = false ∧ okAt l i = false) ∨ (rgnB (rgA l i) = true ∧ behB (l.take i) (rgA l i).fr = true ∧ (∃ q : Nat, namedR (l.take i) (rgA l i).name = (q : Int)) ∧ okAt l i = false) ∨ (rgnB (rgA l i) = true ∧ behB (l.take i) (rgA l i).fr = true ∧ namedR (l.take i) (rgA l i).name = -1 ∧ okAt l i = true) := by
 unfold okAt
 cases h1 : rgnB (rgA l i)
 · exact .inl ⟨rfl, rfl⟩
 right
 cases h2 : behB (l.take i) (rgA l i).fr
 · exact .inl ⟨rfl, rfl, rfl⟩
 right
 rcases rf_cases (isNamed (rgA l i).name) (l.take i) with ⟨h, _⟩ | ⟨q, _, h, _⟩
 · exact .inr ⟨rfl, rfl, h, by unfold namedR; rw [h]; rfl⟩
 · exact .inl ⟨rfl, rfl, ⟨q, h⟩, by unfold namedR; rw [h, decide_eq_false (by omega)]; rfl⟩
theorem implCheck (v : Value) (l : List Rgn) (w : World) (h : RRow w v l) (hT : Tab w) : CR 129 #[v] w (errV l) := by
 have HH := hideP h
 obtain ⟨a, c, rfl, hl, hm, hn, H⟩ := h
 have K := hideP H
 have HN := hideP hn
 have HT := hideP hT
 unfold maxLen at hm
 clear H hn hT
 by_cases hlong : 30 < l.length
 · have HR : Hid (errV l = .iface 213 (.agg #[.int .i64 30])) := by unfold Hid errV; rw [if_pos hlong]
   go_enter Tryz.func129, Tryz.ntmps129
   go_wp2
   go_ret
   exact ⟨by rw [HR.out]; rfl, Below.refl _ _⟩
 have HE : Hid (badV l (l.length - 0) 0 = errV l) := by unfold Hid errV; rw [if_neg hlong]; rfl
 go_enter Tryz.func129, Tryz.ntmps129
 go_wp2
 go_loopw [12] (fun i wr => ∃ k : Nat, k ≤ l.length ∧ i = .int .i64 (k : Int) ∧ Hid (badV l (l.length - k) k = errV l) ∧ Below w.heap.size w wr) (fun i _ => l.length - (intOf i).toNat)
 case atStart => exact ⟨0, Nat.zero_le _, rfl, HE.out, Below.refl _ _⟩
 case round =>
  obtain ⟨k, hk, rfl, HF, hB⟩ := hrel
  have HB := hideP hB
  clear hB
  by_cases hlt : k < l.length
  · obtain ⟨g, rfl, hg, x⟩ := K.out k hlt
    obtain ⟨a0, a1, a2⟩ := x.below HB.out hg
    have hnk := HN.out k hlt
    obtain ⟨W0, hW0, c0, c1, c2, hBl⟩ := rgn_box wr (rgA l k).name (rgA l k).fr (rgA l k).to 99
    have hBw : ∀ y : Later W0, Below w.heap.size w y.w := fun y => HB.out.trans ((hBl y).mono HB.out.size)
    have KO : ∀ y : Later W0, CR 183 #[.agg #[.string (rgA l k).name, .int .i64 (rgA l k).fr, .int .i64 (rgA l k).to]] y.w (.bool (rgnB (rgA l k))) := fun y => implReignOk _ _ _ y.w hnk (HT.out.later (hBw y))
    have KB : ∀ y : Later W0, CR 184 #[.slice (some ⟨g, 0, none⟩) k c, .agg #[.string (rgA l k).name, .int .i64 (rgA l k).fr, .int .i64 (rgA l k).to]] y.w (.bool (behB (l.take k) (rgA l k).fr)) := fun y => implBehind _ _ _ _ _ y.w ((HH.out.below (hBw y)).take (by omega))
    have KN : ∀ y : Later W0, CR 185 #[.slice (some ⟨g, 0, none⟩) k c, .string (rgA l k).name] y.w (.int .i64 (namedR (l.take k) (rgA l k).name)) := fun y => implNamed _ _ _ y.w ((HH.out.below (hBw y)).take (by omega))
    have HP := hideP (okAt_parts l k)
    have J1 := hideP (fun h => bad_next hlt h HF.out)
    have J2 := hideP (fun h => bad_stop hlt h HF.out)
    have HW0 := hideP hW0
    have HBw := hideP hBw
    clear x hnk hW0 hBl hBw
    generalize behB (l.take k) (rgA l k).fr = q2 at *
    generalize namedR (l.take k) (rgA l k).name = q3 at *
    generalize rgnB (rgA l k) = q1 at *
    generalize rgA l k = r at *
    rcases HP.out with ⟨rfl, hf⟩ | ⟨rfl, rfl, hf⟩ | ⟨rfl, rfl, ⟨q, rfl⟩, hf⟩ | ⟨rfl, rfl, rfl, hf⟩
    · have HV := hideP (J2.out hf)
      clear hf
      go_wp2_with fail
      rw [← HW0.out]
      refine wp_region_later (W := W0) (Below.refl _ _) (by kernel_rfl) (by kernel_rfl) ?_
      repeat (go_big_quiet_step (first | (go_at_call 183; exact calls_later (KO _)) | fail))
      refine quietE fun y => ?_
      go_wp2
      go_ret
      exact ⟨by rw [HV.out]; rfl, HBw.out y⟩
    · have HV := hideP (J2.out hf)
      clear hf
      go_wp2_with fail
      rw [← HW0.out]
      refine wp_region_later (W := W0) (Below.refl _ _) (by kernel_rfl) (by kernel_rfl) ?_
      repeat (go_big_quiet_step (first | (go_at_call 183; exact calls_later (KO _)) | (go_at_call 184; exact calls_later (KB _)) | fail))
      refine quietE fun y => ?_
      go_wp2
      go_ret
      exact ⟨by rw [HV.out]; rfl, HBw.out y⟩
    focus
      have HV := hideP (J2.out hf)
      have hq0 : (0 : Int) ≤ (q : Int) := by omega
    rotate_left
    focus
      have HV := hideP (J1.out hf)
    rotate_left
    all_goals
     clear hf
     go_wp2_with fail
     rw [← HW0.out]
     refine wp_region_later (W := W0) (Below.refl _ _) (by kernel_rfl) (by kernel_rfl) ?_
     repeat (go_big_quiet_step (first | (go_at_call 183; exact calls_later (KO _)) | (go_at_call 184; exact calls_later (KB _)) | (go_at_call 185; exact calls_later (KN _)) | fail))
     refine quietE fun y => ?_
     go_wp2
    · go_ret
      exact ⟨by rw [HV.out]; rfl, HBw.out y⟩
    · exact ⟨⟨k + 1, by omega, by go_num, HV.out, HBw.out y⟩, by simp [intOf]; omega⟩
  · have HV := hideP (bad_end (by omega) HF.out)
    go_wp2
    go_ret
    exact ⟨by rw [HV.out]; rfl, HB.out⟩
theorem implReignsOk (v : Value) (l : List Rgn) (a : Addr) (w : World) (h : RRow w v l) (hT : Tab w) (hS : Sent w a) : CR 77 #[v] w (.bool (reignsOk l)) := by
 have KC : ∀ y : Later w, CR 129 #[v] y.w (errV l) := fun y => implCheck v l y.w (h.below y.below) (hT.later y.below)
 have KG : ∀ y : Later w, y.w.cell? ⟨0, 0, none⟩ = some (.iface 358 (.pointer (some a))) := fun y => hS.later y.below
 have KW : ∀ (z : Int) (y : Later w), CR 128 #[.iface 213 (.agg #[.int .i64 z]), .iface 358 (.pointer (some a))] y.w (.bool true) := fun z y => implIsWrong z a y.w (hS.later y.below)
 have HE := hideP (errV_cases l)
 clear h hT hS
 generalize errV l = E at *
 generalize reignsOk l = b at *
 rcases HE.out with ⟨rfl, rfl⟩ | ⟨rfl, z, rfl⟩
 · go_enter Tryz.func77, Tryz.ntmps77
   go_wp2_with fail
   refine wp_region_later (W := w) (Below.refl _ _) (by kernel_rfl) (by kernel_rfl) ?_
   repeat (go_big_quiet_step (first | (go_at_call 129; exact calls_later (KC _)) | (go_at_call 128; exact calls_later (implIsNil a _)) | fail))
   refine quietE fun y => ?_
   go_wp2
   go_ret
   exact ⟨rfl, y.below⟩
 · go_enter Tryz.func77, Tryz.ntmps77
   go_wp2_with fail
   refine wp_region_later (W := w) (Below.refl _ _) (by kernel_rfl) (by kernel_rfl) ?_
   repeat (go_big_quiet_step (first | (go_at_call 129; exact calls_later (KC _)) | (go_at_call 128; exact calls_later (KW z _)) | fail))
   refine quietE fun y => ?_
   go_wp2
   go_ret
   exact ⟨rfl, y.below⟩
theorem specReignsOk (v : Value) (l : List Rgn) (w : World) (h : RRow w v l) : CR 61 #[v] w (.bool (reignsOk l)) := by
 obtain ⟨a, c, rfl, hl, hm, hn, H⟩ := h
 have K := hideP H
 have HN := hideP hn
 unfold maxLen at hm
 clear H hn
 go_enter Tryz.func61, Tryz.ntmps61
 go_wp2
 go_loopw [3] (fun i wr => ∃ k : Nat, k ≤ l.length ∧ i = .int .i64 (k : Int) ∧ Hid (okTo l k = true) ∧ Below w.heap.size w wr) (fun i _ => l.length - (intOf i).toNat)
 case atStart => exact ⟨0, Nat.zero_le _, rfl, rfl, Below.refl _ _⟩
 case round =>
  obtain ⟨k, hk, rfl, HF, hB⟩ := hrel
  have HB := hideP hB
  clear hB
  by_cases hlt : k < l.length
  · obtain ⟨g, rfl, hg, x⟩ := K.out k hlt
    obtain ⟨a0, a1, a2⟩ := x.below HB.out hg
    have hnk := HN.out k hlt
    obtain ⟨W0, hW0, c0, c1, c2, hBl⟩ := rgn_box wr (rgA l k).name (rgA l k).fr (rgA l k).to 99
    have hBw : ∀ y : Later W0, Below w.heap.size w y.w := fun y => HB.out.trans ((hBl y).mono HB.out.size)
    have KM : Hid (∀ m, m < k → ∀ y : Later W0, y.w.cell? ⟨g, m * 3, none⟩ = some (.string (rgA l m).name) ∧ y.w.cell? ⟨g, m * 3 + 2, none⟩ = some (.int .i64 (rgA l m).to)) := fun m hmk y => by
     obtain ⟨g', e, hg', z⟩ := K.out m (by omega)
     cases e
     exact ⟨(z.below (hBw y) hg').1, (z.below (hBw y) hg').2.2⟩
    have KN : ∀ y : Later W0, CS 57 #[.string (rgA l k).name] y.w (.bool (nameOk (rgA l k).name)) := fun y => specNameOk _ y.w hnk
    have KF : ∀ y : Later W0, CR 107 #[.int .i64 (rgA l k).fr] y.w (.bool (bothB (rgA l k).fr)) := fun y => specDated _ y.w
    have KT : ∀ y : Later W0, CR 107 #[.int .i64 (rgA l k).to] y.w (.bool (bothB (rgA l k).to)) := fun y => specDated _ y.w
    have J1 := hideP (fun h => okTo_next HF.out (k := k) h)
    have J2 := hideP (fun h => ok_bad (k := k) h hlt)
    have HK : Hid (okAt l k = ((nameOk (rgA l k).name && (decide ((rgA l k).fr ≤ (rgA l k).to) && (bothB (rgA l k).fr && bothB (rgA l k).to))) && (behB (l.take k) (rgA l k).fr && decide (namedR (l.take k) (rgA l k).name = -1)))) := rfl
    have HW0 := hideP hW0
    have HBw := hideP hBw
    have HBH := hideP (behB_take (Nat.le_of_lt hlt) (rgA l k).fr)
    clear x hnk hW0 hBl hBw
    generalize rgA l k = r at *
    obtain ⟨nm, f, t⟩ := r
    dsimp only at a0 a1 a2 c0 c1 c2 KN KF KT HK HBH HW0
    generalize nameOk nm = b1 at *
    generalize hb2 : bothB f = b2 at *
    generalize hb3 : bothB t = b3 at *
    have HX : Hid (okAt l k = false → reignsOk l = false) := J2.out
    clear hb2 hb3
    cases b1
    · have _u := hlt
      have HR := hideP (HX.out (by rw [HK.out]; rfl))
      go_wp2_with fail
      rw [← HW0.out]
      refine wp_region_later (W := W0) (Below.refl _ _) (by kernel_rfl) (by kernel_rfl) ?_
      repeat (go_big_quiet_step (first | (go_at_call 57; exact calls_same (KN _)) | (go_at_call_of 107 f; exact calls_later (KF _)) | (go_at_call_of 107 t; exact calls_later (KT _)) | fail))
      refine quietE fun y => ?_
      go_wp2
      go_ret
      exact ⟨ret_bool HR.out.symm, HBw.out y⟩
    by_cases hft : f ≤ t
    case neg =>
     have hd : decide (t < f) = true := decide_eq_true (by omega)
     have HR := hideP (HX.out (by rw [HK.out]; rw [decide_eq_false hft]; rfl))
     go_wp2_with fail
     rw [← HW0.out]
     refine wp_region_later (W := W0) (Below.refl _ _) (by kernel_rfl) (by kernel_rfl) ?_
     repeat (go_big_quiet_step (first | (go_at_call 57; exact calls_same (KN _)) | (go_at_call_of 107 f; exact calls_later (KF _)) | (go_at_call_of 107 t; exact calls_later (KT _)) | fail))
     refine quietE fun y => ?_
     go_wp2
     go_ret
     exact ⟨ret_bool HR.out.symm, HBw.out y⟩
    have hd : decide (t < f) = false := decide_eq_false (by omega)
    cases b2
    · have _u := hlt
      have HR := hideP (HX.out (by rw [HK.out]; rw [decide_eq_true hft]; rfl))
      go_wp2_with fail
      rw [← HW0.out]
      refine wp_region_later (W := W0) (Below.refl _ _) (by kernel_rfl) (by kernel_rfl) ?_
      repeat (go_big_quiet_step (first | (go_at_call 57; exact calls_same (KN _)) | (go_at_call_of 107 f; exact calls_later (KF _)) | (go_at_call_of 107 t; exact calls_later (KT _)) | fail))
      refine quietE fun y => ?_
      go_wp2
      go_ret
      exact ⟨ret_bool HR.out.symm, HBw.out y⟩
    cases b3
    · have _u := hlt
      have HR := hideP (HX.out (by rw [HK.out]; rw [decide_eq_true hft]; rfl))
      go_wp2_with fail
      rw [← HW0.out]
      refine wp_region_later (W := W0) (Below.refl _ _) (by kernel_rfl) (by kernel_rfl) ?_
      repeat (go_big_quiet_step (first | (go_at_call 57; exact calls_same (KN _)) | (go_at_call_of 107 f; exact calls_later (KF _)) | (go_at_call_of 107 t; exact calls_later (KT _)) | fail))
      refine quietE fun y => ?_
      go_wp2
      go_ret
      exact ⟨ret_bool HR.out.symm, HBw.out y⟩
    have HK2 : Hid (okAt l k = (behB (l.take k) f && decide (namedR (l.take k) nm = -1))) := by unfold Hid; rw [HK.out, decide_eq_true hft]; rfl
    clear HK
    obtain rfl | ⟨j, rfl⟩ : k = 0 ∨ ∃ j, k = j + 1 := by cases k with | zero => exact .inl rfl | succ j => exact .inr ⟨j, rfl⟩
    focus
      have HBE : Hid (behB (l.take 0) f = true) := by unfold Hid; rw [HBH.out]; rfl
    rotate_left
    focus
      obtain ⟨_, q2⟩ : _ ∧ (∀ y : Later W0, y.w.cell? ⟨g, j * 3 + 2, none⟩ = some (.int .i64 (rgA l j).to)) := ⟨trivial, fun y => (KM.out j (by omega) y).2⟩
      have HBH2 : Hid (behB (l.take (j + 1)) f = decide ((rgA l j).to < f)) := by unfold Hid; rw [HBH.out, decide_eq_false (by omega)]; rfl
      clear HBH
      generalize (rgA l j).to = T at *
      have hj0 : decide ((0 : Int) < (j : Int) + 1) = true := decide_eq_true (by omega)
      by_cases hTf : T < f
      case neg =>
       have hd2 : decide (f ≤ T) = true := decide_eq_true (by omega)
       have HR := hideP (HX.out (by rw [HK2.out, HBH2.out, decide_eq_false hTf]; rfl))
       go_wp2_with fail
       rw [← HW0.out]
       refine wp_region_later (W := W0) (Below.refl _ _) (by kernel_rfl) (by kernel_rfl) ?_
       repeat (go_big_quiet_step (first | (go_at_call 57; exact calls_same (KN _)) | (go_at_call_of 107 f; exact calls_later (KF _)) | (go_at_call_of 107 t; exact calls_later (KT _)) | fail))
       refine quietE fun y => ?_
       go_wp2
       go_ret
       exact ⟨ret_bool HR.out.symm, HBw.out y⟩
      have hd2 : decide (f ≤ T) = false := decide_eq_false (by omega)
      have HBE : Hid (behB (l.take (j + 1)) f = true) := by unfold Hid; rw [HBH2.out, decide_eq_true hTf]
    rotate_left
    all_goals
     go_wp2_with fail
     rw [← HW0.out]
     refine wp_region_later (W := W0) (Below.refl _ _) (by kernel_rfl) (by kernel_rfl) ?_
     repeat (go_big_quiet_step (first | (go_at_call 57; exact calls_same (KN _)) | (go_at_call_of 107 f; exact calls_later (KF _)) | (go_at_call_of 107 t; exact calls_later (KT _)) | fail))
     refine quietE fun y => ?_
     go_wp2_with fail
    · go_loopw [5] (fun q wq => ∃ m : Nat, m ≤ 0 ∧ q = .int .i64 (m : Int) ∧ Hid (rfFrom (isNamed nm) ((l.take (0)).drop m) m = namedR (l.take (0)) nm) ∧ Below W0.heap.size W0 wq) (fun q _ => 0 - (intOf q).toNat)
      case atStart => exact ⟨0, Nat.zero_le _, rfl, rfl, y.below⟩
      case round =>
       obtain ⟨m, hmk, rfl, HG, hC⟩ := hrel
       have HC := hideP hC
       clear hC
       have hlen : (l.take (0)).length = 0 := by rw [List.length_take]; omega
       have HLn := hideP hlen
       clear hlen
       have GN := hideP (rf_end (by rw [HLn.out]; omega) HG.out)
       obtain rfl : m = 0 := by omega
       have HR := hideP (J1.out (by rw [HK2.out, GN.out, HBE.out]; rfl))
       have HCw : Hid (Below w.heap.size w wr) := HBw.out ⟨wr, HC.out⟩
       go_wp2
       exact ⟨⟨0 + 1, by omega, by go_num, HR.out, HCw.out⟩, by simp [intOf]; omega⟩
    · go_loopw [5] (fun q wq => ∃ m : Nat, m ≤ (j + 1) ∧ q = .int .i64 (m : Int) ∧ Hid (rfFrom (isNamed nm) ((l.take ((j + 1))).drop m) m = namedR (l.take ((j + 1))) nm) ∧ Below W0.heap.size W0 wq) (fun q _ => (j + 1) - (intOf q).toNat)
      case atStart => exact ⟨0, Nat.zero_le _, rfl, rfl, y.below⟩
      case round =>
       obtain ⟨m, hmk, rfl, HG, hC⟩ := hrel
       have HC := hideP hC
       clear hC
       have hlen : (l.take ((j + 1))).length = (j + 1) := by rw [List.length_take]; omega
       have HLn := hideP hlen
       clear hlen
       by_cases hml : m < (j + 1)
       · have e0 := fun y => (KM.out m hml y).1
         have G1 := hideP (fun h => rf_hit (p := isNamed nm) (by rw [HLn.out]; exact hml) h HG.out)
         have G2 := hideP (fun h => rf_miss (p := isNamed nm) (by rw [HLn.out]; exact hml) h HG.out)
         rw [rgA_take hml] at G1 G2
         generalize rgA l m = r2 at *
         cases hq : (r2.name.toList == nm.toList)
         · have GN := hideP (G2.out (decide_eq_false (str_ne hq)))
           go_wp2_with fail
           refine wp_region_later (W := W0) HC.out (by kernel_rfl) (by kernel_rfl) ?_
           repeat (go_big_quiet_step (fail))
           refine quietE fun y2 => ?_
           go_wp2
           exact ⟨⟨m + 1, by omega, by go_num, GN.out, y2.below⟩, by simp [intOf]; omega⟩
         · have GN := hideP (G1.out (decide_eq_true (str_eq hq)))
           have HR := hideP (HX.out (by rw [HK2.out, GN.out, decide_eq_false (by omega), Bool.and_false]))
           go_wp2_with fail
           refine wp_region_later (W := W0) HC.out (by kernel_rfl) (by kernel_rfl) ?_
           repeat (go_big_quiet_step (fail))
           refine quietE fun y2 => ?_
           go_wp2
           go_ret
           exact ⟨ret_bool HR.out.symm, HBw.out y2⟩
       · have GN := hideP (rf_end (by rw [HLn.out]; omega) HG.out)
         have HR := hideP (J1.out (by rw [HK2.out, GN.out, HBE.out]; rfl))
         have HCw : Hid (Below w.heap.size w wr) := HBw.out ⟨wr, HC.out⟩
         go_wp2
         exact ⟨⟨(j + 1) + 1, by omega, by go_num, HR.out, HCw.out⟩, by simp [intOf]; omega⟩
  · have hkn : k = l.length := by omega
    have HR := hideP (ok_all (by rw [← hkn]; exact HF.out))
    subst hkn
    go_wp2
    go_ret
    exact ⟨ret_bool (by rw [HR.out]; exact decide_eq_decide.2 (by omega)), HB.out⟩
def readParts (w : List ByteArray) : Int × Int :=
 if w.length = 1 then (findFeast (w.getD 0 ⟨#[]⟩), 0)
 else if findFeast (w.getD 0 ⟨#[]⟩) < 0 ∨ 2 < w.length ∨ readDec (w.getD 1 ⟨#[]⟩) < 1 ∨ 99 < readDec (w.getD 1 ⟨#[]⟩) then (-1, 0)
 else (findFeast (w.getD 0 ⟨#[]⟩), readDec (w.getD 1 ⟨#[]⟩))
def readFeast (s : ByteArray) : Int × Int := readParts (cut s 43)
def readTwo (a b : ByteArray) : Int × Int :=
 if findFeast a < 0 ∨ readDec b < 1 ∨ 99 < readDec b then (-1, 0) else (findFeast a, readDec b)
theorem readParts_b (w : List ByteArray) : -1 ≤ (readParts w).1 ∧ (readParts w).1 < 20 ∧ 0 ≤ (readParts w).2 ∧ (readParts w).2 ≤ 99 := by
 have h := find_b (w.getD 0 ⟨#[]⟩)
 unfold readParts
 split
 · exact ⟨h.1, h.2, by simp, by simp⟩
 · split
   · simp
   · rename_i h2
     refine ⟨h.1, h.2, ?_, ?_⟩ <;> simp only <;> omega
theorem readDec_bad (b : ByteArray) (k : Nat) (h : k < b.size) (hk : bAt b k = 43) : readDec b = -1 := by
 apply read_stop b k h
 have h1 := bAt_eq b k h
 rw [hk] at h1
 unfold digB
 exact inB_false (.inl (by omega))
theorem read_split (s : ByteArray) (p : Nat) (hp : p < s.size) (hat : bAt s p = 43) (hno : ∀ j, j < p → bAt s j ≠ 43) : readFeast s = readTwo (s.extract 0 p) (s.extract (p + 1) s.size) := by
 obtain ⟨a1, a2⟩ := parts_none s 43 p hno
 obtain ⟨b1, b2⟩ := parts_hit s 43 p hat
 rw [a1, a2] at b1
 by_cases h : ∃ q, p < q ∧ q < s.size ∧ bAt s q = 43
 · obtain ⟨q, h1, h2, h3⟩ := h
   have hd : readDec (s.extract (p + 1) s.size) = -1 := by
    apply readDec_bad _ (q - (p + 1)) (by rw [ByteArray.size_extract]; omega)
    rw [bAt_ext s (p + 1) (q - (p + 1)), show p + 1 + (q - (p + 1)) = q from by omega]
    exact h3
   have hl : 2 < (cut s 43).length := by
    have c1 := parts_mono s 43 (p + 1) (q - (p + 1))
    have c2 := (parts_hit s 43 q h3).1
    have c3 := parts_mono s 43 (q + 1) (s.size - (q + 1))
    rw [show p + 1 + (q - (p + 1)) = q from by omega] at c1
    rw [show q + 1 + (s.size - (q + 1)) = s.size from by omega] at c3
    rw [b1] at c1
    have c4 : (partsTo s 43 (q + 1)).length = (partsTo s 43 q).length + 1 := by rw [c2, List.length_append]; rfl
    unfold cut
    rw [List.length_append]
    simp at c1 ⊢
    omega
   unfold readFeast readParts readTwo
   rw [if_neg (by omega), if_pos (.inr (.inl hl)), if_pos (.inr (.inl (by omega)))]
 · have hrun := parts_run s 43 (p + 1) (s.size - (p + 1)) (fun j h1 h2 h3 => h ⟨j, by omega, by omega, h3⟩)
   rw [show p + 1 + (s.size - (p + 1)) = s.size from by omega, b1, b2] at hrun
   have hc : cut s 43 = [s.extract 0 p, s.extract (p + 1) s.size] := by
    unfold cut
    rw [hrun.1, hrun.2]
    rfl
   unfold readFeast readParts readTwo
   rw [hc]
   simp
theorem read_plain (s : ByteArray) (h : ∀ j, j < s.size → bAt s j ≠ 43) : readFeast s = (findFeast s, 0) := by
 unfold readFeast readParts
 rw [cut_none s 43 h]
 simp
end Go.Proofs.YtpclaceefapppaaGreatDoor.ctr
