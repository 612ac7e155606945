/- What a law is told of a list of reigns that comes in. Contracts of the laws' own helpers over reigns: how long all is (szReign, szReignS), copies (toReign, toReignS), two lists alike are told alike (eqReign, eqReignS). -/
import Derived.Test.YtdgolaaheakfoaaGreatDoorRgnListS
import Derived.Deep.Slices
import Derived.Lib.SmallJoins
import Derived.Laws.MakeOwn
import Derived.Deep.RegionWith
namespace Go.Proofs.YtdgolaaheakfoaaGreatDoor.ctr
open Go.RowKit
def RIn (w : World) (a : Option Addr) (len cap : Nat) (l : List Rgn) : Prop :=
  l.length = len ∧ len ≤ cap ∧ cap ≤ maxLen ∧ (∀ k, k < len → (rgA l k).name.size ≤ maxLen) ∧
  ((a = none ∧ len = 0) ∨ ∃ x, a = some x ∧ ∀ k, k < len → w.cell? (x.add (k * 3)) = some (.string (rgA l k).name) ∧ w.cell? (x.add (k * 3 + 1)) = some (.int .i64 (rgA l k).fr) ∧ w.cell? (x.add (k * 3 + 2)) = some (.int .i64 (rgA l k).to))
end Go.Proofs.YtdgolaaheakfoaaGreatDoor.ctr
namespace Go.Proofs.YtdgolaaheakfoaaGreatDoor.kit
open Go.RowKit Go.WideShapes Go.Deep Go.ChangeShapes
theorem open_rgns {H : Type} {enc : TypeId × Value → H} {P : Program} {w : World} {base : Nat} {spare : Nat → Bool} {held : Bool} {t e : TypeId} {f0 f1 f2 : Field} {a : Option Addr} {len cap : Nat} {x : DataW H} {p : List MemPlace}
    (ht : P.underlying t = some (.slice e)) (he : P.underlying e = some (.struct #[f0, f1, f2])) (ce : P.cellsOf e = 3) (o0 : f0.offset = 0) (o1 : f1.offset = 1) (o2 : f2.offset = 2) (c0 : P.cellsOf f0.type = 1) (c1 : P.cellsOf f1.type = 1) (c2 : P.cellsOf f2.type = 1)
    (u0 : P.underlying f0.type = some .string) (u1 : P.underlying f1.type = some (.int .i64)) (u2 : P.underlying f2.type = some (.int .i64))
    (h : DataW.Trod enc P w base spare held t (.slice a len cap) x p) : ∃ l : List ctr.Rgn, ctr.RIn w a len cap l := by
  obtain ⟨fuel, h⟩ := h
  simp only [Value.cells] at h
  rcases open_slice ht h with ⟨h0, _⟩ | ⟨a', len', cap', m, n, D, Pl, e', hb, hl, hm, hmm, hxp, hx⟩
  · simp at h0
    obtain ⟨rfl, rfl, rfl⟩ := h0
    exact ⟨[], rfl, Nat.le_refl _, by unfold maxLen; omega, fun k hk => by omega, .inl ⟨rfl, rfl⟩⟩
  · simp at e'
    obtain ⟨rfl, rfl, rfl⟩ := e'
    have hlm : len ≤ m := by rw [hmm]; split <;> omega
    have each : ∀ i, i < len → ∃ r : ctr.Rgn, r.name.size ≤ maxLen ∧ w.cell? (a'.add (i * 3)) = some (.string r.name) ∧ w.cell? (a'.add (i * 3 + 1)) = some (.int .i64 r.fr) ∧ w.cell? (a'.add (i * 3 + 2)) = some (.int .i64 r.to) := by
      intro i hi
      obtain ⟨cs', h1, h2⟩ := hx i (by omega)
      rw [ce] at h1
      obtain ⟨_, hlen, hcell⟩ := World.cells?_some h1
      obtain ⟨xs, k, hk, hxy, _, hxl, hf⟩ := DataW.trod_struct he h2
      match xs, hxl, cs', hlen with
      | [y0, y1, y2], _, [v0, v1, v2], _ =>
        have g0 := hf 0 f0 rfl
        have g1 := hf 1 f1 rfl
        have g2 := hf 2 f2 rfl
        simp [o0, o1, o2, c0, c1, c2] at g0 g1 g2
        have e0 := hcell 0 (by omega)
        have e1 := hcell 1 (by omega)
        have e2 := hcell 2 (by omega)
        rw [add_add] at e0 e1 e2
        obtain ⟨s, q0, _, hsm⟩ := DataW.trod_string u0 g0
        obtain ⟨z1, q1, _, _⟩ := DataW.trod_int u1 g1
        obtain ⟨z2, q2, _, _⟩ := DataW.trod_int u2 g2
        simp only [List.cons.injEq, and_true] at q0 q1 q2
        subst q0 q1 q2
        exact ⟨⟨s, z1, z2⟩, hsm, by simpa using e0, by simpa using e1, by simpa using e2⟩
    obtain ⟨R, hR⟩ : ∃ R : Nat → ctr.Rgn, ∀ i, i < len → (R i).name.size ≤ maxLen ∧ w.cell? (a'.add (i * 3)) = some (.string (R i).name) ∧ w.cell? (a'.add (i * 3 + 1)) = some (.int .i64 (R i).fr) ∧ w.cell? (a'.add (i * 3 + 2)) = some (.int .i64 (R i).to) := by
      classical
      refine ⟨fun i => if h : i < len then (each i h).choose else ctr.r0, fun i hi => ?_⟩
      simp only [dif_pos hi]
      exact (each i hi).choose_spec
    have hat : ∀ k, k < len → ctr.rgA ((List.range len).map R) k = R k := fun k hk => by simp [ctr.rgA, List.getD, hk]
    refine ⟨(List.range len).map R, by simp, hl, hm, fun k hk => by rw [hat k hk]; exact (hR k hk).1, .inr ⟨a', rfl, fun k hk => by rw [hat k hk]; exact (hR k hk).2⟩⟩
end Go.Proofs.YtdgolaaheakfoaaGreatDoor.kit
namespace Go.Proofs.YtdgolaaheakfoaaGreatDoor.kit
open Go.RowKit Go.WideShapes Go.Deep
theorem three {α : Type} {cs : Array α} (h : cs.size = 3) : ∃ a b c, cs = #[a, b, c] := by
  obtain ⟨l⟩ := cs
  match l, h with
  | [a, b, c], _ => exact ⟨a, b, c, rfl⟩
end Go.Proofs.YtdgolaaheakfoaaGreatDoor.kit
namespace Go.Proofs.YtdgolaaheakfoaaGreatDoor.ctr
open Go.RowKit
def szR (n : Nat) (left : Int) : Int := if left < n then -1 else left - n
theorem szReign (s : ByteArray) (f t left : Int) (w : World) (hs : s.size ≤ maxLen) (h1 : 0 ≤ left) (h2 : left ≤ 1048576) : Calls Tryz.prog 68 #[.agg #[.string s, .int .i64 f, .int .i64 t], .int .i64 left] w fun e w' => e = .returned (.int .i64 (szR s.size left)) ∧ Below w.heap.size w w' := by
  unfold maxLen at hs
  unfold szR
  by_cases h : left < s.size
  · rw [if_pos h]
    go_enter Tryz.func68, Tryz.ntmps68
    go_wp2
    go_ret
    exact ⟨rfl, (Below.refl _ _).alloc (Nat.le_refl _) _⟩
  · rw [if_neg h]
    go_enter Tryz.func68, Tryz.ntmps68
    go_wp2
    go_ret
    exact ⟨rfl, (Below.refl _ _).alloc (Nat.le_refl _) _⟩
theorem toReign (s : ByteArray) (f t : Int) (w : World) : Calls Tryz.prog 79 #[.agg #[.string s, .int .i64 f, .int .i64 t]] w fun e w' => e = .returned (.agg #[.string s, .int .i64 f, .int .i64 t]) ∧ Below w.heap.size w w' := by
  go_enter Tryz.func79, Tryz.ntmps79
  go_wp2
  go_returns
  refine ⟨rfl, ?_⟩
  go_grown
theorem eqReign1 (s : ByteArray) (f t : Int) (w : World) : Calls Tryz.prog 89 #[.agg #[.string s, .int .i64 f, .int .i64 t], .agg #[.string s, .int .i64 f, .int .i64 t]] w fun e w' => e = .returned (.bool true) ∧ Below w.heap.size w w' := by
  go_enter Tryz.func89, Tryz.ntmps89
  go_wp2
  go_ret
  exact ⟨rfl, ((Below.refl _ _).alloc (Nat.le_refl _) _).alloc (by rw [World.size_alloc]; omega) _⟩
def SizeOk (l : List Rgn) : Prop := l.length ≤ 1048576 ∧ ∀ k, k < l.length → (rgA l k).name.size ≤ 1048576
theorem SizeOk.names {l : List Rgn} (h : SizeOk l) : ∀ k, k < l.length → (rgA l k).name.size ≤ maxLen := fun k hk => by
  have := h.2 k hk
  unfold maxLen
  omega
theorem len_ok {l : List Rgn} (h : SizeOk l) : l.length ≤ maxLen := by
  have := h.1
  unfold maxLen
  omega
theorem RIn.below {w w' : World} {a : Option Addr} {len cap : Nat} {l : List Rgn} (h : RIn w a len cap l) (hb : Below w.heap.size w w') : RIn w' a len cap l := by
  obtain ⟨h1, h2, h3, h4, h5⟩ := h
  refine ⟨h1, h2, h3, h4, ?_⟩
  rcases h5 with h5 | ⟨x, hx, h⟩
  · exact .inl h5
  · exact .inr ⟨x, hx, fun k hk => ⟨Later.at (h k hk).1 ⟨w', hb⟩, Later.at (h k hk).2.1 ⟨w', hb⟩, Later.at (h k hk).2.2 ⟨w', hb⟩⟩⟩
theorem add_off (x : Addr) (n j : Nat) (h : 0 < j) : x.add (n + j) = ⟨(x.add n).block, (x.add n).off + j, none⟩ := by
  unfold Addr.add
  rw [if_neg (by omega)]
  split
  · rename_i e
    subst e
    simp
  · simp only [Nat.add_assoc]
theorem RIn.at {w : World} {a : Option Addr} {len cap : Nat} {l : List Rgn} (h : RIn w a len cap l) {k : Nat} (hk : k < len) : ∃ x, a = some x ∧ ∀ y : Later w, y.w.cell? (x.add (k * 3)) = some (.string (rgA l k).name) ∧ y.w.cell? ⟨(x.add (k * 3)).block, (x.add (k * 3)).off + 1, none⟩ = some (.int .i64 (rgA l k).fr) ∧ y.w.cell? ⟨(x.add (k * 3)).block, (x.add (k * 3)).off + 2, none⟩ = some (.int .i64 (rgA l k).to) := by
  obtain ⟨_, _, _, _, ⟨_, h0⟩ | ⟨x, hx, h⟩⟩ := h
  · omega
  · obtain ⟨h1, h2, h3⟩ := h k hk
    rw [add_off x _ _ (by omega)] at h2 h3
    exact ⟨x, hx, fun y => ⟨Later.at h1 y, Later.at h2 y, Later.at h3 y⟩⟩
set_option maxHeartbeats 1000000 in
theorem szReignS (a : Option Addr) (len cap : Nat) (l : List Rgn) (w : World) (h : RIn w a len cap l) : Calls Tryz.prog 32 #[.slice a len cap, .int .i64 1048576] w fun e w' => ∃ z : Int, e = .returned (.int .i64 z) ∧ (z = -1 ∨ (0 ≤ z ∧ SizeOk l)) ∧ Below w.heap.size w w' := by
  have hcap := h.2.2.1
  have hlc := h.2.1
  have hn := hideP h.2.2.2.1
  have hL := hideP h.1
  have H := hideP h
  unfold maxLen at hcap
  clear h
  by_cases hbig : (1048576 : Int) < len
  · go_enter Tryz.func32, Tryz.ntmps32
    go_wp2
    go_ret
    exact ⟨_, rfl, .inl rfl, Below.refl _ _⟩
  go_enter Tryz.func32, Tryz.ntmps32
  go_wp2
  go_loopw [1, 5] (fun z i wr => ∃ (k : Nat) (q : Int), k ≤ len ∧ i = .int .i64 (k : Int) ∧ z = .int .i64 q ∧ 0 ≤ q ∧ q ≤ 1048576 ∧ Hid (∀ j, j < k → (rgA l j).name.size ≤ 1048576) ∧ Below w.heap.size w wr) (fun _ i _ => len - (intOf i).toNat)
  case atStart => exact ⟨0, 1048576 - (len : Int), Nat.zero_le _, rfl, by go_num, by omega, by omega, fun j hj => by omega, Below.refl _ _⟩
  case round =>
    obtain ⟨k, q, hk, rfl, rfl, q1, q2, HS, hB⟩ := hrel
    have HB := hideP hB
    clear hB
    by_cases hlt : k < len
    · obtain ⟨x, rfl, hx⟩ := H.out.at hlt
      obtain ⟨c0, c1, c2⟩ := hx ⟨wr, HB.out⟩
      have hnk := hn.out k hlt
      dsimp only at c0 c1 c2
      have HN := hideP (show szR (rgA l k).name.size q = -1 ∨ (0 ≤ szR (rgA l k).name.size q ∧ szR (rgA l k).name.size q ≤ 1048576 ∧ (rgA l k).name.size ≤ 1048576) by unfold szR; split <;> omega)
      have HK : Hid (∀ W, Calls Tryz.prog 68 #[.agg #[.string (rgA l k).name, .int .i64 (rgA l k).fr, .int .i64 (rgA l k).to], .int .i64 q] W fun e w' => e = .returned (.int .i64 (szR (rgA l k).name.size q)) ∧ Below W.heap.size W w') := fun W => szReign _ _ _ _ W hnk q1 q2
      have HJ : Hid ((rgA l k).name.size ≤ 1048576 → ∀ j, j < k + 1 → (rgA l j).name.size ≤ 1048576) := fun g j hj => by
        by_cases e : j = k
        · subst e; exact g
        · exact HS.out j (by omega)
      clear hx hnk
      generalize szR (rgA l k).name.size q = z at *
      generalize rgA l k = r at *
      go_wp2_with fail
      refine (HK.out _).mono ?_
      rintro e w1 ⟨rfl, hb⟩
      have HB1 : Hid (Below w.heap.size w w1) := HB.out.trans (hb.mono HB.out.size)
      clear hb c0 c1 c2
      rcases HN.out with rfl | ⟨z1, z2, z3⟩
      · go_wp2
        go_ret
        exact ⟨_, rfl, .inl rfl, HB1.out⟩
      · go_wp2
        exact ⟨⟨k + 1, z, by omega, by go_num, rfl, z1, z2, HJ.out z3, HB1.out⟩, by simp [intOf]; omega⟩
    · go_wp2
      go_ret
      exact ⟨_, rfl, .inr ⟨q1, by rw [hL.out]; omega, by rw [hL.out]; exact fun j hj => HS.out j (by omega)⟩, HB.out⟩
def rPart (l : List Rgn) (k : Nat) (cs : Array Value) : Prop := cs.size = l.length * 3 ∧ ∀ j, j < k * 3 → cs[j]? = (rA l)[j]?
theorem rPart_next {l : List Rgn} {k : Nat} {cs : Array Value} (h : rPart l k cs) (hk : k < l.length) :
    rPart l (k + 1) (((cs.setIfInBounds (k * 3) (.string (rgA l k).name)).setIfInBounds (k * 3 + 1) (.int .i64 (rgA l k).fr)).setIfInBounds (k * 3 + 2) (.int .i64 (rgA l k).to)) := by
  obtain ⟨h1, h2⟩ := h
  refine ⟨by simp [h1], fun j hj => ?_⟩
  by_cases e2 : j = k * 3 + 2
  · subst e2
    rw [rA_at 2 hk rfl, Array.getElem?_setIfInBounds_self_of_lt (by simp; omega)]
  · rw [Array.getElem?_setIfInBounds_ne (by omega)]
    by_cases e1 : j = k * 3 + 1
    · subst e1
      rw [rA_at 1 hk rfl, Array.getElem?_setIfInBounds_self_of_lt (by simp; omega)]
    · rw [Array.getElem?_setIfInBounds_ne (by omega)]
      by_cases e0 : j = k * 3
      · subst e0
        have := rA_at (l := l) (k := k) 0 hk rfl
        rw [Nat.add_zero] at this
        rw [this, Array.getElem?_setIfInBounds_self_of_lt (by omega)]
      · rw [Array.getElem?_setIfInBounds_ne (by omega)]
        exact h2 j (by omega)
theorem rPart_all {l : List Rgn} {cs : Array Value} (h : rPart l l.length cs) : cs = rA l := by
  apply Array.ext_getElem?
  intro j
  by_cases hj : j < l.length * 3
  · exact h.2 j hj
  · rw [Array.getElem?_eq_none (by rw [h.1]; omega), Array.getElem?_eq_none (by rw [rA_size]; omega)]
theorem info_rgn : (Tryz.prog.info? 123).map (fun i => (i.zero, i.size, i.bytes)) = some (some (.agg #[.string ⟨#[]⟩, .int .i64 0, .int .i64 0]), 3, 32) := by kernel_rfl
def rzero : Array Value := #[.string ⟨#[]⟩, .int .i64 0, .int .i64 0]
theorem make_rgns (n : Nat) (hn : n ≤ 1048576) (W : World) : (Instr.makeSlice 38 (.int .i64 (n : Int)) (.int .i64 (n : Int))).run Tryz.prog W = .ok (.slice (some ⟨W.heap.size, 0, none⟩) n n) (W.alloc (.cells (madeCells rzero (n * 3)) 123)) := by
  obtain ⟨i0, hi, e⟩ := Option.map_eq_some_iff.1 info_rgn
  simp only [Prod.mk.injEq] at e
  obtain ⟨hz, hs, hb⟩ := e
  have h := run_make (P := Tryz.prog) W 38 123 i0 _ Tryz.underlying38 hi hz .i64 .i64 (n : Int) (n : Int) (by omega) (by omega) (by rw [hb]; omega) (by omega)
  rw [hs] at h
  simp only [Int.toNat_natCast] at h
  exact h
set_option maxHeartbeats 1000000 in
theorem toReignS (a : Option Addr) (len cap : Nat) (l : List Rgn) (w : World) (h : RIn w a len cap l) (hs : SizeOk l) : Calls Tryz.prog 39 #[.slice a len cap] w fun e w' => ∃ v, e = .returned v ∧ RNew w w' v l ∧ Below w.heap.size w w' := by
  have hlen := h.1
  have hl : len ≤ 1048576 := by rw [← hlen]; exact hs.1
  have H := hideP h
  have HL := hideP hlen
  have hmk := make_rgns len hl
  have hpart : Hid (rPart l 0 (madeCells rzero (len * 3))) := ⟨by rw [size_madeCells, hlen], fun j hj => by omega⟩
  clear h hs hlen
  go_enter Tryz.func39, Tryz.ntmps39
  go_wp2
  go_loopw [4] (fun i wr => ∃ (k : Nat) (cs : Array Value), k ≤ len ∧ i = .int .i64 (k : Int) ∧ rPart l k cs ∧ Blk wr w.heap.size cs 123 ∧ Below w.heap.size w wr) (fun i _ => len - (intOf i).toNat)
  case atStart => exact ⟨0, _, Nat.zero_le _, rfl, hpart.out, Blk.new w _ _, (Below.refl _ _).alloc (Nat.le_refl _) _⟩
  case round =>
    obtain ⟨k, cs, hk, rfl, hp, hb, hB⟩ := hrel
    have HB := hideP hB
    have HP := hideP hp
    have HK := hideP hb
    clear hB hp hb
    by_cases hlt : k < len
    · obtain ⟨x, rfl, hx⟩ := H.out.at hlt
      obtain ⟨c0, c1, c2⟩ := hx ⟨wr, HB.out⟩
      dsimp only at c0 c1 c2
      have HN := hideP (rPart_next HP.out (by rw [HL.out]; exact hlt))
      clear hx
      generalize rgA l k = r at *
      go_wp2_with fail
      refine (toReign _ _ _ _).mono ?_
      rintro e w1 ⟨rfl, hb⟩
      have HB1 : Hid (Below w.heap.size w w1) := HB.out.trans (hb.mono HB.out.size)
      have HK1 := HK.out.below hb HK.out.lt
      clear hb c0 c1 c2 hmk
      have hsz : cs.size = len * 3 := by rw [HP.out.1, HL.out]
      have d0 := HK1.cell (k * 3) (v := cs[k * 3]'(by omega)) (by simp)
      have d1 := HK1.cell (k * 3 + 1) (v := cs[k * 3 + 1]'(by omega)) (by simp)
      have d2 := HK1.cell (k * 3 + 2) (v := cs[k * 3 + 2]'(by omega)) (by simp)
      have t0 := HK1.thaw (k * 3)
      have t1 := HK1.thaw (k * 3 + 1)
      have t2 := HK1.thaw (k * 3 + 2)
      have HS := hideP HK1
      generalize cs[k * 3]'(by omega) = v0 at d0
      generalize cs[k * 3 + 1]'(by omega) = v1 at d1
      generalize cs[k * 3 + 2]'(by omega) = v2 at d2
      clear HK1 hsz
      go_wp2
      exact ⟨⟨k + 1, _, by omega, by go_num, HN.out, ((HS.out.set _ _).set _ _).set _ _, below_store (below_store (below_store HB1.out _ (Nat.le_refl _)) _ (Nat.le_refl _)) _ (Nat.le_refl _)⟩, by simp [intOf]; omega⟩
    · have hkn : k = l.length := by rw [HL.out]; omega
      have HP' := HP.out
      rw [hkn] at HP'
      have hcs := rPart_all HP'
      have HC := hideP hcs
      clear hcs HP' hkn
      go_wp2
      go_ret
      exact ⟨.slice (some ⟨w.heap.size, 0, none⟩) len len, rfl, ⟨w.heap.size, 123, by rw [HL.out], Nat.le_refl _, by rw [← HC.out]; exact HK.out⟩, HB.out⟩
set_option maxHeartbeats 1000000 in
theorem eqReignS (v1 v2 : Value) (l : List Rgn) (w : World) (h1 : RRow w v1 l) (h2 : RRow w v2 l) : Calls Tryz.prog 46 #[v1, v2] w fun e w' => e = .returned (.bool true) ∧ Below w.heap.size w w' := by
  obtain ⟨a1, c1, rfl, l1, m1, _, H1⟩ := h1
  obtain ⟨a2, c2, rfl, _, _, _, H2⟩ := h2
  have K1 := hideP H1
  have K2 := hideP H2
  unfold maxLen at m1
  clear H1 H2
  go_enter Tryz.func46, Tryz.ntmps46
  go_wp2
  go_loopw [5] (fun i wr => ∃ k : Nat, k ≤ l.length ∧ i = .int .i64 (k : Int) ∧ Below w.heap.size w wr) (fun i _ => l.length - (intOf i).toNat)
  case atStart => exact ⟨0, Nat.zero_le _, rfl, Below.refl _ _⟩
  case round =>
    obtain ⟨k, hk, rfl, hB⟩ := hrel
    have HB := hideP hB
    clear hB
    by_cases hlt : k < l.length
    · obtain ⟨g1, rfl, hg1, x1⟩ := K1.out k hlt
      obtain ⟨g2, rfl, hg2, x2⟩ := K2.out k hlt
      obtain ⟨a0, a1, a2⟩ := x1.below HB.out hg1
      obtain ⟨b0, b1, b2⟩ := x2.below HB.out hg2
      clear x1 x2
      generalize rgA l k = r at *
      go_wp2
      go_region_with (go_at_call 89; refine (eqReign1 _ _ _ _).mono ?_; rintro e w2 ⟨rfl, hb2⟩; have HB2 : Hid (Below w.heap.size w w2) := HB.out.trans ⟨hb2.os, hb2.tape, hb2.output, Nat.le_trans (Nat.le_refl _) hb2.size, fun j hj => hb2.block j (Nat.lt_of_lt_of_le hj HB.out.size)⟩; clear hb2)
      all_goals go_wp2
      all_goals exact ⟨⟨k + 1, by omega, by go_num, HB2.out⟩, by simp [intOf]; omega⟩
    · go_wp2
      go_ret
      exact ⟨rfl, HB.out⟩
end Go.Proofs.YtdgolaaheakfoaaGreatDoor.ctr
