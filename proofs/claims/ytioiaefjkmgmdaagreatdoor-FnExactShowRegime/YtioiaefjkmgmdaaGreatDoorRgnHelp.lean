/- Contracts of the laws' own helpers over reigns: how long all is (szReign, szReignS), copies (toReign, toReignS), two lists alike are told alike (eqReign, eqReignS). -/
import Derived.Test.YtioiaefjkmgmdaaGreatDoorRgnOpen
import Derived.Laws.MakeOwn
import Derived.Deep.RegionWith
namespace Go.Proofs.YtioiaefjkmgmdaaGreatDoor.ctr
open Go.RowKit

def szR (n : Nat) (left : Int) : Int := if left < n then -1 else left - n
theorem szReign (s : ByteArray) (f t left : Int) (w : World) (hs : s.size ≤ maxLen) (h1 : 0 ≤ left) (h2 : left ≤ 1048576) : Calls Tryz.prog 158 #[.agg #[.string s, .int .i64 f, .int .i64 t], .int .i64 left] w fun e w' => e = .returned (.int .i64 (szR s.size left)) ∧ Below w.heap.size w w' := by
  unfold maxLen at hs
  unfold szR
  by_cases h : left < s.size
  · rw [if_pos h]
    go_enter Tryz.func158, Tryz.ntmps158
    go_wp2
    go_ret
    exact ⟨rfl, (Below.refl _ _).alloc (Nat.le_refl _) _⟩
  · rw [if_neg h]
    go_enter Tryz.func158, Tryz.ntmps158
    go_wp2
    go_ret
    exact ⟨rfl, (Below.refl _ _).alloc (Nat.le_refl _) _⟩
theorem toReign (s : ByteArray) (f t : Int) (w : World) : Calls Tryz.prog 161 #[.agg #[.string s, .int .i64 f, .int .i64 t]] w fun e w' => e = .returned (.agg #[.string s, .int .i64 f, .int .i64 t]) ∧ Below w.heap.size w w' := by
  go_enter Tryz.func161, Tryz.ntmps161
  go_wp2
  go_returns
  refine ⟨rfl, ?_⟩
  go_grown
theorem eqReign1 (s : ByteArray) (f t : Int) (w : World) : Calls Tryz.prog 156 #[.agg #[.string s, .int .i64 f, .int .i64 t], .agg #[.string s, .int .i64 f, .int .i64 t]] w fun e w' => e = .returned (.bool true) ∧ Below w.heap.size w w' := by
  go_enter Tryz.func156, Tryz.ntmps156
  go_wp2
  go_ret
  exact ⟨rfl, ((Below.refl _ _).alloc (Nat.le_refl _) _).alloc (by rw [World.size_alloc]; omega) _⟩

/-- How long a list that is let by is. -/
def SizeOk (l : List Rgn) : Prop := l.length ≤ 1048576 ∧ ∀ k, k < l.length → (rgA l k).name.size ≤ 1048576
theorem SizeOk.names {l : List Rgn} (h : SizeOk l) : ∀ k, k < l.length → (rgA l k).name.size ≤ maxLen := fun k hk => by
  have := h.2 k hk
  unfold maxLen
  omega
theorem len_ok {l : List Rgn} (h : SizeOk l) : l.length ≤ maxLen := by
  have := h.1
  unfold maxLen
  omega
theorem RIn.below {w w' : World} {a : Option Addr} {len cap : Nat} {l : List Rgn} (h : RIn w a len cap l) (hb : Below w.heap.size w w') : RIn w' a len cap l := by
  obtain ⟨h1, h2, h3, h4, h5⟩ := h
  refine ⟨h1, h2, h3, h4, ?_⟩
  rcases h5 with h5 | ⟨x, hx, h⟩
  · exact .inl h5
  · exact .inr ⟨x, hx, fun k hk => ⟨Later.at (h k hk).1 ⟨w', hb⟩, Later.at (h k hk).2.1 ⟨w', hb⟩, Later.at (h k hk).2.2 ⟨w', hb⟩⟩⟩
theorem add_off (x : Addr) (n j : Nat) (h : 0 < j) : x.add (n + j) = ⟨(x.add n).block, (x.add n).off + j, none⟩ := by
  unfold Addr.add
  rw [if_neg (by omega)]
  split
  · rename_i e
    subst e
    simp
  · simp only [Nat.add_assoc]
theorem RIn.at {w : World} {a : Option Addr} {len cap : Nat} {l : List Rgn} (h : RIn w a len cap l) {k : Nat} (hk : k < len) : ∃ x, a = some x ∧ ∀ y : Later w, y.w.cell? (x.add (k * 3)) = some (.string (rgA l k).name) ∧ y.w.cell? ⟨(x.add (k * 3)).block, (x.add (k * 3)).off + 1, none⟩ = some (.int .i64 (rgA l k).fr) ∧ y.w.cell? ⟨(x.add (k * 3)).block, (x.add (k * 3)).off + 2, none⟩ = some (.int .i64 (rgA l k).to) := by
  obtain ⟨_, _, _, _, ⟨_, h0⟩ | ⟨x, hx, h⟩⟩ := h
  · omega
  · obtain ⟨h1, h2, h3⟩ := h k hk
    rw [add_off x _ _ (by omega)] at h2 h3
    exact ⟨x, hx, fun y => ⟨Later.at h1 y, Later.at h2 y, Later.at h3 y⟩⟩

set_option maxHeartbeats 1000000 in
theorem szReignS (a : Option Addr) (len cap : Nat) (l : List Rgn) (w : World) (h : RIn w a len cap l) : Calls Tryz.prog 119 #[.slice a len cap, .int .i64 1048576] w fun e w' => ∃ z : Int, e = .returned (.int .i64 z) ∧ (z = -1 ∨ (0 ≤ z ∧ SizeOk l)) ∧ Below w.heap.size w w' := by
  have hcap := h.2.2.1
  have hlc := h.2.1
  have hn := hideP h.2.2.2.1
  have hL := hideP h.1
  have H := hideP h
  unfold maxLen at hcap
  clear h
  by_cases hbig : (1048576 : Int) < len
  · go_enter Tryz.func119, Tryz.ntmps119
    go_wp2
    go_ret
    exact ⟨_, rfl, .inl rfl, Below.refl _ _⟩
  go_enter Tryz.func119, Tryz.ntmps119
  go_wp2
  go_loopw [1, 5] (fun z i wr => ∃ (k : Nat) (q : Int), k ≤ len ∧ i = .int .i64 (k : Int) ∧ z = .int .i64 q ∧ 0 ≤ q ∧ q ≤ 1048576 ∧ Hid (∀ j, j < k → (rgA l j).name.size ≤ 1048576) ∧ Below w.heap.size w wr) (fun _ i _ => len - (intOf i).toNat)
  case atStart => exact ⟨0, 1048576 - (len : Int), Nat.zero_le _, rfl, by go_num, by omega, by omega, fun j hj => by omega, Below.refl _ _⟩
  case round =>
    obtain ⟨k, q, hk, rfl, rfl, q1, q2, HS, hB⟩ := hrel
    have HB := hideP hB
    clear hB
    by_cases hlt : k < len
    · obtain ⟨x, rfl, hx⟩ := H.out.at hlt
      obtain ⟨c0, c1, c2⟩ := hx ⟨wr, HB.out⟩
      have hnk := hn.out k hlt
      dsimp only at c0 c1 c2
      have HN := hideP (show szR (rgA l k).name.size q = -1 ∨ (0 ≤ szR (rgA l k).name.size q ∧ szR (rgA l k).name.size q ≤ 1048576 ∧ (rgA l k).name.size ≤ 1048576) by unfold szR; split <;> omega)
      have HK : Hid (∀ W, Calls Tryz.prog 158 #[.agg #[.string (rgA l k).name, .int .i64 (rgA l k).fr, .int .i64 (rgA l k).to], .int .i64 q] W fun e w' => e = .returned (.int .i64 (szR (rgA l k).name.size q)) ∧ Below W.heap.size W w') := fun W => szReign _ _ _ _ W hnk q1 q2
      have HJ : Hid ((rgA l k).name.size ≤ 1048576 → ∀ j, j < k + 1 → (rgA l j).name.size ≤ 1048576) := fun g j hj => by
        by_cases e : j = k
        · subst e; exact g
        · exact HS.out j (by omega)
      clear hx hnk
      generalize szR (rgA l k).name.size q = z at *
      generalize rgA l k = r at *
      go_wp2_with fail
      refine (HK.out _).mono ?_
      rintro e w1 ⟨rfl, hb⟩
      have HB1 : Hid (Below w.heap.size w w1) := HB.out.trans (hb.mono HB.out.size)
      clear hb c0 c1 c2
      rcases HN.out with rfl | ⟨z1, z2, z3⟩
      · go_wp2
        go_ret
        exact ⟨_, rfl, .inl rfl, HB1.out⟩
      · go_wp2
        exact ⟨⟨k + 1, z, by omega, by go_num, rfl, z1, z2, HJ.out z3, HB1.out⟩, by simp [intOf]; omega⟩
    · go_wp2
      go_ret
      exact ⟨_, rfl, .inr ⟨q1, by rw [hL.out]; omega, by rw [hL.out]; exact fun j hj => HS.out j (by omega)⟩, HB.out⟩

theorem rset_size (vs : Array Value) (i : Nat) (v : Value) : (vs.setIfInBounds i v).size = vs.size := by simp
/-- The first k reigns, then what was there. -/
def rPart (l : List Rgn) (k : Nat) (cs : Array Value) : Prop := cs.size = l.length * 3 ∧ ∀ j, j < k * 3 → cs[j]? = (rA l)[j]?
theorem rPart_next {l : List Rgn} {k : Nat} {cs : Array Value} (h : rPart l k cs) (hk : k < l.length) :
    rPart l (k + 1) (((cs.setIfInBounds (k * 3) (.string (rgA l k).name)).setIfInBounds (k * 3 + 1) (.int .i64 (rgA l k).fr)).setIfInBounds (k * 3 + 2) (.int .i64 (rgA l k).to)) := by
  obtain ⟨h1, h2⟩ := h
  refine ⟨by simp [h1], fun j hj => ?_⟩
  by_cases e2 : j = k * 3 + 2
  · subst e2
    rw [rA_at 2 hk rfl, Array.getElem?_setIfInBounds_self_of_lt (by simp; omega)]
  · rw [Array.getElem?_setIfInBounds_ne (by omega)]
    by_cases e1 : j = k * 3 + 1
    · subst e1
      rw [rA_at 1 hk rfl, Array.getElem?_setIfInBounds_self_of_lt (by simp; omega)]
    · rw [Array.getElem?_setIfInBounds_ne (by omega)]
      by_cases e0 : j = k * 3
      · subst e0
        have := rA_at (l := l) (k := k) 0 hk rfl
        rw [Nat.add_zero] at this
        rw [this, Array.getElem?_setIfInBounds_self_of_lt (by omega)]
      · rw [Array.getElem?_setIfInBounds_ne (by omega)]
        exact h2 j (by omega)
theorem rPart_all {l : List Rgn} {cs : Array Value} (h : rPart l l.length cs) : cs = rA l := by
  apply Array.ext_getElem?
  intro j
  by_cases hj : j < l.length * 3
  · exact h.2 j hj
  · rw [Array.getElem?_eq_none (by rw [h.1]; omega), Array.getElem?_eq_none (by rw [rA_size]; omega)]

theorem info_rgn : (Tryz.prog.info? 87).map (fun i => (i.zero, i.size, i.bytes)) = some (some (.agg #[.string ⟨#[]⟩, .int .i64 0, .int .i64 0]), 3, 32) := by kernel_rfl
def rzero : Array Value := #[.string ⟨#[]⟩, .int .i64 0, .int .i64 0]
theorem make_rgns (n : Nat) (hn : n ≤ 1048576) (W : World) : (Instr.makeSlice 27 (.int .i64 (n : Int)) (.int .i64 (n : Int))).run Tryz.prog W = .ok (.slice (some ⟨W.heap.size, 0, none⟩) n n) (W.alloc (.cells (madeCells rzero (n * 3)) 87)) := by
  obtain ⟨i0, hi, e⟩ := Option.map_eq_some_iff.1 info_rgn
  simp only [Prod.mk.injEq] at e
  obtain ⟨hz, hs, hb⟩ := e
  have h := run_make (P := Tryz.prog) W 27 87 i0 _ Tryz.underlying27 hi hz .i64 .i64 (n : Int) (n : Int) (by omega) (by omega) (by rw [hb]; omega) (by omega)
  rw [hs] at h
  simp only [Int.toNat_natCast] at h
  exact h

set_option maxHeartbeats 1000000 in
theorem toReignS (a : Option Addr) (len cap : Nat) (l : List Rgn) (w : World) (h : RIn w a len cap l) (hs : SizeOk l) : Calls Tryz.prog 122 #[.slice a len cap] w fun e w' => ∃ v, e = .returned v ∧ RNew w w' v l ∧ Below w.heap.size w w' := by
  have hlen := h.1
  have hl : len ≤ 1048576 := by rw [← hlen]; exact hs.1
  have H := hideP h
  have HL := hideP hlen
  have hmk := make_rgns len hl
  have hpart : Hid (rPart l 0 (madeCells rzero (len * 3))) := ⟨by rw [size_madeCells, hlen], fun j hj => by omega⟩
  clear h hs hlen
  go_enter Tryz.func122, Tryz.ntmps122
  go_wp2
  go_loopw [4] (fun i wr => ∃ (k : Nat) (cs : Array Value), k ≤ len ∧ i = .int .i64 (k : Int) ∧ rPart l k cs ∧ Blk wr w.heap.size cs 87 ∧ Below w.heap.size w wr) (fun i _ => len - (intOf i).toNat)
  case atStart => exact ⟨0, _, Nat.zero_le _, rfl, hpart.out, Blk.new w _ _, (Below.refl _ _).alloc (Nat.le_refl _) _⟩
  case round =>
    obtain ⟨k, cs, hk, rfl, hp, hb, hB⟩ := hrel
    have HB := hideP hB
    have HP := hideP hp
    have HK := hideP hb
    clear hB hp hb
    by_cases hlt : k < len
    · obtain ⟨x, rfl, hx⟩ := H.out.at hlt
      obtain ⟨c0, c1, c2⟩ := hx ⟨wr, HB.out⟩
      dsimp only at c0 c1 c2
      have HN := hideP (rPart_next HP.out (by rw [HL.out]; exact hlt))
      clear hx
      generalize rgA l k = r at *
      go_wp2_with fail
      refine (toReign _ _ _ _).mono ?_
      rintro e w1 ⟨rfl, hb⟩
      have HB1 : Hid (Below w.heap.size w w1) := HB.out.trans (hb.mono HB.out.size)
      have HK1 := HK.out.below hb HK.out.lt
      clear hb c0 c1 c2 hmk
      have hsz : cs.size = len * 3 := by rw [HP.out.1, HL.out]
      have d0 := HK1.cell (k * 3) (v := cs[k * 3]'(by omega)) (by simp)
      have d1 := HK1.cell (k * 3 + 1) (v := cs[k * 3 + 1]'(by omega)) (by simp)
      have d2 := HK1.cell (k * 3 + 2) (v := cs[k * 3 + 2]'(by omega)) (by simp)
      have t0 := HK1.thaw (k * 3)
      have t1 := HK1.thaw (k * 3 + 1)
      have t2 := HK1.thaw (k * 3 + 2)
      have HS := hideP HK1
      generalize cs[k * 3]'(by omega) = v0 at d0
      generalize cs[k * 3 + 1]'(by omega) = v1 at d1
      generalize cs[k * 3 + 2]'(by omega) = v2 at d2
      clear HK1 hsz
      go_wp2
      exact ⟨⟨k + 1, _, by omega, by go_num, HN.out, ((HS.out.set _ _).set _ _).set _ _, below_store (below_store (below_store HB1.out _ (Nat.le_refl _)) _ (Nat.le_refl _)) _ (Nat.le_refl _)⟩, by simp [intOf]; omega⟩
    · have hkn : k = l.length := by rw [HL.out]; omega
      have HP' := HP.out
      rw [hkn] at HP'
      have hcs := rPart_all HP'
      have HC := hideP hcs
      clear hcs HP' hkn
      go_wp2
      go_ret
      exact ⟨.slice (some ⟨w.heap.size, 0, none⟩) len len, rfl, ⟨w.heap.size, 87, by rw [HL.out], Nat.le_refl _, by rw [← HC.out]; exact HK.out⟩, HB.out⟩

set_option maxHeartbeats 1000000 in
theorem eqReignS (v1 v2 : Value) (l : List Rgn) (w : World) (h1 : RRow w v1 l) (h2 : RRow w v2 l) : Calls Tryz.prog 110 #[v1, v2] w fun e w' => e = .returned (.bool true) ∧ Below w.heap.size w w' := by
  obtain ⟨a1, c1, rfl, l1, m1, _, H1⟩ := h1
  obtain ⟨a2, c2, rfl, _, _, _, H2⟩ := h2
  have K1 := hideP H1
  have K2 := hideP H2
  unfold maxLen at m1
  clear H1 H2
  go_enter Tryz.func110, Tryz.ntmps110
  go_wp2
  go_loopw [5] (fun i wr => ∃ k : Nat, k ≤ l.length ∧ i = .int .i64 (k : Int) ∧ Below w.heap.size w wr) (fun i _ => l.length - (intOf i).toNat)
  case atStart => exact ⟨0, Nat.zero_le _, rfl, Below.refl _ _⟩
  case round =>
    obtain ⟨k, hk, rfl, hB⟩ := hrel
    have HB := hideP hB
    clear hB
    by_cases hlt : k < l.length
    · obtain ⟨g1, rfl, hg1, x1⟩ := K1.out k hlt
      obtain ⟨g2, rfl, hg2, x2⟩ := K2.out k hlt
      obtain ⟨a0, a1, a2⟩ := x1.below HB.out hg1
      obtain ⟨b0, b1, b2⟩ := x2.below HB.out hg2
      clear x1 x2
      generalize rgA l k = r at *
      go_wp2
      go_region_with (go_at_call 156; refine (eqReign1 _ _ _ _).mono ?_; rintro e w2 ⟨rfl, hb2⟩; have HB2 : Hid (Below w.heap.size w w2) := HB.out.trans ⟨hb2.os, hb2.tape, hb2.output, Nat.le_trans (Nat.le_refl _) hb2.size, fun j hj => hb2.block j (Nat.lt_of_lt_of_le hj HB.out.size)⟩; clear hb2)
      all_goals go_wp2
      all_goals exact ⟨⟨k + 1, by omega, by go_num, HB2.out⟩, by simp [intOf]; omega⟩
    · go_wp2
      go_ret
      exact ⟨rfl, HB.out⟩
end Go.Proofs.YtioiaefjkmgmdaaGreatDoor.ctr
