/- Contracts of the laws' own helpers over reigns: how long all is (szReign, szReignS), copies (toReign, toReignS), two lists alike are told alike (eqReign, eqReignS). Contracts of the model's l06Start, l06Year, YearStart, YearDays, StyleYear: each answers its plain function. Contracts of the program's beginnings of years: the methods of solarYear, beginning. Each answers its plain function where the table of months holds its numbers. Contract of the program's beginning: the day on which a year of a style begins, where the table of months holds its numbers. Plain laws of years of a style, of no program: which days come twice in a year from Easter to Easter, in which years of 1 January a month's day of a year stands, how long a year is. Contracts of the program's YearStart, YearDays, StyleYear, isInYear: each answers its plain function, where the table of months holds its numbers. Plain laws of the years of reigns, of no program: how often the day has come that has the month and the day of the first one, by how much the year of a style is above the first one's; that these years go up one by one. -/
import Derived.Test.YtdmlhiailjnhcaaGreatDoorJnYap
import Derived.Laws.MakeOwn
import Derived.Deep.RegionWith
import Derived.Test.YtdmlhiailjnhcaaGreatDoorJnYah
import Derived.Test.YtdmlhiailjnhcaaGreatDoorJnYam
import Derived.Test.YtdmlhiailjnhcaaGreatDoorJnYad
import Derived.Test.YtdmlhiailjnhcaaGreatDoorJnYan
namespace Go.Proofs.YtdmlhiailjnhcaaGreatDoor.ctr
open Go.RowKit
def szR (n : Nat) (left : Int) : Int := if left < n then -1 else left - n
theorem szReign (s : ByteArray) (f t left : Int) (w : World) (hs : s.size ≤ maxLen) (h1 : 0 ≤ left) (h2 : left ≤ 1048576) : CR 61 #[.agg #[.string s, .int .i64 f, .int .i64 t], .int .i64 left] w (.int .i64 (szR s.size left)) := by
 unfold maxLen at hs
 unfold szR
 by_cases h : left < s.size
 · rw [if_pos h]
   go_enter Tryz.func61, Tryz.ntmps61
   go_wp2
   go_ret
   exact ⟨rfl, (Below.refl _ _).alloc (Nat.le_refl _) _⟩
 · rw [if_neg h]
   go_enter Tryz.func61, Tryz.ntmps61
   go_wp2
   go_ret
   exact ⟨rfl, (Below.refl _ _).alloc (Nat.le_refl _) _⟩
theorem toReign (s : ByteArray) (f t : Int) (w : World) : CR 72 #[.agg #[.string s, .int .i64 f, .int .i64 t]] w (.agg #[.string s, .int .i64 f, .int .i64 t]) := by
 go_enter Tryz.func72, Tryz.ntmps72
 go_wp2
 go_returns
 refine ⟨rfl, ?_⟩
 go_grown
theorem eqReign1 (s : ByteArray) (f t : Int) (w : World) : CR 78 #[.agg #[.string s, .int .i64 f, .int .i64 t], .agg #[.string s, .int .i64 f, .int .i64 t]] w (.bool true) := by
 go_enter Tryz.func78, Tryz.ntmps78
 go_wp2
 go_ret
 exact ⟨rfl, ((Below.refl _ _).alloc (Nat.le_refl _) _).alloc (by rw [World.size_alloc]; omega) _⟩
def SizeOk (l : List Rgn) : Prop := l.length ≤ 1048576 ∧ ∀ k, k < l.length → (rgA l k).name.size ≤ 1048576
theorem SizeOk.names {l : List Rgn} (h : SizeOk l) : ∀ k, k < l.length → (rgA l k).name.size ≤ maxLen := fun k hk => by
 have := h.2 k hk
 unfold maxLen
 omega
theorem len_ok {l : List Rgn} (h : SizeOk l) : l.length ≤ maxLen := by
 have := h.1
 unfold maxLen
 omega
theorem RIn.below {w w' : World} {a : Option Addr} {len cap : Nat} {l : List Rgn} (h : RIn w a len cap l) (hb : Below w.heap.size w w') : RIn w' a len cap l := by
 obtain ⟨h1, h2, h3, h4, h5⟩ := h
 refine ⟨h1, h2, h3, h4, ?_⟩
 rcases h5 with h5 | ⟨x, hx, h⟩
 · exact .inl h5
 · exact .inr ⟨x, hx, fun k hk => ⟨Later.at (h k hk).1 ⟨w', hb⟩, Later.at (h k hk).2.1 ⟨w', hb⟩, Later.at (h k hk).2.2 ⟨w', hb⟩⟩⟩
theorem add_off (x : Addr) (n j : Nat) (h : 0 < j) : x.add (n + j) = ⟨(x.add n).block, (x.add n).off + j, none⟩ := by
 unfold Addr.add
 rw [if_neg (by omega)]
 split
 · rename_i e
   subst e
   simp
 · simp only [Nat.add_assoc]
theorem RIn.at {w : World} {a : Option Addr} {len cap : Nat} {l : List Rgn} (h : RIn w a len cap l) {k : Nat} (hk : k < len) : ∃ x, a = some x ∧ ∀ y : Later w, y.w.cell? (x.add (k * 3)) = some (.string (rgA l k).name) ∧ y.w.cell? ⟨(x.add (k * 3)).block, (x.add (k * 3)).off + 1, none⟩ = some (.int .i64 (rgA l k).fr) ∧ y.w.cell? ⟨(x.add (k * 3)).block, (x.add (k * 3)).off + 2, none⟩ = some (.int .i64 (rgA l k).to) := by
 obtain ⟨_, _, _, _, ⟨_, h0⟩ | ⟨x, hx, h⟩⟩ := h
 · omega
 · obtain ⟨h1, h2, h3⟩ := h k hk
   rw [add_off x _ _ (by omega)] at h2 h3
   exact ⟨x, hx, fun y => ⟨Later.at h1 y, Later.at h2 y, Later.at h3 y⟩⟩
set_option maxHeartbeats 1000000 in
theorem szReignS (a : Option Addr) (len cap : Nat) (l : List Rgn) (w : World) (h : RIn w a len cap l) : Calls Tryz.prog 35 #[.slice a len cap, .int .i64 1048576] w fun e w' => ∃ z : Int, e = .returned (.int .i64 z) ∧ (z = -1 ∨ (0 ≤ z ∧ SizeOk l)) ∧ Below w.heap.size w w' := by
 have hcap := h.2.2.1
 have hlc := h.2.1
 have hn := hideP h.2.2.2.1
 have hL := hideP h.1
 have H := hideP h
 unfold maxLen at hcap
 clear h
 by_cases hbig : (1048576 : Int) < len
 · go_enter Tryz.func35, Tryz.ntmps35
   go_wp2
   go_ret
   exact ⟨_, rfl, .inl rfl, Below.refl _ _⟩
 go_enter Tryz.func35, Tryz.ntmps35
 go_wp2
 go_loopw [1, 5] (fun z i wr => ∃ (k : Nat) (q : Int), k ≤ len ∧ i = .int .i64 (k : Int) ∧ z = .int .i64 q ∧ 0 ≤ q ∧ q ≤ 1048576 ∧ Hid (∀ j, j < k → (rgA l j).name.size ≤ 1048576) ∧ Below w.heap.size w wr) (fun _ i _ => len - (intOf i).toNat)
 case atStart => exact ⟨0, 1048576 - (len : Int), Nat.zero_le _, rfl, by go_num, by omega, by omega, fun j hj => by omega, Below.refl _ _⟩
 case round =>
  obtain ⟨k, q, hk, rfl, rfl, q1, q2, HS, hB⟩ := hrel
  have HB := hideP hB
  clear hB
  by_cases hlt : k < len
  · obtain ⟨x, rfl, hx⟩ := H.out.at hlt
    obtain ⟨c0, c1, c2⟩ := hx ⟨wr, HB.out⟩
    have hnk := hn.out k hlt
    dsimp only at c0 c1 c2
    have HN := hideP (show szR (rgA l k).name.size q = -1 ∨ (0 ≤ szR (rgA l k).name.size q ∧ szR (rgA l k).name.size q ≤ 1048576 ∧ (rgA l k).name.size ≤ 1048576) by unfold szR; split <;> omega)
    have HK : Hid (∀ W, CR 61 #[.agg #[.string (rgA l k).name, .int .i64 (rgA l k).fr, .int .i64 (rgA l k).to], .int .i64 q] W (.int .i64 (szR (rgA l k).name.size q))) := fun W => szReign _ _ _ _ W hnk q1 q2
    have HJ : Hid ((rgA l k).name.size ≤ 1048576 → ∀ j, j < k + 1 → (rgA l j).name.size ≤ 1048576) := fun g j hj => by
     by_cases e : j = k
     · subst e; exact g
     · exact HS.out j (by omega)
    clear hx hnk
    generalize szR (rgA l k).name.size q = z at *
    generalize rgA l k = r at *
    go_wp2_with fail
    refine (HK.out _).mono ?_
    rintro e w1 ⟨rfl, hb⟩
    have HB1 : Hid (Below w.heap.size w w1) := HB.out.trans (hb.mono HB.out.size)
    clear hb c0 c1 c2
    rcases HN.out with rfl | ⟨z1, z2, z3⟩
    · go_wp2
      go_ret
      exact ⟨_, rfl, .inl rfl, HB1.out⟩
    · go_wp2
      exact ⟨⟨k + 1, z, by omega, by go_num, rfl, z1, z2, HJ.out z3, HB1.out⟩, by simp [intOf]; omega⟩
  · go_wp2
    go_ret
    exact ⟨_, rfl, .inr ⟨q1, by rw [hL.out]; omega, by rw [hL.out]; exact fun j hj => HS.out j (by omega)⟩, HB.out⟩
def rPart (l : List Rgn) (k : Nat) (cs : Array Value) : Prop := cs.size = l.length * 3 ∧ ∀ j, j < k * 3 → cs[j]? = (rA l)[j]?
theorem rPart_next {l : List Rgn} {k : Nat} {cs : Array Value} (h : rPart l k cs) (hk : k < l.length) :
    rPart l (k + 1) (((cs.setIfInBounds (k * 3) (.string (rgA l k).name)).setIfInBounds (k * 3 + 1) (.int .i64 (rgA l k).fr)).setIfInBounds (k * 3 + 2) (.int .i64 (rgA l k).to)) := by
  obtain ⟨h1, h2⟩ := h
  refine ⟨by simp [h1], fun j hj => ?_⟩
  by_cases e2 : j = k * 3 + 2
  · subst e2
    rw [rA_at 2 hk rfl, Array.getElem?_setIfInBounds_self_of_lt (by simp; omega)]
  · rw [Array.getElem?_setIfInBounds_ne (by omega)]
    by_cases e1 : j = k * 3 + 1
    · subst e1
      rw [rA_at 1 hk rfl, Array.getElem?_setIfInBounds_self_of_lt (by simp; omega)]
    · rw [Array.getElem?_setIfInBounds_ne (by omega)]
      by_cases e0 : j = k * 3
      · subst e0
        have := rA_at (l := l) (k := k) 0 hk rfl
        rw [Nat.add_zero] at this
        rw [this, Array.getElem?_setIfInBounds_self_of_lt (by omega)]
      · rw [Array.getElem?_setIfInBounds_ne (by omega)]
        exact h2 j (by omega)
theorem rPart_all {l : List Rgn} {cs : Array Value} (h : rPart l l.length cs) : cs = rA l := by
 apply Array.ext_getElem?
 intro j
 by_cases hj : j < l.length * 3
 · exact h.2 j hj
 · rw [Array.getElem?_eq_none (by rw [h.1]; omega), Array.getElem?_eq_none (by rw [rA_size]; omega)]
theorem info_rgn : (Tryz.prog.info? 116).map (fun i => (i.zero, i.size, i.bytes)) = some (some (.agg #[.string ⟨#[]⟩, .int .i64 0, .int .i64 0]), 3, 32) := by kernel_rfl
def rzero : Array Value := #[.string ⟨#[]⟩, .int .i64 0, .int .i64 0]
theorem make_rgns (n : Nat) (hn : n ≤ 1048576) (W : World) : (Instr.makeSlice 36 (.int .i64 (n : Int)) (.int .i64 (n : Int))).run Tryz.prog W = .ok (.slice (some ⟨W.heap.size, 0, none⟩) n n) (W.alloc (.cells (madeCells rzero (n * 3)) 116)) := by
 obtain ⟨i0, hi, e⟩ := Option.map_eq_some_iff.1 info_rgn
 simp only [Prod.mk.injEq] at e
 obtain ⟨hz, hs, hb⟩ := e
 have h := run_make (P := Tryz.prog) W 36 116 i0 _ Tryz.underlying36 hi hz .i64 .i64 (n : Int) (n : Int) (by omega) (by omega) (by rw [hb]; omega) (by omega)
 rw [hs] at h
 simp only [Int.toNat_natCast] at h
 exact h
set_option maxHeartbeats 1000000 in
theorem toReignS (a : Option Addr) (len cap : Nat) (l : List Rgn) (w : World) (h : RIn w a len cap l) (hs : SizeOk l) : Calls Tryz.prog 39 #[.slice a len cap] w fun e w' => ∃ v, e = .returned v ∧ RNew w w' v l ∧ Below w.heap.size w w' := by
 have hlen := h.1
 have hl : len ≤ 1048576 := by rw [← hlen]; exact hs.1
 have H := hideP h
 have HL := hideP hlen
 have hmk := make_rgns len hl
 have hpart : Hid (rPart l 0 (madeCells rzero (len * 3))) := ⟨by rw [size_madeCells, hlen], fun j hj => by omega⟩
 clear h hs hlen
 go_enter Tryz.func39, Tryz.ntmps39
 go_wp2
 go_loopw [4] (fun i wr => ∃ (k : Nat) (cs : Array Value), k ≤ len ∧ i = .int .i64 (k : Int) ∧ rPart l k cs ∧ Blk wr w.heap.size cs 116 ∧ Below w.heap.size w wr) (fun i _ => len - (intOf i).toNat)
 case atStart => exact ⟨0, _, Nat.zero_le _, rfl, hpart.out, Blk.new w _ _, (Below.refl _ _).alloc (Nat.le_refl _) _⟩
 case round =>
  obtain ⟨k, cs, hk, rfl, hp, hb, hB⟩ := hrel
  have HB := hideP hB
  have HP := hideP hp
  have HK := hideP hb
  clear hB hp hb
  by_cases hlt : k < len
  · obtain ⟨x, rfl, hx⟩ := H.out.at hlt
    obtain ⟨c0, c1, c2⟩ := hx ⟨wr, HB.out⟩
    dsimp only at c0 c1 c2
    have HN := hideP (rPart_next HP.out (by rw [HL.out]; exact hlt))
    clear hx
    generalize rgA l k = r at *
    go_wp2_with fail
    refine (toReign _ _ _ _).mono ?_
    rintro e w1 ⟨rfl, hb⟩
    have HB1 : Hid (Below w.heap.size w w1) := HB.out.trans (hb.mono HB.out.size)
    have HK1 := HK.out.below hb HK.out.lt
    clear hb c0 c1 c2 hmk
    have hsz : cs.size = len * 3 := by rw [HP.out.1, HL.out]
    have d0 := HK1.cell (k * 3) (v := cs[k * 3]'(by omega)) (by simp)
    have d1 := HK1.cell (k * 3 + 1) (v := cs[k * 3 + 1]'(by omega)) (by simp)
    have d2 := HK1.cell (k * 3 + 2) (v := cs[k * 3 + 2]'(by omega)) (by simp)
    have t0 := HK1.thaw (k * 3)
    have t1 := HK1.thaw (k * 3 + 1)
    have t2 := HK1.thaw (k * 3 + 2)
    have HS := hideP HK1
    generalize cs[k * 3]'(by omega) = v0 at d0
    generalize cs[k * 3 + 1]'(by omega) = v1 at d1
    generalize cs[k * 3 + 2]'(by omega) = v2 at d2
    clear HK1 hsz
    go_wp2
    exact ⟨⟨k + 1, _, by omega, by go_num, HN.out, ((HS.out.set _ _).set _ _).set _ _, below_store (below_store (below_store HB1.out _ (Nat.le_refl _)) _ (Nat.le_refl _)) _ (Nat.le_refl _)⟩, by simp [intOf]; omega⟩
  · have hkn : k = l.length := by rw [HL.out]; omega
    have HP' := HP.out
    rw [hkn] at HP'
    have hcs := rPart_all HP'
    have HC := hideP hcs
    clear hcs HP' hkn
    go_wp2
    go_ret
    exact ⟨.slice (some ⟨w.heap.size, 0, none⟩) len len, rfl, ⟨w.heap.size, 116, by rw [HL.out], Nat.le_refl _, by rw [← HC.out]; exact HK.out⟩, HB.out⟩
set_option maxHeartbeats 1000000 in
theorem eqReignS (v1 v2 : Value) (l : List Rgn) (w : World) (h1 : RRow w v1 l) (h2 : RRow w v2 l) : CR 44 #[v1, v2] w (.bool true) := by
 obtain ⟨a1, c1, rfl, l1, m1, _, H1⟩ := h1
 obtain ⟨a2, c2, rfl, _, _, _, H2⟩ := h2
 have K1 := hideP H1
 have K2 := hideP H2
 unfold maxLen at m1
 clear H1 H2
 go_enter Tryz.func44, Tryz.ntmps44
 go_wp2
 go_loopw [5] (fun i wr => ∃ k : Nat, k ≤ l.length ∧ i = .int .i64 (k : Int) ∧ Below w.heap.size w wr) (fun i _ => l.length - (intOf i).toNat)
 case atStart => exact ⟨0, Nat.zero_le _, rfl, Below.refl _ _⟩
 case round =>
  obtain ⟨k, hk, rfl, hB⟩ := hrel
  have HB := hideP hB
  clear hB
  by_cases hlt : k < l.length
  · obtain ⟨g1, rfl, hg1, x1⟩ := K1.out k hlt
    obtain ⟨g2, rfl, hg2, x2⟩ := K2.out k hlt
    obtain ⟨a0, a1, a2⟩ := x1.below HB.out hg1
    obtain ⟨b0, b1, b2⟩ := x2.below HB.out hg2
    clear x1 x2
    generalize rgA l k = r at *
    go_wp2
    go_region_with (go_at_call 78; refine (eqReign1 _ _ _ _).mono ?_; rintro e w2 ⟨rfl, hb2⟩; have HB2 : Hid (Below w.heap.size w w2) := HB.out.trans ⟨hb2.os, hb2.tape, hb2.output, Nat.le_trans (Nat.le_refl _) hb2.size, fun j hj => hb2.block j (Nat.lt_of_lt_of_le hj HB.out.size)⟩; clear hb2)
    all_goals go_wp2
    all_goals exact ⟨⟨k + 1, by omega, by go_num, HB2.out⟩, by simp [intOf]; omega⟩
  · go_wp2
    go_ret
    exact ⟨rfl, HB.out⟩
end Go.Proofs.YtdmlhiailjnhcaaGreatDoor.ctr
namespace Go.Proofs.YtdmlhiailjnhcaaGreatDoor.ctr
open Go.RowKit
theorem calls_below {P : Program} {f : FuncId} {args : Array Value} {W : World} {v : Value} (h : Calls P f args W fun e w' => e = .returned v ∧ w' = W) : Calls P f args W fun e w' => e = .returned v ∧ Below W.heap.size W w' :=
 h.mono fun _ _ ⟨he, hm⟩ => ⟨he, by rw [hm]; exact Below.refl _ _⟩
set_option maxHeartbeats 1000000 in
theorem specStart (c s y : Int) (w : World) (hc : c = 0 ∨ c = 1) (hs : styleP s) (hy1 : 1 ≤ y) (hy2 : y ≤ 3900) : CR 132 #[.int .i64 c, .int .i64 s, .int .i64 y] w (.int .i64 (start c s y)) := by
 rcases style_cases hs with rfl | rfl | rfl | rfl | rfl | rfl | rfl
 focus
   have K : ∀ x : Later w, CR 113 #[.int .i64 c, .int .i64 y] x.w (.int .i64 (start c 0 y)) := fun x => calls_below (specFirst c y x.w hc (by omega) (by omega))
   generalize start c 0 y = R at *
 rotate_left
 focus
   have K : ∀ x : Later w, CR 161 #[.int .i64 c, .int .i64 y, .int .i64 3, .int .i64 1] x.w (.int .i64 (start c 1 y)) := fun x => by rw [start_1]; exact specDay c y 3 1 x.w hc (by omega) (by omega) (by omega) (by omega) (by omega)
   generalize start c 1 y = R at *
 rotate_left
 focus
   have K : ∀ x : Later w, CR 161 #[.int .i64 c, .int .i64 y, .int .i64 3, .int .i64 25] x.w (.int .i64 (start c 2 y)) := fun x => by rw [start_2]; exact specDay c y 3 25 x.w hc (by omega) (by omega) (by omega) (by omega) (by omega)
   generalize start c 2 y = R at *
 rotate_left
 focus
   have K : ∀ x : Later w, CR 161 #[.int .i64 c, .int .i64 (y - 1), .int .i64 3, .int .i64 25] x.w (.int .i64 (start c 3 y)) := fun x => by rw [start_3]; exact specDay c (y - 1) 3 25 x.w hc (by omega) (by omega) (by omega) (by omega) (by omega)
   generalize start c 3 y = R at *
 rotate_left
 focus
   have K : ∀ x : Later w, CR 173 #[.int .i64 c, .int .i64 y] x.w (.int .i64 (start c 4 y)) := fun x => by rw [start_4]; exact specL03 c y x.w hc hy1 (by omega)
   generalize start c 4 y = R at *
 rotate_left
 focus
   have K : ∀ x : Later w, CR 161 #[.int .i64 c, .int .i64 (y - 1), .int .i64 9, .int .i64 1] x.w (.int .i64 (start c 5 y)) := fun x => by rw [start_5]; exact specDay c (y - 1) 9 1 x.w hc (by omega) (by omega) (by omega) (by omega) (by omega)
   generalize start c 5 y = R at *
 rotate_left
 focus
   have K : ∀ x : Later w, CR 161 #[.int .i64 c, .int .i64 (y - 1), .int .i64 12, .int .i64 25] x.w (.int .i64 (start c 6 y)) := fun x => by rw [start_6]; exact specDay c (y - 1) 12 25 x.w hc (by omega) (by omega) (by omega) (by omega) (by omega)
   generalize start c 6 y = R at *
 rotate_left
 all_goals
  clear hc hs
  go_enter Tryz.func132, Tryz.ntmps132
  go_wp2_with fail
  refine latO (K ⟨w, Below.refl _ _⟩) fun x1 => ?_
  go_wp2
  go_ret
  exact ⟨rfl, x1.below⟩
theorem date_cases (c n : Int) : dateOf c n = (0, 0, 0, 0, false) ∨ ∃ Y m d, dateOf c n = (c, Y, m, d, true) ∧ (c = 0 ∨ c = 1) ∧ 1 ≤ Y ∧ Y ≤ 3000 ∧ first c Y ≤ n ∧ n < first c (Y + 1) := by
 by_cases h : (c = 0 ∨ c = 1) ∧ 1 ≤ yearOf c n ∧ yearOf c n ≤ 3000 ∧ -1000 ≤ n ∧ n ≤ 1200000
 · right
   have k : dateOf c n = (c, yearOf c n, (monthOf c (yearOf c n) (n - first c (yearOf c n)) : Int) + 1, n - first c (yearOf c n) - before c (yearOf c n) (monthOf c (yearOf c n) (n - first c (yearOf c n))) + 1, true) := by
    unfold dateOf
    rw [if_pos h]
   obtain ⟨_, hd, hn⟩ := date_back k
   have hl := line_in h.1 (dateP_month hd).1 (dateP_month hd).2 hd.2.2.2.1 hd.2.2.2.2
   rw [← lineD_dayOf hd, hn] at hl
   exact ⟨_, _, _, k, h.1, h.2.1, h.2.2.1, hl.1, hl.2⟩
 · exact .inl (dateOf_no h)
noncomputable def styR (c s n : Int) : Value := .tuple #[.int .i64 (styYear c s n).1, .bool (styYear c s n).2]
theorem styR_no {c s n : Int} (h : styYear c s n = (0, false)) : styR c s n = .tuple #[.int .i64 0, .bool false] := by unfold styR; rw [h]
theorem styR_yes {c s n y : Int} (h : styYear c s n = (y, true)) : styR c s n = .tuple #[.int .i64 y, .bool true] := by unfold styR; rw [h]
theorem raw_of {c s Y n y : Int} (h : y = Y - 1 ∨ y = Y ∨ y = Y + 1) (h1 : Y ≤ y → start c s Y ≤ n) (h2 : Y + 1 ≤ y → start c s (Y + 1) ≤ n) (he : y ≤ Y → n < start c s (y + 1)) : rawYear c s Y n = y := by
 rcases h with rfl | rfl | rfl
 · have := he (by omega)
   rw [show Y - 1 + 1 = Y by omega] at this
   exact raw_lo this
 · exact raw_mid (by have := h1 (by omega); omega) (he (by omega))
 · exact raw_hi (by have := h1 (by omega); have := h2 (by omega); omega) (by have := h2 (by omega); omega)
set_option maxHeartbeats 2000000 in
theorem specStyleYear (c s n : Int) (w : World) : CR 79 #[.int .i64 c, .int .i64 s, .int .i64 n] w (styR c s n) := by
 have KD := specDateOf c n w
 rcases date_cases c n with hD | ⟨Y, m, d, hD, hc, hY1, hY2, hn1, hn2⟩
 · rw [dateR_no hD] at KD
   have HR : Hid (styR c s n = .tuple #[.int .i64 0, .bool false]) := styR_no (sty_none hD)
   rw [HR.out]
   clear hD HR
   unfold z4 at KD
   go_enter Tryz.func79, Tryz.ntmps79
   go_wp2_with fail
   refine KD.mono ?_
   rintro e w1 ⟨rfl, hb⟩
   go_wp2
   go_returns
   exact ⟨rfl, hb.alloc hb.size _⟩
 · rw [dateR_yes hD] at KD
   by_cases hs : styleP s
   · have hE := styText_some hs
     have KS : ∀ W, CR 131 #[.int .i64 s] W (.string (styText s)) := fun W => specStyleName s W
     have KB : Hid (∀ (y : Int), 0 ≤ y → y ≤ 3001 → ∀ W, CR 132 #[.int .i64 c, .int .i64 s, .int .i64 (y + 1)] W (.int .i64 (start c s (y + 1)))) := fun y h1 h2 W => specStart c s (y + 1) W hc hs (by omega) (by omega)
     have HF := hideP (start_far hc hs hY1 hY2 hn2)
     have HRaw : Hid (∀ y, (y = Y - 1 ∨ y = Y ∨ y = Y + 1) → (Y ≤ y → start c s Y ≤ n) → (Y + 1 ≤ y → start c s (Y + 1) ≤ n) → (y ≤ Y → n < start c s (y + 1)) → rawYear c s Y n = y) := fun y h h1 h2 he => raw_of h h1 h2 he
     have HO : Hid (1 ≤ rawYear c s Y n → rawYear c s Y n ≤ 3000 → styR c s n = .tuple #[.int .i64 (rawYear c s Y n), .bool true]) := fun h1 h2 => styR_yes (sty_yes hD hs h1 h2)
     have HN : Hid (¬ (1 ≤ rawYear c s Y n ∧ rawYear c s Y n ≤ 3000) → styR c s n = .tuple #[.int .i64 0, .bool false]) := fun h => styR_no (sty_out hD h)
     generalize styR c s n = R at *
     generalize styText s = t at *
     clear hD hn1 hn2 hc hs
     go_enter Tryz.func79, Tryz.ntmps79
     go_wp2_with fail
     refine KD.mono ?_
     rintro e w1 ⟨rfl, hb1⟩
     have HB1 := hideP hb1
     obtain ⟨W0, hW0⟩ : ∃ W0, W0 = w1.alloc (.cells #[.int .i64 c, .int .i64 Y, .int .i64 m, .int .i64 d] 99) := ⟨_, rfl⟩
     have HW0 := hideP hW0
     have c1 : ∀ x : Later W0, x.w.cell? ⟨w1.heap.size, 1, none⟩ = some (.int .i64 Y) := Later.new hW0 1 rfl
     have HL : Hid (∀ x : Later W0, Below w.heap.size w x.w) := fun x => HB1.out.trans ((below_of_alloc HW0.out x.below).mono HB1.out.size)
     clear hb1 hW0 KD
     go_wp2_with fail
     rw [← HW0.out]
     refine latO (KS _) fun x1 => ?_
     go_wp2_with fail
     go_loopw [10] (fun i wr => ∃ (y : Int) (x : Later W0), i = .int .i64 y ∧ wr = x.w ∧ Y - 1 ≤ y ∧ y ≤ Y + 1 ∧ Hid (Y ≤ y → start c s Y ≤ n) ∧ Hid (Y + 1 ≤ y → start c s (Y + 1) ≤ n)) (fun i _ => (4000 - intOf i).toNat)
     case atStart => exact ⟨Y - 1, x1, rfl, rfl, by omega, by omega, fun h => by omega, fun h => by omega⟩
     case round =>
      obtain ⟨y, x, rfl, rfl, y1, y2, H1, H2⟩ := hrel
      have K := KB.out y (by omega) (by omega)
      by_cases hle : start c s (y + 1) ≤ n
      · have hyY : y ≤ Y := by
         by_cases h : y ≤ Y
         · exact h
         · have e : y = Y + 1 := by omega
           subst e
           have := HF.out
           rw [show Y + 1 + 1 = Y + 2 by omega] at hle
           omega
        have H1' : Hid (Y ≤ y + 1 → start c s Y ≤ n) := fun h => by
         by_cases e : Y ≤ y
         · exact H1.out e
         · rw [show Y = y + 1 by omega]; exact hle
        have H2' : Hid (Y + 1 ≤ y + 1 → start c s (Y + 1) ≤ n) := fun h => by
         rw [show Y = y by omega]; exact hle
        clear H1 H2 HF
        generalize start c s (y + 1) = S at *
        go_wp2_with fail
        refine lat (K _) fun x3 => ?_
        go_wp2
        exact ⟨⟨y + 1, x3, rfl, rfl, by omega, by omega, H1', H2'⟩, by simp [intOf]; omega⟩
      · have hraw : rawYear c s Y n = y := HRaw.out y (by omega) H1.out H2.out (fun _ => by omega)
        rw [hraw] at HO HN
        clear H1 H2 HF HRaw hraw KB
        generalize start c s (y + 1) = S at *
        by_cases hin : 1 ≤ y ∧ y ≤ 3000
        · have hI : inB y 1 3000 = true := inB_true hin.1 hin.2
          have KI := fun W => l01In y 1 3000 W
          rw [hI] at KI
          go_wp2_with fail
          refine lat (K _) fun x3 => ?_
          go_wp2_with fail
          refine (KI _).mono ?_
          rintro e w4 ⟨rfl, hw⟩
          rw [hw]
          clear hw
          go_wp2
          go_returns
          rw [HO.out hin.1 hin.2]
          exact ⟨rfl, HL.out x3⟩
        · have hI : inB y 1 3000 = false := inB_false (by omega)
          have KI := fun W => l01In y 1 3000 W
          rw [hI] at KI
          go_wp2_with fail
          refine lat (K _) fun x3 => ?_
          go_wp2_with fail
          refine (KI _).mono ?_
          rintro e w4 ⟨rfl, hw⟩
          rw [hw]
          clear hw
          go_wp2
          go_returns
          rw [HN.out hin]
          exact ⟨rfl, HL.out x3⟩
   · have hE := styText_none hs
     have KS : ∀ W, CR 131 #[.int .i64 s] W (.string (styText s)) := fun W => specStyleName s W
     have HR : Hid (styR c s n = .tuple #[.int .i64 0, .bool false]) := styR_no (sty_style hs)
     rw [HR.out]
     clear hD HR hs hn1 hn2 hc
     generalize styText s = t at *
     go_enter Tryz.func79, Tryz.ntmps79
     go_wp2_with fail
     refine KD.mono ?_
     rintro e w1 ⟨rfl, hb1⟩
     have HB1 := hideP hb1
     clear hb1
     go_wp2_with fail
     refine (KS _).mono ?_
     rintro e w2 ⟨rfl, hb⟩
     have HB2 := hideP (below_alloc hb)
     clear hb
     go_wp2
     go_returns
     exact ⟨rfl, HB1.out.trans (HB2.out.mono HB1.out.size)⟩
end Go.Proofs.YtdmlhiailjnhcaaGreatDoor.ctr
namespace Go.Proofs.YtdmlhiailjnhcaaGreatDoor.ctr
open Go.RowKit
theorem implDayOn (c y m d : Int) (w : World) (hT : Tab w) (hc : c = 0 ∨ c = 1) (hy1 : -5 ≤ y) (hy2 : y ≤ 4000) (hm1 : 1 ≤ m) (hm2 : m ≤ 13) (hd1 : -100 ≤ d) (hd2 : d ≤ 1000) : CR 258 #[.agg #[.int .i64 c, .int .i64 y], .int .i64 m, .int .i64 d] w (.int .i64 (lineD c y m d)) := by
 obtain ⟨W0, hW0⟩ : ∃ W0, W0 = w.alloc (.cells #[.int .i64 c, .int .i64 y] 243) := ⟨_, rfl⟩
 have HW0 := hideP hW0
 have KT : ∀ x : Later W0, Tab x.w := fun x => hT.later (below_of_alloc hW0 x.below)
 clear hW0 hT
 have KL : CR 216 #[.agg #[.int .i64 c, .int .i64 y, .int .i64 m, .int .i64 d]] W0 (.int .i64 (lineD c y m d)) := implLine c y m d W0 (KT ⟨W0, Below.refl _ _⟩) hc hy1 hy2 hm1 hm2 hd1 hd2
 clear hc KT
 generalize lineD c y m d = R at *
 go_enter Tryz.func258, Tryz.ntmps258
 go_wp2_with fail
 rw [← HW0.out]
 refine KL.mono ?_
 rintro e w1 ⟨rfl, hb⟩
 go_wp2
 go_ret
 exact ⟨rfl, below_of_alloc HW0.out hb⟩
theorem implAhead (c y : Int) (w : World) (hy1 : -4 ≤ y) (hy2 : y ≤ 4000) : CR 259 #[.agg #[.int .i64 c, .int .i64 y]] w (.agg #[.int .i64 c, .int .i64 (y - 1)]) := by
 go_enter Tryz.func259, Tryz.ntmps259
 go_wp2
 go_returns
 refine ⟨rfl, ?_⟩
 go_grown
theorem impl_january (c y : Int) (w : World) (hT : Tab w) (hc : c = 0 ∨ c = 1) (hy1 : -5 ≤ y) (hy2 : y ≤ 4000) : CR 225 #[.agg #[.int .i64 c, .int .i64 y]] w (.int .i64 (lineD c y 1 1)) := by
 obtain ⟨W0, hW0⟩ : ∃ W0, W0 = w.alloc (.cells #[.int .i64 c, .int .i64 y] 243) := ⟨_, rfl⟩
 have HW0 := hideP hW0
 have KT : ∀ x : Later W0, Tab x.w := fun x => hT.later (below_of_alloc hW0 x.below)
 clear hW0 hT
 have KL : CR 258 #[.agg #[.int .i64 c, .int .i64 y], .int .i64 1, .int .i64 1] W0 (.int .i64 (lineD c y 1 1)) := implDayOn c y 1 1 W0 (KT ⟨W0, Below.refl _ _⟩) hc hy1 hy2 (by omega) (by omega) (by omega) (by omega)
 clear hc KT
 generalize lineD c y 1 1 = R at *
 go_enter Tryz.func225, Tryz.ntmps225
 go_wp2_with fail
 rw [← HW0.out]
 refine KL.mono ?_
 rintro e w1 ⟨rfl, hb⟩
 go_wp2
 go_ret
 exact ⟨rfl, below_of_alloc HW0.out hb⟩
theorem impl_march (c y : Int) (w : World) (hT : Tab w) (hc : c = 0 ∨ c = 1) (hy1 : -5 ≤ y) (hy2 : y ≤ 4000) : CR 226 #[.agg #[.int .i64 c, .int .i64 y]] w (.int .i64 (lineD c y 3 1)) := by
 obtain ⟨W0, hW0⟩ : ∃ W0, W0 = w.alloc (.cells #[.int .i64 c, .int .i64 y] 243) := ⟨_, rfl⟩
 have HW0 := hideP hW0
 have KT : ∀ x : Later W0, Tab x.w := fun x => hT.later (below_of_alloc hW0 x.below)
 clear hW0 hT
 have KL : CR 258 #[.agg #[.int .i64 c, .int .i64 y], .int .i64 3, .int .i64 1] W0 (.int .i64 (lineD c y 3 1)) := implDayOn c y 3 1 W0 (KT ⟨W0, Below.refl _ _⟩) hc hy1 hy2 (by omega) (by omega) (by omega) (by omega)
 clear hc KT
 generalize lineD c y 3 1 = R at *
 go_enter Tryz.func226, Tryz.ntmps226
 go_wp2_with fail
 rw [← HW0.out]
 refine KL.mono ?_
 rintro e w1 ⟨rfl, hb⟩
 go_wp2
 go_ret
 exact ⟨rfl, below_of_alloc HW0.out hb⟩
theorem impl_lady (c y : Int) (w : World) (hT : Tab w) (hc : c = 0 ∨ c = 1) (hy1 : -5 ≤ y) (hy2 : y ≤ 4000) : CR 227 #[.agg #[.int .i64 c, .int .i64 y]] w (.int .i64 (lineD c y 3 25)) := by
 obtain ⟨W0, hW0⟩ : ∃ W0, W0 = w.alloc (.cells #[.int .i64 c, .int .i64 y] 243) := ⟨_, rfl⟩
 have HW0 := hideP hW0
 have KT : ∀ x : Later W0, Tab x.w := fun x => hT.later (below_of_alloc hW0 x.below)
 clear hW0 hT
 have KL : CR 258 #[.agg #[.int .i64 c, .int .i64 y], .int .i64 3, .int .i64 25] W0 (.int .i64 (lineD c y 3 25)) := implDayOn c y 3 25 W0 (KT ⟨W0, Below.refl _ _⟩) hc hy1 hy2 (by omega) (by omega) (by omega) (by omega)
 clear hc KT
 generalize lineD c y 3 25 = R at *
 go_enter Tryz.func227, Tryz.ntmps227
 go_wp2_with fail
 rw [← HW0.out]
 refine KL.mono ?_
 rintro e w1 ⟨rfl, hb⟩
 go_wp2
 go_ret
 exact ⟨rfl, below_of_alloc HW0.out hb⟩
theorem impl_pisa (c y : Int) (w : World) (hT : Tab w) (hc : c = 0 ∨ c = 1) (hy1 : -4 ≤ y) (hy2 : y ≤ 4000) : CR 228 #[.agg #[.int .i64 c, .int .i64 y]] w (.int .i64 (lineD c (y - 1) 3 25)) := by
 obtain ⟨W0, hW0⟩ : ∃ W0, W0 = w.alloc (.cells #[.int .i64 c, .int .i64 y] 243) := ⟨_, rfl⟩
 have HW0 := hideP hW0
 have KT : ∀ x : Later W0, Tab x.w := fun x => hT.later (below_of_alloc hW0 x.below)
 clear hW0 hT
 have KA : CR 259 #[.agg #[.int .i64 c, .int .i64 y]] W0 (.agg #[.int .i64 c, .int .i64 (y - 1)]) := implAhead c y W0 hy1 hy2
 have KL : ∀ x : Later W0, CR 227 #[.agg #[.int .i64 c, .int .i64 (y - 1)]] x.w (.int .i64 (lineD c (y - 1) 3 25)) := fun x => impl_lady c (y - 1) x.w (KT x) hc (by omega) (by omega)
 clear hc KT
 generalize lineD c (y - 1) 3 25 = R at *
 go_enter Tryz.func228, Tryz.ntmps228
 go_wp2_with fail
 rw [← HW0.out]
 refine latO KA fun x1 => ?_
 go_wp2_with fail
 refine (KL x1).mono ?_
 rintro e w2 ⟨rfl, hb⟩
 go_wp2
 go_ret
 exact ⟨rfl, below_of_alloc HW0.out (x1.on hb)⟩
theorem impl_september (c y : Int) (w : World) (hT : Tab w) (hc : c = 0 ∨ c = 1) (hy1 : -4 ≤ y) (hy2 : y ≤ 4000) : CR 230 #[.agg #[.int .i64 c, .int .i64 y]] w (.int .i64 (lineD c (y - 1) 9 1)) := by
 obtain ⟨W0, hW0⟩ : ∃ W0, W0 = w.alloc (.cells #[.int .i64 c, .int .i64 y] 243) := ⟨_, rfl⟩
 have HW0 := hideP hW0
 have KT : ∀ x : Later W0, Tab x.w := fun x => hT.later (below_of_alloc hW0 x.below)
 clear hW0 hT
 have KA : CR 259 #[.agg #[.int .i64 c, .int .i64 y]] W0 (.agg #[.int .i64 c, .int .i64 (y - 1)]) := implAhead c y W0 hy1 hy2
 have KL : ∀ x : Later W0, CR 258 #[.agg #[.int .i64 c, .int .i64 (y - 1)], .int .i64 9, .int .i64 1] x.w (.int .i64 (lineD c (y - 1) 9 1)) := fun x => implDayOn c (y - 1) 9 1 x.w (KT x) hc (by omega) (by omega) (by omega) (by omega) (by omega) (by omega)
 clear hc KT
 generalize lineD c (y - 1) 9 1 = R at *
 go_enter Tryz.func230, Tryz.ntmps230
 go_wp2_with fail
 rw [← HW0.out]
 refine latO KA fun x1 => ?_
 go_wp2_with fail
 refine (KL x1).mono ?_
 rintro e w2 ⟨rfl, hb⟩
 go_wp2
 go_ret
 exact ⟨rfl, below_of_alloc HW0.out (x1.on hb)⟩
theorem impl_yule (c y : Int) (w : World) (hT : Tab w) (hc : c = 0 ∨ c = 1) (hy1 : -4 ≤ y) (hy2 : y ≤ 4000) : CR 231 #[.agg #[.int .i64 c, .int .i64 y]] w (.int .i64 (lineD c (y - 1) 12 25)) := by
 obtain ⟨W0, hW0⟩ : ∃ W0, W0 = w.alloc (.cells #[.int .i64 c, .int .i64 y] 243) := ⟨_, rfl⟩
 have HW0 := hideP hW0
 have KT : ∀ x : Later W0, Tab x.w := fun x => hT.later (below_of_alloc hW0 x.below)
 clear hW0 hT
 have KA : CR 259 #[.agg #[.int .i64 c, .int .i64 y]] W0 (.agg #[.int .i64 c, .int .i64 (y - 1)]) := implAhead c y W0 hy1 hy2
 have KL : ∀ x : Later W0, CR 258 #[.agg #[.int .i64 c, .int .i64 (y - 1)], .int .i64 12, .int .i64 25] x.w (.int .i64 (lineD c (y - 1) 12 25)) := fun x => implDayOn c (y - 1) 12 25 x.w (KT x) hc (by omega) (by omega) (by omega) (by omega) (by omega) (by omega)
 clear hc KT
 generalize lineD c (y - 1) 12 25 = R at *
 go_enter Tryz.func231, Tryz.ntmps231
 go_wp2_with fail
 rw [← HW0.out]
 refine latO KA fun x1 => ?_
 go_wp2_with fail
 refine (KL x1).mono ?_
 rintro e w2 ⟨rfl, hb⟩
 go_wp2
 go_ret
 exact ⟨rfl, below_of_alloc HW0.out (x1.on hb)⟩
theorem impl_easter (c y : Int) (w : World) (hT : Tab w) (hc : c = 0 ∨ c = 1) (hy1 : 1 ≤ y) (hy2 : y ≤ 4000) : CR 229 #[.agg #[.int .i64 c, .int .i64 y]] w (.int .i64 (easL c y)) := by
 obtain ⟨W0, hW0⟩ : ∃ W0, W0 = w.alloc (.cells #[.int .i64 c, .int .i64 y] 243) := ⟨_, rfl⟩
 have HW0 := hideP hW0
 have KT : ∀ x : Later W0, Tab x.w := fun x => hT.later (below_of_alloc hW0 x.below)
 clear hW0 hT
 have KL : CR 260 #[.int .i64 c, .int .i64 y] W0 (.int .i64 (easL c y)) := implLineEaster c y W0 (KT ⟨W0, Below.refl _ _⟩) hc hy1 hy2
 clear hc KT
 generalize easL c y = R at *
 go_enter Tryz.func229, Tryz.ntmps229
 go_wp2_with fail
 rw [← HW0.out]
 refine KL.mono ?_
 rintro e w1 ⟨rfl, hb⟩
 go_wp2
 go_ret
 exact ⟨rfl, below_of_alloc HW0.out hb⟩
end Go.Proofs.YtdmlhiailjnhcaaGreatDoor.ctr
namespace Go.Proofs.YtdmlhiailjnhcaaGreatDoor.ctr
open Go.RowKit
theorem beg_one : (#[.func (.func 225) #[] #[], .func (.func 226) #[] #[], .func (.func 227) #[] #[], .func (.func 228) #[] #[], .func (.func 229) #[] #[], .func (.func 230) #[] #[], .func (.func 231) #[] #[]] : Array Value).all (·.oneCell') = true := by first | rfl | kernel_rfl | decide | simp [Value.oneCell']
theorem beg_size : (Tryz.prog.info? 244).map (·.size) = some (#[.func (.func 225) #[] #[], .func (.func 226) #[] #[], .func (.func 227) #[] #[], .func (.func 228) #[] #[], .func (.func 229) #[] #[], .func (.func 230) #[] #[], .func (.func 231) #[] #[]] : Array Value).size := by kernel_rfl
set_option maxHeartbeats 1000000 in
theorem implBeginning (c s y : Int) (w : World) (hT : Tab w) (hc : c = 0 ∨ c = 1) (hs : styleP s) (hy1 : 1 ≤ y) (hy2 : y ≤ 3900) : CR 182 #[.int .i64 c, .int .i64 s, .int .i64 y] w (.int .i64 (start c s y)) := by
 obtain ⟨W1, hW1⟩ : ∃ W1, W1 = (w.alloc (.cells #[.nilFunc, .nilFunc, .nilFunc, .nilFunc, .nilFunc, .nilFunc, .nilFunc] 244)).setRow w.heap.size #[.func (.func 225) #[] #[], .func (.func 226) #[] #[], .func (.func 227) #[] #[], .func (.func 228) #[] #[], .func (.func 229) #[] #[], .func (.func 230) #[] #[], .func (.func 231) #[] #[]] := ⟨_, rfl⟩
 have HB : Hid (Blk W1 w.heap.size #[.func (.func 225) #[] #[], .func (.func 226) #[] #[], .func (.func 227) #[] #[], .func (.func 228) #[] #[], .func (.func 229) #[] #[], .func (.func 230) #[] #[], .func (.func 231) #[] #[]] 244) := by unfold Hid; rw [hW1]; exact (Blk.new w _ _).setRow _
 have HL : Hid (Below w.heap.size w W1) := by unfold Hid; rw [hW1]; exact below_setRow ((Below.refl _ _).alloc (Nat.le_refl _) _) _ (Nat.le_refl _)
 have HW1 := hideP hW1
 have KT : Tab W1 := hT.later HL.out
 clear hT hW1
 rcases style_cases hs with rfl | rfl | rfl | rfl | rfl | rfl | rfl
 focus
   have ck : W1.cell? ⟨w.heap.size, 0, none⟩ = some (.func (.func 225) #[] #[]) := HB.out.cell 0 rfl
   have KL : CR 225 #[.agg #[.int .i64 c, .int .i64 y]] W1 (.int .i64 (start c 0 y)) := by rw [start_0]; exact impl_january c y W1 KT hc (by omega) (by omega)
   clear KT hc hs
   generalize start c 0 y = R at *
 rotate_left
 focus
   have ck : W1.cell? ⟨w.heap.size, 1, none⟩ = some (.func (.func 226) #[] #[]) := HB.out.cell 1 rfl
   have KL : CR 226 #[.agg #[.int .i64 c, .int .i64 y]] W1 (.int .i64 (start c 1 y)) := by rw [start_1]; exact impl_march c y W1 KT hc (by omega) (by omega)
   clear KT hc hs
   generalize start c 1 y = R at *
 rotate_left
 focus
   have ck : W1.cell? ⟨w.heap.size, 2, none⟩ = some (.func (.func 227) #[] #[]) := HB.out.cell 2 rfl
   have KL : CR 227 #[.agg #[.int .i64 c, .int .i64 y]] W1 (.int .i64 (start c 2 y)) := by rw [start_2]; exact impl_lady c y W1 KT hc (by omega) (by omega)
   clear KT hc hs
   generalize start c 2 y = R at *
 rotate_left
 focus
   have ck : W1.cell? ⟨w.heap.size, 3, none⟩ = some (.func (.func 228) #[] #[]) := HB.out.cell 3 rfl
   have KL : CR 228 #[.agg #[.int .i64 c, .int .i64 y]] W1 (.int .i64 (start c 3 y)) := by rw [start_3]; exact impl_pisa c y W1 KT hc (by omega) (by omega)
   clear KT hc hs
   generalize start c 3 y = R at *
 rotate_left
 focus
   have ck : W1.cell? ⟨w.heap.size, 4, none⟩ = some (.func (.func 229) #[] #[]) := HB.out.cell 4 rfl
   have KL : CR 229 #[.agg #[.int .i64 c, .int .i64 y]] W1 (.int .i64 (start c 4 y)) := by rw [start_4]; exact impl_easter c y W1 KT hc (by omega) (by omega)
   clear KT hc hs
   generalize start c 4 y = R at *
 rotate_left
 focus
   have ck : W1.cell? ⟨w.heap.size, 5, none⟩ = some (.func (.func 230) #[] #[]) := HB.out.cell 5 rfl
   have KL : CR 230 #[.agg #[.int .i64 c, .int .i64 y]] W1 (.int .i64 (start c 5 y)) := by rw [start_5]; exact impl_september c y W1 KT hc (by omega) (by omega)
   clear KT hc hs
   generalize start c 5 y = R at *
 rotate_left
 focus
   have ck : W1.cell? ⟨w.heap.size, 6, none⟩ = some (.func (.func 231) #[] #[]) := HB.out.cell 6 rfl
   have KL : CR 231 #[.agg #[.int .i64 c, .int .i64 y]] W1 (.int .i64 (start c 6 y)) := by rw [start_6]; exact impl_yule c y W1 KT hc (by omega) (by omega)
   clear KT hc hs
   generalize start c 6 y = R at *
 rotate_left
 all_goals
  go_enter Tryz.func182, Tryz.ntmps182
  go_wp2_with (refine wpList_store_row _ rfl 244 _ _ rfl w.heap.size #[.nilFunc, .nilFunc, .nilFunc, .nilFunc, .nilFunc, .nilFunc, .nilFunc] #[.func (.func 225) #[] #[], .func (.func 226) #[] #[], .func (.func 227) #[] #[], .func (.func 228) #[] #[], .func (.func 229) #[] #[], .func (.func 230) #[] #[], .func (.func 231) #[] #[]] rfl rfl (Blk.new w _ _) beg_size rfl beg_one ?_; rw [← HW1.out])
  refine KL.mono ?_
  rintro e w1 ⟨rfl, hb⟩
  go_wp2
  go_ret
  exact ⟨rfl, HL.out.trans (hb.mono HL.out.size)⟩
end Go.Proofs.YtdmlhiailjnhcaaGreatDoor.ctr
namespace Go.Proofs.YtdmlhiailjnhcaaGreatDoor.ctr
open Go.RowKit
theorem first_le' {c y z : Int} (hc : c = 0 ∨ c = 1) (h : y ≤ z) : first c y ≤ first c z := by
 by_cases e : y = z
 · subst e; omega
 · have := first_lt hc (show y < z by omega); omega
def solP (c s y m d z : Int) : Prop := yearP c y ∧ styleP s ∧ dateP c z m d ∧ start c s y ≤ lineD c z m d ∧ lineD c z m d < start c s (y + 1)
instance (c s y m d z : Int) : Decidable (solP c s y m d z) := by unfold solP; infer_instance
end Go.Proofs.YtdmlhiailjnhcaaGreatDoor.ctr
namespace Go.Proofs.YtdmlhiailjnhcaaGreatDoor.ctr
open Go.RowKit
set_option maxHeartbeats 2000000 in
theorem implStyleYear (c s n : Int) (w : World) (hT : Tab w) : CR 143 #[.int .i64 c, .int .i64 s, .int .i64 n] w (styR c s n) := by
 have KD := implDateOf c n w hT
 rcases date_cases c n with hD | ⟨Y, m, d, hD, hc, hY1, hY2, hn1, hn2⟩
 · rw [dateR_no hD] at KD
   have HR : Hid (styR c s n = .tuple #[.int .i64 0, .bool false]) := styR_no (sty_none hD)
   rw [HR.out]
   clear hD HR hT
   unfold z4 at KD
   go_enter Tryz.func143, Tryz.ntmps143
   go_wp2_with fail
   refine KD.mono ?_
   rintro e w1 ⟨rfl, hb⟩
   go_wp2
   go_returns
   exact ⟨rfl, hb.alloc hb.size _⟩
 · rw [dateR_yes hD] at KD
   have KS : ∀ W, CR 181 #[.int .i64 s] W (.bool (styleB s)) := fun W => calls_below (implStyleOk s W)
   by_cases hs : styleP s
   · simp only [styleB_true hs] at KS
     have KB : Hid (∀ (y : Int), 0 ≤ y → y ≤ 3001 → ∀ x : Later w, CR 182 #[.int .i64 c, .int .i64 s, .int .i64 (y + 1)] x.w (.int .i64 (start c s (y + 1)))) := fun y h1 h2 x => implBeginning c s (y + 1) x.w (hT.later x.below) hc hs (by omega) (by omega)
     have HRaw : Hid (∀ y, (y = Y - 1 ∨ y = Y ∨ y = Y + 1) → (Y ≤ y → start c s Y ≤ n) → (Y + 1 ≤ y → start c s (Y + 1) ≤ n) → (y ≤ Y → n < start c s (y + 1)) → rawYear c s Y n = y) := fun y h h1 h2 he => raw_of h h1 h2 he
     have HO : Hid (1 ≤ rawYear c s Y n → rawYear c s Y n ≤ 3000 → styR c s n = .tuple #[.int .i64 (rawYear c s Y n), .bool true]) := fun h1 h2 => styR_yes (sty_yes hD hs h1 h2)
     have HN : Hid (¬ (1 ≤ rawYear c s Y n ∧ rawYear c s Y n ≤ 3000) → styR c s n = .tuple #[.int .i64 0, .bool false]) := fun h => styR_no (sty_out hD h)
     generalize styR c s n = R at *
     clear hD hn1 hn2 hc hs hT
     go_enter Tryz.func143, Tryz.ntmps143
     go_wp2_with fail
     refine KD.mono ?_
     rintro e w1 ⟨rfl, hb1⟩
     have HB1 := hideP hb1
     obtain ⟨W0, hW0⟩ : ∃ W0, W0 = w1.alloc (.cells #[.int .i64 c, .int .i64 Y, .int .i64 m, .int .i64 d] 99) := ⟨_, rfl⟩
     have HW0 := hideP hW0
     have c1 : ∀ x : Later W0, x.w.cell? ⟨w1.heap.size, 1, none⟩ = some (.int .i64 Y) := Later.new hW0 1 rfl
     have HL : Hid (∀ x : Later W0, Below w.heap.size w x.w) := fun x => HB1.out.trans ((below_of_alloc HW0.out x.below).mono HB1.out.size)
     clear hb1 hW0 KD
     go_wp2_with fail
     rw [← HW0.out]
     refine latO (KS _) fun x1 => ?_
     go_wp2_with fail
     go_loopw [10] (fun i wr => ∃ (y : Int) (x : Later W0), i = .int .i64 y ∧ wr = x.w ∧ Y - 1 ≤ y ∧ y ≤ Y + 1 ∧ Hid (Y ≤ y → start c s Y ≤ n) ∧ Hid (Y + 1 ≤ y → start c s (Y + 1) ≤ n)) (fun i _ => (4000 - intOf i).toNat)
     case atStart => exact ⟨Y - 1, x1, rfl, rfl, by omega, by omega, fun h => by omega, fun h => by omega⟩
     case round =>
      obtain ⟨y, x, rfl, rfl, y1, y2, H1, H2⟩ := hrel
      have K := KB.out y (by omega) (by omega) ⟨x.w, HL.out x⟩
      by_cases hyY : y ≤ Y
      · by_cases hle : start c s (y + 1) ≤ n
        · have H1' : Hid (Y ≤ y + 1 → start c s Y ≤ n) := fun h => by
           by_cases e : Y ≤ y
           · exact H1.out e
           · rw [show Y = y + 1 by omega]; exact hle
          have H2' : Hid (Y + 1 ≤ y + 1 → start c s (Y + 1) ≤ n) := fun h => by
           rw [show Y = y by omega]; exact hle
          clear H1 H2
          generalize start c s (y + 1) = S at *
          have hd1 : decide (y ≤ Y) = true := decide_eq_true hyY
          have hd2 : decide (S ≤ n) = true := decide_eq_true hle
          go_wp2_with fail
          refine lat K fun x3 => ?_
          go_wp2
          exact ⟨⟨y + 1, x3, rfl, rfl, by omega, by omega, H1', H2'⟩, by simp [intOf]; omega⟩
        · have hraw : rawYear c s Y n = y := HRaw.out y (by omega) H1.out H2.out (fun _ => by omega)
          rw [hraw] at HO HN
          clear H1 H2 HRaw hraw KB
          generalize start c s (y + 1) = S at *
          have hd1 : decide (y ≤ Y) = true := decide_eq_true hyY
          have hd2 : decide (S ≤ n) = false := decide_eq_false hle
          by_cases hlo : y < 1
          · go_wp2_with fail
            refine lat K fun x3 => ?_
            go_wp2
            go_returns
            rw [HN.out (by omega)]
            exact ⟨rfl, HL.out x3⟩
          · have hlo' : decide (y < 1) = false := decide_eq_false hlo
            have hhi' : decide (3000 < y) = false := decide_eq_false (by omega)
            go_wp2_with fail
            refine lat K fun x3 => ?_
            go_wp2
            go_returns
            rw [HO.out (by omega) (by omega)]
            exact ⟨rfl, HL.out x3⟩
      · have hraw : rawYear c s Y n = y := HRaw.out y (by omega) H1.out H2.out (fun h => by omega)
        rw [hraw] at HO HN
        clear H1 H2 HRaw hraw KB K
        have hd1 : decide (y ≤ Y) = false := decide_eq_false hyY
        by_cases hhi : 3000 < y
        · have hlo' : decide (y < 1) = false := decide_eq_false (by omega)
          have hhi' : decide (3000 < y) = true := decide_eq_true hhi
          go_wp2
          go_returns
          rw [HN.out (by omega)]
          exact ⟨rfl, HL.out x⟩
        · have hlo' : decide (y < 1) = false := decide_eq_false (by omega)
          have hhi' : decide (3000 < y) = false := decide_eq_false hhi
          go_wp2
          go_returns
          rw [HO.out (by omega) (by omega)]
          exact ⟨rfl, HL.out x⟩
   · simp only [styleB_false hs] at KS
     have HR : Hid (styR c s n = .tuple #[.int .i64 0, .bool false]) := styR_no (sty_style hs)
     rw [HR.out]
     clear hD HR hs hn1 hn2 hc hT
     go_enter Tryz.func143, Tryz.ntmps143
     go_wp2_with fail
     refine KD.mono ?_
     rintro e w1 ⟨rfl, hb1⟩
     have HB1 := hideP hb1
     clear hb1
     go_wp2_with fail
     refine (KS _).mono ?_
     rintro e w2 ⟨rfl, hb⟩
     have HB2 := hideP (below_alloc hb)
     clear hb
     go_wp2
     go_returns
     exact ⟨rfl, HB1.out.trans (HB2.out.mono HB1.out.size)⟩
end Go.Proofs.YtdmlhiailjnhcaaGreatDoor.ctr
namespace Go.Proofs.YtdmlhiailjnhcaaGreatDoor.ctr
open Go.RowKit
theorem date_parts {c n Y m d : Int} (h : dateOf c n = (c, Y, m, d, true)) : (c = 0 ∨ c = 1) ∧ 1 ≤ Y ∧ Y ≤ 3000 ∧ 1 ≤ m ∧ m ≤ 12 ∧ 1 ≤ d ∧ d ≤ monthDays c Y m ∧ d ≤ 31 ∧ first c Y ≤ n ∧ n < first c (Y + 1) ∧ lineD c Y m d = n := by
 obtain ⟨_, hd, hn⟩ := date_back h
 have hl := line_in hd.1 (dateP_month hd).1 (dateP_month hd).2 hd.2.2.2.1 hd.2.2.2.2
 rw [lineD_dayOf hd] at hn
 rw [hn] at hl
 exact ⟨hd.1, hd.2.1, hd.2.2.1, (dateP_month hd).1, (dateP_month hd).2, hd.2.2.2.1, hd.2.2.2.2, (dateP_day hd).2, hl.1, hl.2, hn⟩
theorem date_between {c a n b Y0 m0 d0 Y1 m1 d1 : Int} (ha : dateOf c a = (c, Y0, m0, d0, true)) (hb : dateOf c b = (c, Y1, m1, d1, true)) (h1 : a ≤ n) (h2 : n ≤ b) : ∃ Y m d, dateOf c n = (c, Y, m, d, true) := by
 obtain ⟨hc, y1, _, _, _, _, _, _, f1, _, _⟩ := date_parts ha
 obtain ⟨_, _, y2, _, _, _, _, _, _, f2, _⟩ := date_parts hb
 have g1 := first_le' hc y1
 have g2 := first_le' hc (show Y1 + 1 ≤ 3001 by omega)
 obtain ⟨n1, n2, z1, z2⟩ := year_in hc (show first c 1 ≤ n by omega) (show n < first c 3001 by omega)
 exact ⟨_, _, _, dateOf_yes hc n1 n2 rfl rfl z1 z2⟩
def datedP (c n : Int) : Prop := (dateOf c n).2.2.2.2 = true
def reignP (c s f t n : Int) : Prop := f ≤ n ∧ n ≤ t ∧ styleP s ∧ datedP c f ∧ datedP c n
noncomputable instance (c s f t n : Int) : Decidable (reignP c s f t n) := Classical.propDecidable _
end Go.Proofs.YtdmlhiailjnhcaaGreatDoor.ctr
