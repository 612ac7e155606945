/- Segments and patches: a struct of five ints, one of three; contracts of the laws' own helpers over them: how long all is, copies, two lists alike are told alike. Contracts of FloorDiv and FloorMod, the model's and the program's: each answers the plain functions floorDiv and floorMod at every two ints; what is divided is put together again. Plain laws of the two calendars, of no program: leap years, a month's days, a year's first day, the year and the month that hold a day. Contracts of the model's l02Cal, Leap and of the program's calendarOf, Leap: each answers its plain function at every argument. -/
import Derived.Test.YtilpencbbdpgfaaGreatDoorJnQaa
import Derived.Test.YtilpencbbdpgfaaGreatDoorSrtPlainQ
import Derived.Laws.MakeOwn
import Derived.Deep.RegionWith
import Derived.Handy
namespace Go.Proofs.YtilpencbbdpgfaaGreatDoor.ctr
open Go.RowKit
structure Pat where
  day : Int
  mon : Int
  dom : Int
  deriving DecidableEq
def pt0 : Pat := ⟨0, 0, 0⟩
def segK : IK Seg := ⟨5, fun s => [s.fr, s.to, s.cal, s.sty, s.off], fun zs => ⟨zs.getD 0 0, zs.getD 1 0, zs.getD 2 0, zs.getD 3 0, zs.getD 4 0⟩, s0, fun _ => rfl, fun zs h => by
  match zs, h with
  | [_, _, _, _, _], _ => rfl⟩
def patK : IK Pat := ⟨3, fun s => [s.day, s.mon, s.dom], fun zs => ⟨zs.getD 0 0, zs.getD 1 0, zs.getD 2 0⟩, pt0, fun _ => rfl, fun zs h => by
  match zs, h with
  | [_, _, _], _ => rfl⟩
theorem addI_off (x : Addr) (n j : Nat) (h : 0 < j) : x.add (n + j) = ⟨(x.add n).block, (x.add n).off + j, none⟩ := by
  unfold Addr.add
  rw [if_neg (by omega)]
  split
  · rename_i e
    subst e
    simp
  · simp only [Nat.add_assoc]
theorem same_bel {W w' : World} (h : w' = W) : Below W.heap.size W w' := by rw [h]; exact Below.refl _ _
theorem IAt.seg {w : World} {g k : Nat} {r : Seg} (h : IAt segK w g k r) : w.cell? ⟨g, k * 5, none⟩ = some (.int .i64 r.fr) ∧ w.cell? ⟨g, k * 5 + 1, none⟩ = some (.int .i64 r.to) ∧ w.cell? ⟨g, k * 5 + 2, none⟩ = some (.int .i64 r.cal) ∧ w.cell? ⟨g, k * 5 + 3, none⟩ = some (.int .i64 r.sty) ∧ w.cell? ⟨g, k * 5 + 4, none⟩ = some (.int .i64 r.off) :=
  ⟨h 0 _ rfl, h 1 _ rfl, h 2 _ rfl, h 3 _ rfl, h 4 _ rfl⟩
theorem IIn.atSegment {w : World} {a : Option Addr} {len cap : Nat} {l : List Seg} (h : IIn segK w a len cap l) {k : Nat} (hk : k < len) : ∃ x, a = some x ∧ ∀ y : Later w, y.w.cell? (x.add (k * 5)) = some (.int .i64 (atK segK l k).fr) ∧ y.w.cell? ⟨(x.add (k * 5)).block, (x.add (k * 5)).off + 1, none⟩ = some (.int .i64 (atK segK l k).to) ∧ y.w.cell? ⟨(x.add (k * 5)).block, (x.add (k * 5)).off + 2, none⟩ = some (.int .i64 (atK segK l k).cal) ∧ y.w.cell? ⟨(x.add (k * 5)).block, (x.add (k * 5)).off + 3, none⟩ = some (.int .i64 (atK segK l k).sty) ∧ y.w.cell? ⟨(x.add (k * 5)).block, (x.add (k * 5)).off + 4, none⟩ = some (.int .i64 (atK segK l k).off) := by
  obtain ⟨_, _, _, ⟨_, h0⟩ | ⟨x, hx, h⟩⟩ := h
  · omega
  · have h0 : w.cell? (x.add (k * 5 + 0)) = _ := h k hk 0 _ rfl
    have h1 : w.cell? (x.add (k * 5 + 1)) = _ := h k hk 1 _ rfl
    have h2 : w.cell? (x.add (k * 5 + 2)) = _ := h k hk 2 _ rfl
    have h3 : w.cell? (x.add (k * 5 + 3)) = _ := h k hk 3 _ rfl
    have h4 : w.cell? (x.add (k * 5 + 4)) = _ := h k hk 4 _ rfl
    rw [addI_off x _ _ (by omega)] at h1
    rw [addI_off x _ _ (by omega)] at h2
    rw [addI_off x _ _ (by omega)] at h3
    rw [addI_off x _ _ (by omega)] at h4
    exact ⟨x, hx, fun y => ⟨Later.at h0 y, Later.at h1 y, Later.at h2 y, Later.at h3 y, Later.at h4 y⟩⟩
theorem toSegment (a0 a1 a2 a3 a4 : Int) (w : World) : Calls Tryz.prog 109 #[.agg #[.int .i64 a0, .int .i64 a1, .int .i64 a2, .int .i64 a3, .int .i64 a4]] w fun e w' => e = .returned (.agg #[.int .i64 a0, .int .i64 a1, .int .i64 a2, .int .i64 a3, .int .i64 a4]) ∧ Below w.heap.size w w' := by
  go_enter Tryz.func109, Tryz.ntmps109
  go_wp2
  go_returns
  refine ⟨rfl, ?_⟩
  go_grown
theorem eqSegment1 (a0 a1 a2 a3 a4 : Int) (w : World) : Calls Tryz.prog 116 #[.agg #[.int .i64 a0, .int .i64 a1, .int .i64 a2, .int .i64 a3, .int .i64 a4], .agg #[.int .i64 a0, .int .i64 a1, .int .i64 a2, .int .i64 a3, .int .i64 a4]] w fun e w' => e = .returned (.bool true) ∧ Below w.heap.size w w' := by
  go_enter Tryz.func116, Tryz.ntmps116
  go_wp2
  go_ret
  exact ⟨rfl, ((Below.refl _ _).alloc (Nat.le_refl _) _).alloc (by rw [World.size_alloc]; omega) _⟩
theorem szSegmentS (a : Option Addr) (len cap : Nat) (left : Int) (w : World) (h0 : len ≤ cap) (h : cap ≤ maxLen) (h1 : 0 ≤ left) (h2 : left ≤ 1048576) : Calls Tryz.prog 53 #[.slice a len cap, .int .i64 left] w fun e w' => e = .returned (.int .i64 (if left < len then -1 else left - len)) ∧ w' = w := by
  unfold maxLen at h
  by_cases hl : left < len
  · rw [if_pos hl]
    go_enter Tryz.func53, Tryz.ntmps53
    go_wp2
    go_ret
    exact ⟨rfl, rfl⟩
  · rw [if_neg hl]
    go_enter Tryz.func53, Tryz.ntmps53
    go_wp2
    go_ret
    exact ⟨rfl, rfl⟩
theorem info_seg : (Tryz.prog.info? 95).map (fun i => (i.zero, i.size, i.bytes)) = some (some (.agg #[.int .i64 0, .int .i64 0, .int .i64 0, .int .i64 0, .int .i64 0]), 5, 40) := by kernel_rfl
def segzero : Array Value := #[.int .i64 0, .int .i64 0, .int .i64 0, .int .i64 0, .int .i64 0]
theorem make_seg (n : Nat) (hn : n ≤ 1048576) (W : World) : (Instr.makeSlice 32 (.int .i64 (n : Int)) (.int .i64 (n : Int))).run Tryz.prog W = .ok (.slice (some ⟨W.heap.size, 0, none⟩) n n) (W.alloc (.cells (madeCells segzero (n * 5)) 95)) := by
  obtain ⟨i0, hi, e⟩ := Option.map_eq_some_iff.1 info_seg
  simp only [Prod.mk.injEq] at e
  obtain ⟨hz, hs, hb⟩ := e
  have h := run_make (P := Tryz.prog) W 32 95 i0 _ Tryz.underlying32 hi hz .i64 .i64 (n : Int) (n : Int) (by omega) (by omega) (by rw [hb]; omega) (by omega)
  rw [hs] at h
  simp only [Int.toNat_natCast] at h
  exact h
set_option maxHeartbeats 1000000 in
theorem toSegmentS (a : Option Addr) (len cap : Nat) (l : List Seg) (w : World) (h : IIn segK w a len cap l) (hs : l.length ≤ 1048576) : Calls Tryz.prog 58 #[.slice a len cap] w fun e w' => ∃ v, e = .returned v ∧ INew segK w w' v l ∧ Below w.heap.size w w' := by
  have hlen := h.1
  have hl : len ≤ 1048576 := by rw [← hlen]; exact hs
  have H := hideP h
  have HL := hideP hlen
  have hmk := make_seg len hl
  have hpart : Hid (iPart segK l 0 (madeCells segzero (len * 5))) := ⟨by rw [size_madeCells, hlen]; rfl, fun j hj => by simp at hj⟩
  clear h hs hlen
  go_enter Tryz.func58, Tryz.ntmps58
  go_wp2
  go_loopw [4] (fun i wr => ∃ (k : Nat) (cs : Array Value), k ≤ len ∧ i = .int .i64 (k : Int) ∧ iPart segK l k cs ∧ Blk wr w.heap.size cs 95 ∧ Below w.heap.size w wr) (fun i _ => len - (intOf i).toNat)
  case atStart => exact ⟨0, _, Nat.zero_le _, rfl, hpart.out, Blk.new w _ _, (Below.refl _ _).alloc (Nat.le_refl _) _⟩
  case round =>
    obtain ⟨k, cs, hk, rfl, hp, hb, hB⟩ := hrel
    have HB := hideP hB
    have HP := hideP hp
    have HK := hideP hb
    clear hB hp hb
    by_cases hlt : k < len
    · obtain ⟨x, rfl, hx⟩ := H.out.atSegment hlt
      obtain ⟨c0, c1, c2, c3, c4⟩ := hx ⟨wr, HB.out⟩
      dsimp only at c0 c1 c2 c3 c4
      have HN := hideP (iPart_next HP.out (by rw [HL.out]; exact hlt))
      have hm : Hid (∀ r : Seg, setI cs (k * 5) 0 (segK.iv r) = (((((cs.setIfInBounds (k * 5 + 0) (.int .i64 r.fr)).setIfInBounds (k * 5 + 1) (.int .i64 r.to)).setIfInBounds (k * 5 + 2) (.int .i64 r.cal)).setIfInBounds (k * 5 + 3) (.int .i64 r.sty)).setIfInBounds (k * 5 + 4) (.int .i64 r.off))) := fun r => rfl
      clear hx
      generalize atK segK l k = r at *
      go_wp2_with fail
      refine (toSegment _ _ _ _ _ _).mono ?_
      rintro e w1 ⟨rfl, hb⟩
      have HB1 : Hid (Below w.heap.size w w1) := HB.out.trans (hb.mono HB.out.size)
      have HK1 := HK.out.below hb HK.out.lt
      clear hb c0 c1 c2 c3 c4 hmk
      have hsz : cs.size = len * 5 := by rw [HP.out.1, HL.out]; rfl
      have d0 := HK1.cell (k * 5) (v := cs[k * 5]'(by omega)) (by simp)
      have d1 := HK1.cell (k * 5 + 1) (v := cs[k * 5 + 1]'(by omega)) (by simp)
      have d2 := HK1.cell (k * 5 + 2) (v := cs[k * 5 + 2]'(by omega)) (by simp)
      have d3 := HK1.cell (k * 5 + 3) (v := cs[k * 5 + 3]'(by omega)) (by simp)
      have d4 := HK1.cell (k * 5 + 4) (v := cs[k * 5 + 4]'(by omega)) (by simp)
      have t0 := HK1.thaw (k * 5)
      have t1 := HK1.thaw (k * 5 + 1)
      have t2 := HK1.thaw (k * 5 + 2)
      have t3 := HK1.thaw (k * 5 + 3)
      have t4 := HK1.thaw (k * 5 + 4)
      have HS := hideP HK1
      generalize cs[k * 5]'(by omega) = v0 at d0
      generalize cs[k * 5 + 1]'(by omega) = v1 at d1
      generalize cs[k * 5 + 2]'(by omega) = v2 at d2
      generalize cs[k * 5 + 3]'(by omega) = v3 at d3
      generalize cs[k * 5 + 4]'(by omega) = v4 at d4
      clear HK1 hsz
      go_wp2
      refine ⟨⟨k + 1, _, by omega, by go_num, HN.out, ?_, (below_store (below_store (below_store (below_store (below_store HB1.out _ (Nat.le_refl _)) _ (Nat.le_refl _)) _ (Nat.le_refl _)) _ (Nat.le_refl _)) _ (Nat.le_refl _))⟩, by simp [intOf]; omega⟩
      rw [show setI cs (k * segK.m) 0 (segK.iv r) = _ from hm.out r]
      exact (((((HS.out.set _ _).set _ _).set _ _).set _ _).set _ _)
    · have hkn : k = l.length := by rw [HL.out]; omega
      have HP' := HP.out
      rw [hkn] at HP'
      have HC := hideP (iPart_all HP')
      clear HP' hkn
      go_wp2
      go_ret
      exact ⟨.slice (some ⟨w.heap.size, 0, none⟩) len len, rfl, ⟨w.heap.size, 95, by rw [HL.out], Nat.le_refl _, by rw [← HC.out]; exact HK.out⟩, HB.out⟩
set_option maxHeartbeats 1000000 in
theorem eqSegmentS (v1 v2 : Value) (l : List Seg) (w : World) (h1 : IRow segK w v1 l) (h2 : IRow segK w v2 l) : Calls Tryz.prog 63 #[v1, v2] w fun e w' => e = .returned (.bool true) ∧ Below w.heap.size w w' := by
  obtain ⟨a1, c1, rfl, l1, m1, H1⟩ := h1
  obtain ⟨a2, c2, rfl, _, _, H2⟩ := h2
  have K1 := hideP H1
  have K2 := hideP H2
  unfold maxLen at m1
  clear H1 H2
  go_enter Tryz.func63, Tryz.ntmps63
  go_wp2
  go_loopw [5] (fun i wr => ∃ k : Nat, k ≤ l.length ∧ i = .int .i64 (k : Int) ∧ Below w.heap.size w wr) (fun i _ => l.length - (intOf i).toNat)
  case atStart => exact ⟨0, Nat.zero_le _, rfl, Below.refl _ _⟩
  case round =>
    obtain ⟨k, hk, rfl, hB⟩ := hrel
    have HB := hideP hB
    clear hB
    by_cases hlt : k < l.length
    · obtain ⟨g1, rfl, hg1, x1⟩ := K1.out k hlt
      obtain ⟨g2, rfl, hg2, x2⟩ := K2.out k hlt
      obtain ⟨a0, a1, a2, a3, a4⟩ := (x1.below HB.out hg1).seg
      obtain ⟨b0, b1, b2, b3, b4⟩ := (x2.below HB.out hg2).seg
      clear x1 x2
      generalize atK segK l k = r at *
      go_wp2
      go_region_with (go_at_call 116; refine (eqSegment1 _ _ _ _ _ _).mono ?_; rintro e w2 ⟨rfl, hb2⟩; have HB2 : Hid (Below w.heap.size w w2) := HB.out.trans ⟨hb2.os, hb2.tape, hb2.output, Nat.le_trans (Nat.le_refl _) hb2.size, fun j hj => hb2.block j (Nat.lt_of_lt_of_le hj HB.out.size)⟩; clear hb2)
      all_goals go_wp2
      all_goals exact ⟨⟨k + 1, by omega, by go_num, HB2.out⟩, by simp [intOf]; omega⟩
    · go_wp2
      go_ret
      exact ⟨rfl, HB.out⟩
theorem IAt.pat {w : World} {g k : Nat} {r : Pat} (h : IAt patK w g k r) : w.cell? ⟨g, k * 3, none⟩ = some (.int .i64 r.day) ∧ w.cell? ⟨g, k * 3 + 1, none⟩ = some (.int .i64 r.mon) ∧ w.cell? ⟨g, k * 3 + 2, none⟩ = some (.int .i64 r.dom) :=
  ⟨h 0 _ rfl, h 1 _ rfl, h 2 _ rfl⟩
theorem IIn.atPatch {w : World} {a : Option Addr} {len cap : Nat} {l : List Pat} (h : IIn patK w a len cap l) {k : Nat} (hk : k < len) : ∃ x, a = some x ∧ ∀ y : Later w, y.w.cell? (x.add (k * 3)) = some (.int .i64 (atK patK l k).day) ∧ y.w.cell? ⟨(x.add (k * 3)).block, (x.add (k * 3)).off + 1, none⟩ = some (.int .i64 (atK patK l k).mon) ∧ y.w.cell? ⟨(x.add (k * 3)).block, (x.add (k * 3)).off + 2, none⟩ = some (.int .i64 (atK patK l k).dom) := by
  obtain ⟨_, _, _, ⟨_, h0⟩ | ⟨x, hx, h⟩⟩ := h
  · omega
  · have h0 : w.cell? (x.add (k * 3 + 0)) = _ := h k hk 0 _ rfl
    have h1 : w.cell? (x.add (k * 3 + 1)) = _ := h k hk 1 _ rfl
    have h2 : w.cell? (x.add (k * 3 + 2)) = _ := h k hk 2 _ rfl
    rw [addI_off x _ _ (by omega)] at h1
    rw [addI_off x _ _ (by omega)] at h2
    exact ⟨x, hx, fun y => ⟨Later.at h0 y, Later.at h1 y, Later.at h2 y⟩⟩
theorem toPatch (a0 a1 a2 : Int) (w : World) : Calls Tryz.prog 110 #[.agg #[.int .i64 a0, .int .i64 a1, .int .i64 a2]] w fun e w' => e = .returned (.agg #[.int .i64 a0, .int .i64 a1, .int .i64 a2]) ∧ Below w.heap.size w w' := by
  go_enter Tryz.func110, Tryz.ntmps110
  go_wp2
  go_returns
  refine ⟨rfl, ?_⟩
  go_grown
theorem eqPatch1 (a0 a1 a2 : Int) (w : World) : Calls Tryz.prog 117 #[.agg #[.int .i64 a0, .int .i64 a1, .int .i64 a2], .agg #[.int .i64 a0, .int .i64 a1, .int .i64 a2]] w fun e w' => e = .returned (.bool true) ∧ Below w.heap.size w w' := by
  go_enter Tryz.func117, Tryz.ntmps117
  go_wp2
  go_ret
  exact ⟨rfl, ((Below.refl _ _).alloc (Nat.le_refl _) _).alloc (by rw [World.size_alloc]; omega) _⟩
theorem szPatchS (a : Option Addr) (len cap : Nat) (left : Int) (w : World) (h0 : len ≤ cap) (h : cap ≤ maxLen) (h1 : 0 ≤ left) (h2 : left ≤ 1048576) : Calls Tryz.prog 54 #[.slice a len cap, .int .i64 left] w fun e w' => e = .returned (.int .i64 (if left < len then -1 else left - len)) ∧ w' = w := by
  unfold maxLen at h
  by_cases hl : left < len
  · rw [if_pos hl]
    go_enter Tryz.func54, Tryz.ntmps54
    go_wp2
    go_ret
    exact ⟨rfl, rfl⟩
  · rw [if_neg hl]
    go_enter Tryz.func54, Tryz.ntmps54
    go_wp2
    go_ret
    exact ⟨rfl, rfl⟩
theorem info_pat : (Tryz.prog.info? 99).map (fun i => (i.zero, i.size, i.bytes)) = some (some (.agg #[.int .i64 0, .int .i64 0, .int .i64 0]), 3, 24) := by kernel_rfl
def patzero : Array Value := #[.int .i64 0, .int .i64 0, .int .i64 0]
theorem make_pat (n : Nat) (hn : n ≤ 1048576) (W : World) : (Instr.makeSlice 33 (.int .i64 (n : Int)) (.int .i64 (n : Int))).run Tryz.prog W = .ok (.slice (some ⟨W.heap.size, 0, none⟩) n n) (W.alloc (.cells (madeCells patzero (n * 3)) 99)) := by
  obtain ⟨i0, hi, e⟩ := Option.map_eq_some_iff.1 info_pat
  simp only [Prod.mk.injEq] at e
  obtain ⟨hz, hs, hb⟩ := e
  have h := run_make (P := Tryz.prog) W 33 99 i0 _ Tryz.underlying33 hi hz .i64 .i64 (n : Int) (n : Int) (by omega) (by omega) (by rw [hb]; omega) (by omega)
  rw [hs] at h
  simp only [Int.toNat_natCast] at h
  exact h
set_option maxHeartbeats 1000000 in
theorem toPatchS (a : Option Addr) (len cap : Nat) (l : List Pat) (w : World) (h : IIn patK w a len cap l) (hs : l.length ≤ 1048576) : Calls Tryz.prog 59 #[.slice a len cap] w fun e w' => ∃ v, e = .returned v ∧ INew patK w w' v l ∧ Below w.heap.size w w' := by
  have hlen := h.1
  have hl : len ≤ 1048576 := by rw [← hlen]; exact hs
  have H := hideP h
  have HL := hideP hlen
  have hmk := make_pat len hl
  have hpart : Hid (iPart patK l 0 (madeCells patzero (len * 3))) := ⟨by rw [size_madeCells, hlen]; rfl, fun j hj => by simp at hj⟩
  clear h hs hlen
  go_enter Tryz.func59, Tryz.ntmps59
  go_wp2
  go_loopw [4] (fun i wr => ∃ (k : Nat) (cs : Array Value), k ≤ len ∧ i = .int .i64 (k : Int) ∧ iPart patK l k cs ∧ Blk wr w.heap.size cs 99 ∧ Below w.heap.size w wr) (fun i _ => len - (intOf i).toNat)
  case atStart => exact ⟨0, _, Nat.zero_le _, rfl, hpart.out, Blk.new w _ _, (Below.refl _ _).alloc (Nat.le_refl _) _⟩
  case round =>
    obtain ⟨k, cs, hk, rfl, hp, hb, hB⟩ := hrel
    have HB := hideP hB
    have HP := hideP hp
    have HK := hideP hb
    clear hB hp hb
    by_cases hlt : k < len
    · obtain ⟨x, rfl, hx⟩ := H.out.atPatch hlt
      obtain ⟨c0, c1, c2⟩ := hx ⟨wr, HB.out⟩
      dsimp only at c0 c1 c2
      have HN := hideP (iPart_next HP.out (by rw [HL.out]; exact hlt))
      have hm : Hid (∀ r : Pat, setI cs (k * 3) 0 (patK.iv r) = (((cs.setIfInBounds (k * 3 + 0) (.int .i64 r.day)).setIfInBounds (k * 3 + 1) (.int .i64 r.mon)).setIfInBounds (k * 3 + 2) (.int .i64 r.dom))) := fun r => rfl
      clear hx
      generalize atK patK l k = r at *
      go_wp2_with fail
      refine (toPatch _ _ _ _).mono ?_
      rintro e w1 ⟨rfl, hb⟩
      have HB1 : Hid (Below w.heap.size w w1) := HB.out.trans (hb.mono HB.out.size)
      have HK1 := HK.out.below hb HK.out.lt
      clear hb c0 c1 c2 hmk
      have hsz : cs.size = len * 3 := by rw [HP.out.1, HL.out]; rfl
      have d0 := HK1.cell (k * 3) (v := cs[k * 3]'(by omega)) (by simp)
      have d1 := HK1.cell (k * 3 + 1) (v := cs[k * 3 + 1]'(by omega)) (by simp)
      have d2 := HK1.cell (k * 3 + 2) (v := cs[k * 3 + 2]'(by omega)) (by simp)
      have t0 := HK1.thaw (k * 3)
      have t1 := HK1.thaw (k * 3 + 1)
      have t2 := HK1.thaw (k * 3 + 2)
      have HS := hideP HK1
      generalize cs[k * 3]'(by omega) = v0 at d0
      generalize cs[k * 3 + 1]'(by omega) = v1 at d1
      generalize cs[k * 3 + 2]'(by omega) = v2 at d2
      clear HK1 hsz
      go_wp2
      refine ⟨⟨k + 1, _, by omega, by go_num, HN.out, ?_, (below_store (below_store (below_store HB1.out _ (Nat.le_refl _)) _ (Nat.le_refl _)) _ (Nat.le_refl _))⟩, by simp [intOf]; omega⟩
      rw [show setI cs (k * patK.m) 0 (patK.iv r) = _ from hm.out r]
      exact (((HS.out.set _ _).set _ _).set _ _)
    · have hkn : k = l.length := by rw [HL.out]; omega
      have HP' := HP.out
      rw [hkn] at HP'
      have HC := hideP (iPart_all HP')
      clear HP' hkn
      go_wp2
      go_ret
      exact ⟨.slice (some ⟨w.heap.size, 0, none⟩) len len, rfl, ⟨w.heap.size, 99, by rw [HL.out], Nat.le_refl _, by rw [← HC.out]; exact HK.out⟩, HB.out⟩
set_option maxHeartbeats 1000000 in
theorem eqPatchS (v1 v2 : Value) (l : List Pat) (w : World) (h1 : IRow patK w v1 l) (h2 : IRow patK w v2 l) : Calls Tryz.prog 64 #[v1, v2] w fun e w' => e = .returned (.bool true) ∧ Below w.heap.size w w' := by
  obtain ⟨a1, c1, rfl, l1, m1, H1⟩ := h1
  obtain ⟨a2, c2, rfl, _, _, H2⟩ := h2
  have K1 := hideP H1
  have K2 := hideP H2
  unfold maxLen at m1
  clear H1 H2
  go_enter Tryz.func64, Tryz.ntmps64
  go_wp2
  go_loopw [5] (fun i wr => ∃ k : Nat, k ≤ l.length ∧ i = .int .i64 (k : Int) ∧ Below w.heap.size w wr) (fun i _ => l.length - (intOf i).toNat)
  case atStart => exact ⟨0, Nat.zero_le _, rfl, Below.refl _ _⟩
  case round =>
    obtain ⟨k, hk, rfl, hB⟩ := hrel
    have HB := hideP hB
    clear hB
    by_cases hlt : k < l.length
    · obtain ⟨g1, rfl, hg1, x1⟩ := K1.out k hlt
      obtain ⟨g2, rfl, hg2, x2⟩ := K2.out k hlt
      obtain ⟨a0, a1, a2⟩ := (x1.below HB.out hg1).pat
      obtain ⟨b0, b1, b2⟩ := (x2.below HB.out hg2).pat
      clear x1 x2
      generalize atK patK l k = r at *
      go_wp2
      go_region_with (go_at_call 117; refine (eqPatch1 _ _ _ _).mono ?_; rintro e w2 ⟨rfl, hb2⟩; have HB2 : Hid (Below w.heap.size w w2) := HB.out.trans ⟨hb2.os, hb2.tape, hb2.output, Nat.le_trans (Nat.le_refl _) hb2.size, fun j hj => hb2.block j (Nat.lt_of_lt_of_le hj HB.out.size)⟩; clear hb2)
      all_goals go_wp2
      all_goals exact ⟨⟨k + 1, by omega, by go_num, HB2.out⟩, by simp [intOf]; omega⟩
    · go_wp2
      go_ret
      exact ⟨rfl, HB.out⟩
end Go.Proofs.YtilpencbbdpgfaaGreatDoor.ctr
namespace Go.Proofs.YtilpencbbdpgfaaGreatDoor.ctr
open Go.RowKit
def floorDiv (a b : Int) : Int := if b ≤ 0 then 0 else if a.tmod b < 0 then wrap64 (wrap64 (a.tdiv b) - 1) else wrap64 (a.tdiv b)
def floorMod (a b : Int) : Int := if b ≤ 0 then 0 else if a.tmod b < 0 then wrap64 (a.tmod b + b) else a.tmod b
theorem in_range (n : Int) (h : -9223372036854775808 ≤ n ∧ n ≤ 9223372036854775807) : wrap64 n = n := by unfold wrap64; omega
set_option maxHeartbeats 400000 in
theorem specFloorDiv (a b : Int) (w : World) :
    Calls Tryz.prog 232 #[.int .i64 a, .int .i64 b] w fun e w' => e = .returned (.int .i64 (floorDiv a b)) ∧ w' = w := by
  by_cases c1 : b ≤ 0
  · have HF : Hid (floorDiv a b = 0) := by unfold Hid floorDiv; rw [if_pos c1]
    go_enter Tryz.func232, Tryz.ntmps232
    go_wp2
    go_ret
    exact ⟨ret_int HF.out.symm, rfl⟩
  by_cases c2 : a.tmod b < 0
  · have HF : Hid (floorDiv a b = wrap64 (wrap64 (a.tdiv b) - 1)) := by unfold Hid floorDiv; rw [if_neg c1, if_pos c2]
    go_enter Tryz.func232, Tryz.ntmps232
    go_wp2
    go_ret
    exact ⟨ret_int HF.out.symm, rfl⟩
  · have HF : Hid (floorDiv a b = wrap64 (a.tdiv b)) := by unfold Hid floorDiv; rw [if_neg c1, if_neg c2]
    go_enter Tryz.func232, Tryz.ntmps232
    go_wp2
    go_ret
    exact ⟨ret_int HF.out.symm, rfl⟩
set_option maxHeartbeats 400000 in
theorem implFloorDiv (a b : Int) (w : World) :
    Calls Tryz.prog 235 #[.int .i64 a, .int .i64 b] w fun e w' => e = .returned (.int .i64 (floorDiv a b)) ∧ w' = w := by
  by_cases c1 : b ≤ 0
  · have HF : Hid (floorDiv a b = 0) := by unfold Hid floorDiv; rw [if_pos c1]
    go_enter Tryz.func235, Tryz.ntmps235
    go_wp2
    go_ret
    exact ⟨ret_int HF.out.symm, rfl⟩
  by_cases c2 : a.tmod b < 0
  · have HF : Hid (floorDiv a b = wrap64 (wrap64 (a.tdiv b) - 1)) := by unfold Hid floorDiv; rw [if_neg c1, if_pos c2]
    go_enter Tryz.func235, Tryz.ntmps235
    go_wp2
    go_ret
    exact ⟨ret_int HF.out.symm, rfl⟩
  · have HF : Hid (floorDiv a b = wrap64 (a.tdiv b)) := by unfold Hid floorDiv; rw [if_neg c1, if_neg c2]
    go_enter Tryz.func235, Tryz.ntmps235
    go_wp2
    go_ret
    exact ⟨ret_int HF.out.symm, rfl⟩
end Go.Proofs.YtilpencbbdpgfaaGreatDoor.ctr
namespace Go.Proofs.YtilpencbbdpgfaaGreatDoor.ctr
open Go.RowKit
def calB (c : Int) : Bool := decide (c = 0) || decide (c = 1)
theorem calB_iff {c : Int} : calB c = true ↔ c = 0 ∨ c = 1 := by simp [calB]
theorem calB_no {c : Int} (h : ¬ (c = 0 ∨ c = 1)) : calB c = false := by
  simp only [not_or] at h
  simp [calB, h.1, h.2]
def leapP (c y : Int) : Prop := (c = 0 ∧ y.tmod 4 = 0) ∨ (c = 1 ∧ ((y.tmod 4 = 0 ∧ ¬ y.tmod 100 = 0) ∨ y.tmod 400 = 0))
instance (c y : Int) : Decidable (leapP c y) := by unfold leapP; infer_instance
def leapB (c y : Int) : Bool := decide (leapP c y)
theorem tmod0 (y : Int) (k : Int) : y.tmod k = 0 ↔ y % k = 0 := by
  rw [← Int.dvd_iff_tmod_eq_zero, ← Int.dvd_iff_emod_eq_zero]
theorem tmod_four {y : Int} (h : y.tmod 400 = 0) : y.tmod 4 = 0 := by
  rw [tmod0] at *
  omega
theorem leap_jul {y : Int} : leapP 0 y ↔ y % 4 = 0 := by
  unfold leapP
  rw [tmod0]
  omega
theorem leap_gre {y : Int} : leapP 1 y ↔ (y % 4 = 0 ∧ ¬ y % 100 = 0) ∨ y % 400 = 0 := by
  unfold leapP
  rw [tmod0, tmod0, tmod0]
  omega
def tab12 : List Int := [31, 28, 31, 30, 31, 30, 31, 31, 30, 31, 30, 31]
def monthDays (c y m : Int) : Int :=
  if (c = 0 ∨ c = 1) ∧ 1 ≤ m ∧ m ≤ 12 then (if m = 2 ∧ leapP c y then 29 else tab12.getD (m - 1).toNat 0) else 0
theorem monthDays_no {c y m : Int} (h : ¬ ((c = 0 ∨ c = 1) ∧ 1 ≤ m ∧ m ≤ 12)) : monthDays c y m = 0 := by unfold monthDays; rw [if_neg h]
theorem month_cases {m : Int} (h1 : 1 ≤ m) (h2 : m ≤ 12) : m = 1 ∨ m = 2 ∨ m = 3 ∨ m = 4 ∨ m = 5 ∨ m = 6 ∨ m = 7 ∨ m = 8 ∨ m = 9 ∨ m = 10 ∨ m = 11 ∨ m = 12 := by omega
theorem monthDays_le (c y m : Int) : 0 ≤ monthDays c y m ∧ monthDays c y m ≤ 31 := by
  unfold monthDays
  split
  · rename_i h
    split
    · omega
    · rcases month_cases h.2.1 h.2.2 with rfl | rfl | rfl | rfl | rfl | rfl | rfl | rfl | rfl | rfl | rfl | rfl <;> decide
  · omega
theorem monthDays_ge {c y m : Int} (hc : c = 0 ∨ c = 1) (h1 : 1 ≤ m) (h2 : m ≤ 12) : 28 ≤ monthDays c y m := by
  unfold monthDays
  rw [if_pos ⟨hc, h1, h2⟩]
  split
  · omega
  · rcases month_cases h1 h2 with rfl | rfl | rfl | rfl | rfl | rfl | rfl | rfl | rfl | rfl | rfl | rfl <;> decide
theorem monthDays_plain {c y m : Int} (hc : c = 0 ∨ c = 1) (h1 : 1 ≤ m) (h2 : m ≤ 12) (hn : ¬ (m = 2 ∧ leapP c y)) : monthDays c y m = tab12.getD (m - 1).toNat 0 := by
  unfold monthDays
  rw [if_pos ⟨hc, h1, h2⟩, if_neg hn]
theorem monthDays_leap {c y : Int} (hc : c = 0 ∨ c = 1) (hl : leapP c y) : monthDays c y 2 = 29 := by
  unfold monthDays
  rw [if_pos ⟨hc, by omega, by omega⟩, if_pos ⟨rfl, hl⟩]
def dateP (c y m d : Int) : Prop := (c = 0 ∨ c = 1) ∧ 1 ≤ y ∧ y ≤ 3000 ∧ 1 ≤ d ∧ d ≤ monthDays c y m
instance (c y m d : Int) : Decidable (dateP c y m d) := by unfold dateP; infer_instance
def dateOk (c y m d : Int) : Bool := decide (dateP c y m d)
theorem dateP_month {c y m d : Int} (h : dateP c y m d) : 1 ≤ m ∧ m ≤ 12 := by
  obtain ⟨h1, h2, h3, h4, h5⟩ := h
  by_cases hm : 1 ≤ m ∧ m ≤ 12
  · exact hm
  · rw [monthDays_no (fun h => hm h.2)] at h5
    omega
theorem dateP_day {c y m d : Int} (h : dateP c y m d) : 1 ≤ d ∧ d ≤ 31 := by
  obtain ⟨h1, h2, h3, h4, h5⟩ := h
  have := monthDays_le c y m
  omega
def before (c y : Int) : Nat → Int
  | 0 => 0
  | k + 1 => before c y k + monthDays c y (k + 1 : Nat)
theorem before_bound (c y : Int) (k : Nat) : 0 ≤ before c y k ∧ before c y k ≤ 31 * k := by
  induction k with
  | zero => simp [before]
  | succ k ih =>
    have := monthDays_le c y (k + 1 : Nat)
    simp only [before]
    omega
theorem before_mono (c y : Int) (k j : Nat) : before c y k ≤ before c y (k + j) := by
  induction j with
  | zero => simp
  | succ j ih =>
    have := monthDays_le c y (k + j + 1 : Nat)
    show _ ≤ before c y (k + j) + monthDays c y (k + j + 1 : Nat)
    omega
theorem before_12 {c y : Int} (hc : c = 0 ∨ c = 1) : before c y 12 = 365 + (if leapP c y then 1 else 0) := by
  have m1 := monthDays_plain (y := y) hc (m := 1) (by omega) (by omega) (by omega)
  have m3 := monthDays_plain (y := y) hc (m := 3) (by omega) (by omega) (by omega)
  have m4 := monthDays_plain (y := y) hc (m := 4) (by omega) (by omega) (by omega)
  have m5 := monthDays_plain (y := y) hc (m := 5) (by omega) (by omega) (by omega)
  have m6 := monthDays_plain (y := y) hc (m := 6) (by omega) (by omega) (by omega)
  have m7 := monthDays_plain (y := y) hc (m := 7) (by omega) (by omega) (by omega)
  have m8 := monthDays_plain (y := y) hc (m := 8) (by omega) (by omega) (by omega)
  have m9 := monthDays_plain (y := y) hc (m := 9) (by omega) (by omega) (by omega)
  have m10 := monthDays_plain (y := y) hc (m := 10) (by omega) (by omega) (by omega)
  have m11 := monthDays_plain (y := y) hc (m := 11) (by omega) (by omega) (by omega)
  have m12 := monthDays_plain (y := y) hc (m := 12) (by omega) (by omega) (by omega)
  by_cases hl : leapP c y
  · have m2 := monthDays_leap hc hl
    simp [before, m1, m2, m3, m4, m5, m6, m7, m8, m9, m10, m11, m12, hl, tab12]
  · have m2 := monthDays_plain (y := y) hc (m := 2) (by omega) (by omega) (fun h => hl h.2)
    simp [before, m1, m2, m3, m4, m5, m6, m7, m8, m9, m10, m11, m12, hl, tab12]
def first (c y : Int) : Int := 365 * (y - 1) + (y - 1) / 4 + (if c = 0 then -1 else (y - 1) / 400 - (y - 1) / 100 + 1)
theorem first_jul (y : Int) : first 0 y = 365 * (y - 1) + (y - 1) / 4 - 1 := by unfold first; rw [if_pos rfl]; omega
theorem first_gre (y : Int) : first 1 y = 365 * (y - 1) + (y - 1) / 4 - (y - 1) / 100 + (y - 1) / 400 + 1 := by unfold first; rw [if_neg (by omega)]; omega
theorem first_step {c : Int} (hc : c = 0 ∨ c = 1) (y : Int) : first c (y + 1) = first c y + before c y 12 := by
  rw [before_12 hc]
  rcases hc with rfl | rfl
  · rw [first_jul, first_jul]
    by_cases h : leapP 0 y
    · rw [if_pos h]; rw [leap_jul] at h; omega
    · rw [if_neg h]; rw [leap_jul] at h; omega
  · rw [first_gre, first_gre]
    by_cases h : leapP 1 y
    · rw [if_pos h]; rw [leap_gre] at h; omega
    · rw [if_neg h]; rw [leap_gre] at h; omega
theorem first_lt {c y z : Int} (hc : c = 0 ∨ c = 1) (h : y < z) : first c y < first c z := by
  rcases hc with rfl | rfl
  · rw [first_jul, first_jul]; omega
  · rw [first_gre, first_gre]; omega
theorem year_one {c y z n : Int} (hc : c = 0 ∨ c = 1) (h1 : first c y ≤ n) (h2 : n < first c (y + 1)) (h3 : first c z ≤ n) (h4 : n < first c (z + 1)) : y = z := by
  by_cases h : y < z
  · by_cases h' : y + 1 = z
    · subst h'; omega
    · have := first_lt hc (show y + 1 < z by omega); omega
  · by_cases h' : z < y
    · by_cases h'' : z + 1 = y
      · subst h''; omega
      · have := first_lt hc (show z + 1 < y by omega); omega
    · omega
noncomputable def yearOf (c n : Int) : Int := Classical.epsilon fun y => first c y ≤ n ∧ n < first c (y + 1)
theorem yearOf_eq {c y n : Int} (hc : c = 0 ∨ c = 1) (h1 : first c y ≤ n) (h2 : n < first c (y + 1)) : yearOf c n = y := by
  have h := Classical.epsilon_spec (p := fun y => first c y ≤ n ∧ n < first c (y + 1)) ⟨y, h1, h2⟩
  exact year_one hc h.1 h.2 h1 h2
theorem month_one {c y n : Int} {k j : Nat} (h1 : before c y k ≤ n) (h2 : n < before c y (k + 1)) (h3 : before c y j ≤ n) (h4 : n < before c y (j + 1)) : k = j := by
  by_cases h : k < j
  · have := before_mono c y (k + 1) (j - (k + 1))
    rw [show k + 1 + (j - (k + 1)) = j from by omega] at this
    omega
  · by_cases h' : j < k
    · have := before_mono c y (j + 1) (k - (j + 1))
      rw [show j + 1 + (k - (j + 1)) = k from by omega] at this
      omega
    · omega
noncomputable def monthOf (c y n : Int) : Nat := Classical.epsilon fun k => before c y k ≤ n ∧ n < before c y (k + 1)
theorem monthOf_eq {c y n : Int} {k : Nat} (h1 : before c y k ≤ n) (h2 : n < before c y (k + 1)) : monthOf c y n = k := by
  have h := Classical.epsilon_spec (p := fun k => before c y k ≤ n ∧ n < before c y (k + 1)) ⟨k, h1, h2⟩
  exact month_one h.1 h.2 h1 h2
def dayOf (c y m d : Int) : Int := if dateP c y m d then first c y + before c y (m - 1).toNat + d - 1 else 0
theorem first_bound {c y : Int} (hc : c = 0 ∨ c = 1) (h1 : -5 ≤ y) (h2 : y ≤ 4000) : -2800 ≤ first c y ∧ first c y ≤ 1470000 := by
  rcases hc with rfl | rfl
  · rw [first_jul]; omega
  · rw [first_gre]; omega
theorem dayOf_bound (c y m d : Int) : -2800 ≤ dayOf c y m d ∧ dayOf c y m d ≤ 1500000 := by
  unfold dayOf
  split
  · rename_i h
    have h1 := first_bound h.1 (show -5 ≤ y by have := h.2.1; omega) (show y ≤ 4000 by have := h.2.2.1; omega)
    have h2 := before_bound c y (m - 1).toNat
    have h3 := dateP_month h
    have h4 := dateP_day h
    omega
  · omega
noncomputable def dateOf (c n : Int) : Int × Int × Int × Int × Bool :=
  if (c = 0 ∨ c = 1) ∧ 1 ≤ yearOf c n ∧ yearOf c n ≤ 3000 ∧ -1000 ≤ n ∧ n ≤ 1200000 then
    (c, yearOf c n, (monthOf c (yearOf c n) (n - first c (yearOf c n)) : Int) + 1, n - first c (yearOf c n) - before c (yearOf c n) (monthOf c (yearOf c n) (n - first c (yearOf c n))) + 1, true)
  else (0, 0, 0, 0, false)
theorem floorDiv_small {a b : Int} (hb : 0 < b) (h1 : -4611686018427387904 ≤ a) (h2 : a ≤ 4611686018427387904) : floorDiv a b = a / b := by
  have hd := Int.mul_tdiv_add_tmod a b
  have he := Int.mul_ediv_add_emod a b
  have he1 := Int.emod_nonneg a (show b ≠ 0 by omega)
  have he2 := Int.emod_lt_of_pos a hb
  have hq : (a.tdiv b).natAbs ≤ a.natAbs := by rw [Int.natAbs_tdiv]; exact Nat.div_le_self _ _
  have hr : a.tmod b < b := Int.tmod_lt_of_pos a hb
  have hl : -b < a.tmod b := by
    have := Int.tmod_lt_of_pos (-a) hb
    rw [Int.neg_tmod] at this
    omega
  unfold floorDiv
  rw [if_neg (by omega), in_range (a.tdiv b) (by omega)]
  by_cases h : a.tmod b < 0
  · rw [if_pos h, in_range _ (by omega)]
    apply Int.le_antisymm
    · rw [Int.le_ediv_iff_mul_le hb, Int.sub_mul, Int.mul_comm]; omega
    · have : a / b < a.tdiv b - 1 + 1 := by
        apply Int.ediv_lt_of_lt_mul hb
        rw [show a.tdiv b - 1 + 1 = a.tdiv b by omega, Int.mul_comm]; omega
      omega
  · rw [if_neg h]
    apply Int.le_antisymm
    · rw [Int.le_ediv_iff_mul_le hb, Int.mul_comm]; omega
    · have : a / b < a.tdiv b + 1 := by
        apply Int.ediv_lt_of_lt_mul hb
        rw [Int.add_mul, Int.mul_comm]; omega
      omega
end Go.Proofs.YtilpencbbdpgfaaGreatDoor.ctr
namespace Go.Proofs.YtilpencbbdpgfaaGreatDoor.ctr
open Go.RowKit
theorem specCal (c : Int) (w : World) : Calls Tryz.prog 120 #[.int .i64 c] w fun e w' => e = .returned (.bool (calB c)) ∧ w' = w := by
  by_cases h0 : c = 0
  · subst h0
    go_enter Tryz.func120, Tryz.ntmps120
    go_wp2
    go_ret
    exact ⟨by first | rfl | exact ret_bool (by simp [*]), rfl⟩
  by_cases h1 : c = 1
  · subst h1
    go_enter Tryz.func120, Tryz.ntmps120
    go_wp2
    go_ret
    exact ⟨by first | rfl | exact ret_bool (by simp [*]), rfl⟩
  rw [calB_no (by omega)]
  go_enter Tryz.func120, Tryz.ntmps120
  go_wp2
  go_ret
  exact ⟨by first | rfl | exact ret_bool (by simp [*]), rfl⟩
theorem leapB_true {c y : Int} (h : leapP c y) : leapB c y = true := decide_eq_true h
theorem leapB_false {c y : Int} (h : ¬ leapP c y) : leapB c y = false := decide_eq_false h
theorem specLeap (c y : Int) (w : World) : Calls Tryz.prog 184 #[.int .i64 c, .int .i64 y] w fun e w' => e = .returned (.bool (leapB c y)) ∧ w' = w := by
  by_cases h0 : c = 0
  · subst h0
    by_cases h4 : y.tmod 4 = 0
    · rw [leapB_true (.inl ⟨rfl, h4⟩)]
      go_enter Tryz.func184, Tryz.ntmps184
      go_wp2
      go_ret
      exact ⟨by first | rfl | exact ret_bool (by simp [*]), rfl⟩
    · rw [leapB_false (by unfold leapP; omega)]
      go_enter Tryz.func184, Tryz.ntmps184
      go_wp2
      go_ret
      exact ⟨by first | rfl | exact ret_bool (by simp [*]), rfl⟩
  by_cases h1 : c = 1
  · subst h1
    by_cases h4 : y.tmod 4 = 0
    · by_cases h100 : y.tmod 100 = 0
      · by_cases h400 : y.tmod 400 = 0
        · rw [leapB_true (.inr ⟨rfl, .inr h400⟩)]
          go_enter Tryz.func184, Tryz.ntmps184
          go_wp2
          go_ret
          exact ⟨by first | rfl | exact ret_bool (by simp [*]), rfl⟩
        · rw [leapB_false (by unfold leapP; omega)]
          go_enter Tryz.func184, Tryz.ntmps184
          go_wp2
          go_ret
          exact ⟨by first | rfl | exact ret_bool (by simp [*]), rfl⟩
      · rw [leapB_true (.inr ⟨rfl, .inl ⟨h4, h100⟩⟩)]
        go_enter Tryz.func184, Tryz.ntmps184
        go_wp2
        go_ret
        exact ⟨by first | rfl | exact ret_bool (by simp [*]), rfl⟩
    · have h400 : ¬ y.tmod 400 = 0 := fun h => h4 (tmod_four h)
      rw [leapB_false (by unfold leapP; omega)]
      go_enter Tryz.func184, Tryz.ntmps184
      go_wp2
      go_ret
      exact ⟨by first | rfl | exact ret_bool (by simp [*]), rfl⟩
  rw [leapB_false (by unfold leapP; omega)]
  go_enter Tryz.func184, Tryz.ntmps184
  go_wp2
  go_ret
  exact ⟨by first | rfl | exact ret_bool (by simp [*]), rfl⟩
theorem implCal0 (w : World) : Calls Tryz.prog 175 #[.int .i64 0] w fun e w' => e = .returned (.iface 232 (.agg #[])) ∧ w' = w := by
  go_enter Tryz.func175, Tryz.ntmps175
  go_wp2
  go_ret
  exact ⟨rfl, rfl⟩
theorem implCal1 (w : World) : Calls Tryz.prog 175 #[.int .i64 1] w fun e w' => e = .returned (.iface 233 (.agg #[])) ∧ w' = w := by
  go_enter Tryz.func175, Tryz.ntmps175
  go_wp2
  go_ret
  exact ⟨rfl, rfl⟩
theorem implCalNo (c : Int) (h0 : ¬ c = 0) (h1 : ¬ c = 1) (w : World) : Calls Tryz.prog 175 #[.int .i64 c] w fun e w' => e = .returned .nilIface ∧ w' = w := by
  go_enter Tryz.func175, Tryz.ntmps175
  go_wp2
  go_ret
  exact ⟨rfl, rfl⟩
/- What a type switch asks of a calendar: closed facts over the program's tables. -/
theorem isJulJul (w : World) : (Instr.typeAssert (.iface 232 (.agg #[])) 184 232 true).run Tryz.prog w = .ok (.tuple #[.agg #[], .bool true]) w := by kernel_rfl
theorem isJulGre (w : World) : (Instr.typeAssert (.iface 233 (.agg #[])) 184 232 true).run Tryz.prog w = .ok (.tuple #[.agg #[], .bool false]) w := by kernel_rfl
theorem isGreGre (w : World) : (Instr.typeAssert (.iface 233 (.agg #[])) 184 233 true).run Tryz.prog w = .ok (.tuple #[.agg #[], .bool true]) w := by kernel_rfl
theorem leapJul (y : Int) (w : World) : Calls Tryz.prog 396 #[.agg #[], .int .i64 y] w fun e w' => e = .returned (.bool (leapB 0 y)) ∧ Below w.heap.size w w' := by
  have h : leapB 0 y = (y.tmod 4 == 0) := by
    by_cases h : y.tmod 4 = 0
    · rw [leapB_true (.inl ⟨rfl, h⟩), h]; rfl
    · rw [leapB_false (by unfold leapP; omega)]; simp [h]
  rw [h]
  clear h
  go_enter Tryz.func396, Tryz.ntmps396
  go_wp2
  go_ret
  exact ⟨rfl, (Below.refl _ _).alloc (Nat.le_refl _) _⟩
theorem leapGre (y : Int) (w : World) : Calls Tryz.prog 398 #[.agg #[], .int .i64 y] w fun e w' => e = .returned (.bool (leapB 1 y)) ∧ Below w.heap.size w w' := by
  by_cases h4 : y.tmod 4 = 0
  · by_cases h100 : y.tmod 100 = 0
    · by_cases h400 : y.tmod 400 = 0
      · rw [leapB_true (.inr ⟨rfl, .inr h400⟩)]
        go_enter Tryz.func398, Tryz.ntmps398
        go_wp2
        go_ret
        exact ⟨by first | rfl | exact ret_bool (by simp [*]), (Below.refl _ _).alloc (Nat.le_refl _) _⟩
      · rw [leapB_false (by unfold leapP; omega)]
        go_enter Tryz.func398, Tryz.ntmps398
        go_wp2
        go_ret
        exact ⟨by first | rfl | exact ret_bool (by simp [*]), (Below.refl _ _).alloc (Nat.le_refl _) _⟩
    · rw [leapB_true (.inr ⟨rfl, .inl ⟨h4, h100⟩⟩)]
      go_enter Tryz.func398, Tryz.ntmps398
      go_wp2
      go_ret
      exact ⟨by first | rfl | exact ret_bool (by simp [*]), (Below.refl _ _).alloc (Nat.le_refl _) _⟩
  · have h400 : ¬ y.tmod 400 = 0 := fun h => h4 (tmod_four h)
    rw [leapB_false (by unfold leapP; omega)]
    go_enter Tryz.func398, Tryz.ntmps398
    go_wp2
    go_ret
    exact ⟨by first | rfl | exact ret_bool (by simp [*]), (Below.refl _ _).alloc (Nat.le_refl _) _⟩
theorem implLeap (c y : Int) (w : World) : Calls Tryz.prog 236 #[.int .i64 c, .int .i64 y] w fun e w' => e = .returned (.bool (leapB c y)) ∧ Below w.heap.size w w' := by
  by_cases h0 : c = 0
  · subst h0
    go_enter Tryz.func236, Tryz.ntmps236
    go_wp2_with fail
    refine (implCal0 _).mono ?_
    rintro e w1 ⟨rfl, rfl⟩
    go_wp2_with (go_at_call 396; refine (leapJul _ _).mono ?_; rintro e w1 ⟨rfl, hb⟩)
    go_ret
    exact ⟨rfl, hb⟩
  by_cases h1 : c = 1
  · subst h1
    go_enter Tryz.func236, Tryz.ntmps236
    go_wp2_with fail
    refine (implCal1 _).mono ?_
    rintro e w1 ⟨rfl, rfl⟩
    go_wp2_with (go_at_call 398; refine (leapGre _ _).mono ?_; rintro e w1 ⟨rfl, hb⟩)
    go_ret
    exact ⟨rfl, hb⟩
  rw [leapB_false (by unfold leapP; omega)]
  go_enter Tryz.func236, Tryz.ntmps236
  go_wp2_with fail
  refine (implCalNo _ h0 h1 _).mono ?_
  rintro e w1 ⟨rfl, rfl⟩
  go_wp2
  go_ret
  exact ⟨rfl, Below.refl _ _⟩
end Go.Proofs.YtilpencbbdpgfaaGreatDoor.ctr
