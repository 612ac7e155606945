/- Segments and patches: a struct of five ints, one of three; contracts of the laws' own helpers over them: how long all is, copies, two lists alike are told alike. Regions that draw their order, walked in pieces: a first piece whose operations are quiet in a class of worlds and behind which alone the others come up ('any_prefix'); and three moves beside a call whose answer hangs on the world ('any_call'). Contracts of cmp.Compare and cmp.Or at ints, and of the heap's Less: one segment is ahead of another by From, then To, then its number. -/
import Derived.Test.YtdgolaaheakfoaaGreatDoorIntRowS
import Derived.Test.YtdgolaaheakfoaaGreatDoorSrtPlainS
import Derived.Laws.MakeOwn
import Derived.Deep.RegionWith
import Derived.Test.YtdgolaaheakfoaaGreatDoorJnSaa
import Derived.BigRegion
namespace Go.Proofs.YtdgolaaheakfoaaGreatDoor.ctr
open Go.RowKit
structure Pat where
  day : Int
  mon : Int
  dom : Int
  deriving DecidableEq
def pt0 : Pat := ⟨0, 0, 0⟩
def segK : IK Seg := ⟨5, fun s => [s.fr, s.to, s.cal, s.sty, s.off], fun zs => ⟨zs.getD 0 0, zs.getD 1 0, zs.getD 2 0, zs.getD 3 0, zs.getD 4 0⟩, s0, fun _ => rfl, fun zs h => by
  match zs, h with
  | [_, _, _, _, _], _ => rfl⟩
def patK : IK Pat := ⟨3, fun s => [s.day, s.mon, s.dom], fun zs => ⟨zs.getD 0 0, zs.getD 1 0, zs.getD 2 0⟩, pt0, fun _ => rfl, fun zs h => by
  match zs, h with
  | [_, _, _], _ => rfl⟩
theorem addI_off (x : Addr) (n j : Nat) (h : 0 < j) : x.add (n + j) = ⟨(x.add n).block, (x.add n).off + j, none⟩ := by
  unfold Addr.add
  rw [if_neg (by omega)]
  split
  · rename_i e
    subst e
    simp
  · simp only [Nat.add_assoc]
theorem same_bel {W w' : World} (h : w' = W) : Below W.heap.size W w' := by rw [h]; exact Below.refl _ _
theorem IAt.seg {w : World} {g k : Nat} {r : Seg} (h : IAt segK w g k r) : w.cell? ⟨g, k * 5, none⟩ = some (.int .i64 r.fr) ∧ w.cell? ⟨g, k * 5 + 1, none⟩ = some (.int .i64 r.to) ∧ w.cell? ⟨g, k * 5 + 2, none⟩ = some (.int .i64 r.cal) ∧ w.cell? ⟨g, k * 5 + 3, none⟩ = some (.int .i64 r.sty) ∧ w.cell? ⟨g, k * 5 + 4, none⟩ = some (.int .i64 r.off) :=
  ⟨h 0 _ rfl, h 1 _ rfl, h 2 _ rfl, h 3 _ rfl, h 4 _ rfl⟩
theorem IIn.atSegment {w : World} {a : Option Addr} {len cap : Nat} {l : List Seg} (h : IIn segK w a len cap l) {k : Nat} (hk : k < len) : ∃ x, a = some x ∧ ∀ y : Later w, y.w.cell? (x.add (k * 5)) = some (.int .i64 (atK segK l k).fr) ∧ y.w.cell? ⟨(x.add (k * 5)).block, (x.add (k * 5)).off + 1, none⟩ = some (.int .i64 (atK segK l k).to) ∧ y.w.cell? ⟨(x.add (k * 5)).block, (x.add (k * 5)).off + 2, none⟩ = some (.int .i64 (atK segK l k).cal) ∧ y.w.cell? ⟨(x.add (k * 5)).block, (x.add (k * 5)).off + 3, none⟩ = some (.int .i64 (atK segK l k).sty) ∧ y.w.cell? ⟨(x.add (k * 5)).block, (x.add (k * 5)).off + 4, none⟩ = some (.int .i64 (atK segK l k).off) := by
  obtain ⟨_, _, _, ⟨_, h0⟩ | ⟨x, hx, h⟩⟩ := h
  · omega
  · have h0 : w.cell? (x.add (k * 5 + 0)) = _ := h k hk 0 _ rfl
    have h1 : w.cell? (x.add (k * 5 + 1)) = _ := h k hk 1 _ rfl
    have h2 : w.cell? (x.add (k * 5 + 2)) = _ := h k hk 2 _ rfl
    have h3 : w.cell? (x.add (k * 5 + 3)) = _ := h k hk 3 _ rfl
    have h4 : w.cell? (x.add (k * 5 + 4)) = _ := h k hk 4 _ rfl
    rw [addI_off x _ _ (by omega)] at h1
    rw [addI_off x _ _ (by omega)] at h2
    rw [addI_off x _ _ (by omega)] at h3
    rw [addI_off x _ _ (by omega)] at h4
    exact ⟨x, hx, fun y => ⟨Later.at h0 y, Later.at h1 y, Later.at h2 y, Later.at h3 y, Later.at h4 y⟩⟩
theorem toSegment (a0 a1 a2 a3 a4 : Int) (w : World) : Calls Tryz.prog 77 #[.agg #[.int .i64 a0, .int .i64 a1, .int .i64 a2, .int .i64 a3, .int .i64 a4]] w fun e w' => e = .returned (.agg #[.int .i64 a0, .int .i64 a1, .int .i64 a2, .int .i64 a3, .int .i64 a4]) ∧ Below w.heap.size w w' := by
  go_enter Tryz.func77, Tryz.ntmps77
  go_wp2
  go_returns
  refine ⟨rfl, ?_⟩
  go_grown
theorem eqSegment1 (a0 a1 a2 a3 a4 : Int) (w : World) : Calls Tryz.prog 87 #[.agg #[.int .i64 a0, .int .i64 a1, .int .i64 a2, .int .i64 a3, .int .i64 a4], .agg #[.int .i64 a0, .int .i64 a1, .int .i64 a2, .int .i64 a3, .int .i64 a4]] w fun e w' => e = .returned (.bool true) ∧ Below w.heap.size w w' := by
  go_enter Tryz.func87, Tryz.ntmps87
  go_wp2
  go_ret
  exact ⟨rfl, ((Below.refl _ _).alloc (Nat.le_refl _) _).alloc (by rw [World.size_alloc]; omega) _⟩
theorem szSegmentS (a : Option Addr) (len cap : Nat) (left : Int) (w : World) (h0 : len ≤ cap) (h : cap ≤ maxLen) (h1 : 0 ≤ left) (h2 : left ≤ 1048576) : Calls Tryz.prog 30 #[.slice a len cap, .int .i64 left] w fun e w' => e = .returned (.int .i64 (if left < len then -1 else left - len)) ∧ w' = w := by
  unfold maxLen at h
  by_cases hl : left < len
  · rw [if_pos hl]
    go_enter Tryz.func30, Tryz.ntmps30
    go_wp2
    go_ret
    exact ⟨rfl, rfl⟩
  · rw [if_neg hl]
    go_enter Tryz.func30, Tryz.ntmps30
    go_wp2
    go_ret
    exact ⟨rfl, rfl⟩
theorem info_seg : (Tryz.prog.info? 90).map (fun i => (i.zero, i.size, i.bytes)) = some (some (.agg #[.int .i64 0, .int .i64 0, .int .i64 0, .int .i64 0, .int .i64 0]), 5, 40) := by kernel_rfl
def segzero : Array Value := #[.int .i64 0, .int .i64 0, .int .i64 0, .int .i64 0, .int .i64 0]
theorem make_seg (n : Nat) (hn : n ≤ 1048576) (W : World) : (Instr.makeSlice 36 (.int .i64 (n : Int)) (.int .i64 (n : Int))).run Tryz.prog W = .ok (.slice (some ⟨W.heap.size, 0, none⟩) n n) (W.alloc (.cells (madeCells segzero (n * 5)) 90)) := by
  obtain ⟨i0, hi, e⟩ := Option.map_eq_some_iff.1 info_seg
  simp only [Prod.mk.injEq] at e
  obtain ⟨hz, hs, hb⟩ := e
  have h := run_make (P := Tryz.prog) W 36 90 i0 _ Tryz.underlying36 hi hz .i64 .i64 (n : Int) (n : Int) (by omega) (by omega) (by rw [hb]; omega) (by omega)
  rw [hs] at h
  simp only [Int.toNat_natCast] at h
  exact h
set_option maxHeartbeats 1000000 in
theorem toSegmentS (a : Option Addr) (len cap : Nat) (l : List Seg) (w : World) (h : IIn segK w a len cap l) (hs : l.length ≤ 1048576) : Calls Tryz.prog 37 #[.slice a len cap] w fun e w' => ∃ v, e = .returned v ∧ INew segK w w' v l ∧ Below w.heap.size w w' := by
  have hlen := h.1
  have hl : len ≤ 1048576 := by rw [← hlen]; exact hs
  have H := hideP h
  have HL := hideP hlen
  have hmk := make_seg len hl
  have hpart : Hid (iPart segK l 0 (madeCells segzero (len * 5))) := ⟨by rw [size_madeCells, hlen]; rfl, fun j hj => by simp at hj⟩
  clear h hs hlen
  go_enter Tryz.func37, Tryz.ntmps37
  go_wp2
  go_loopw [4] (fun i wr => ∃ (k : Nat) (cs : Array Value), k ≤ len ∧ i = .int .i64 (k : Int) ∧ iPart segK l k cs ∧ Blk wr w.heap.size cs 90 ∧ Below w.heap.size w wr) (fun i _ => len - (intOf i).toNat)
  case atStart => exact ⟨0, _, Nat.zero_le _, rfl, hpart.out, Blk.new w _ _, (Below.refl _ _).alloc (Nat.le_refl _) _⟩
  case round =>
    obtain ⟨k, cs, hk, rfl, hp, hb, hB⟩ := hrel
    have HB := hideP hB
    have HP := hideP hp
    have HK := hideP hb
    clear hB hp hb
    by_cases hlt : k < len
    · obtain ⟨x, rfl, hx⟩ := H.out.atSegment hlt
      obtain ⟨c0, c1, c2, c3, c4⟩ := hx ⟨wr, HB.out⟩
      dsimp only at c0 c1 c2 c3 c4
      have HN := hideP (iPart_next HP.out (by rw [HL.out]; exact hlt))
      have hm : Hid (∀ r : Seg, setI cs (k * 5) 0 (segK.iv r) = (((((cs.setIfInBounds (k * 5 + 0) (.int .i64 r.fr)).setIfInBounds (k * 5 + 1) (.int .i64 r.to)).setIfInBounds (k * 5 + 2) (.int .i64 r.cal)).setIfInBounds (k * 5 + 3) (.int .i64 r.sty)).setIfInBounds (k * 5 + 4) (.int .i64 r.off))) := fun r => rfl
      clear hx
      generalize atK segK l k = r at *
      go_wp2_with fail
      refine (toSegment _ _ _ _ _ _).mono ?_
      rintro e w1 ⟨rfl, hb⟩
      have HB1 : Hid (Below w.heap.size w w1) := HB.out.trans (hb.mono HB.out.size)
      have HK1 := HK.out.below hb HK.out.lt
      clear hb c0 c1 c2 c3 c4 hmk
      have hsz : cs.size = len * 5 := by rw [HP.out.1, HL.out]; rfl
      have d0 := HK1.cell (k * 5) (v := cs[k * 5]'(by omega)) (by simp)
      have d1 := HK1.cell (k * 5 + 1) (v := cs[k * 5 + 1]'(by omega)) (by simp)
      have d2 := HK1.cell (k * 5 + 2) (v := cs[k * 5 + 2]'(by omega)) (by simp)
      have d3 := HK1.cell (k * 5 + 3) (v := cs[k * 5 + 3]'(by omega)) (by simp)
      have d4 := HK1.cell (k * 5 + 4) (v := cs[k * 5 + 4]'(by omega)) (by simp)
      have t0 := HK1.thaw (k * 5)
      have t1 := HK1.thaw (k * 5 + 1)
      have t2 := HK1.thaw (k * 5 + 2)
      have t3 := HK1.thaw (k * 5 + 3)
      have t4 := HK1.thaw (k * 5 + 4)
      have HS := hideP HK1
      generalize cs[k * 5]'(by omega) = v0 at d0
      generalize cs[k * 5 + 1]'(by omega) = v1 at d1
      generalize cs[k * 5 + 2]'(by omega) = v2 at d2
      generalize cs[k * 5 + 3]'(by omega) = v3 at d3
      generalize cs[k * 5 + 4]'(by omega) = v4 at d4
      clear HK1 hsz
      go_wp2
      refine ⟨⟨k + 1, _, by omega, by go_num, HN.out, ?_, (below_store (below_store (below_store (below_store (below_store HB1.out _ (Nat.le_refl _)) _ (Nat.le_refl _)) _ (Nat.le_refl _)) _ (Nat.le_refl _)) _ (Nat.le_refl _))⟩, by simp [intOf]; omega⟩
      rw [show setI cs (k * segK.m) 0 (segK.iv r) = _ from hm.out r]
      exact (((((HS.out.set _ _).set _ _).set _ _).set _ _).set _ _)
    · have hkn : k = l.length := by rw [HL.out]; omega
      have HP' := HP.out
      rw [hkn] at HP'
      have HC := hideP (iPart_all HP')
      clear HP' hkn
      go_wp2
      go_ret
      exact ⟨.slice (some ⟨w.heap.size, 0, none⟩) len len, rfl, ⟨w.heap.size, 90, by rw [HL.out], Nat.le_refl _, by rw [← HC.out]; exact HK.out⟩, HB.out⟩
set_option maxHeartbeats 1000000 in
theorem eqSegmentS (v1 v2 : Value) (l : List Seg) (w : World) (h1 : IRow segK w v1 l) (h2 : IRow segK w v2 l) : Calls Tryz.prog 44 #[v1, v2] w fun e w' => e = .returned (.bool true) ∧ Below w.heap.size w w' := by
  obtain ⟨a1, c1, rfl, l1, m1, H1⟩ := h1
  obtain ⟨a2, c2, rfl, _, _, H2⟩ := h2
  have K1 := hideP H1
  have K2 := hideP H2
  unfold maxLen at m1
  clear H1 H2
  go_enter Tryz.func44, Tryz.ntmps44
  go_wp2
  go_loopw [5] (fun i wr => ∃ k : Nat, k ≤ l.length ∧ i = .int .i64 (k : Int) ∧ Below w.heap.size w wr) (fun i _ => l.length - (intOf i).toNat)
  case atStart => exact ⟨0, Nat.zero_le _, rfl, Below.refl _ _⟩
  case round =>
    obtain ⟨k, hk, rfl, hB⟩ := hrel
    have HB := hideP hB
    clear hB
    by_cases hlt : k < l.length
    · obtain ⟨g1, rfl, hg1, x1⟩ := K1.out k hlt
      obtain ⟨g2, rfl, hg2, x2⟩ := K2.out k hlt
      obtain ⟨a0, a1, a2, a3, a4⟩ := (x1.below HB.out hg1).seg
      obtain ⟨b0, b1, b2, b3, b4⟩ := (x2.below HB.out hg2).seg
      clear x1 x2
      generalize atK segK l k = r at *
      go_wp2
      go_region_with (go_at_call 87; refine (eqSegment1 _ _ _ _ _ _).mono ?_; rintro e w2 ⟨rfl, hb2⟩; have HB2 : Hid (Below w.heap.size w w2) := HB.out.trans ⟨hb2.os, hb2.tape, hb2.output, Nat.le_trans (Nat.le_refl _) hb2.size, fun j hj => hb2.block j (Nat.lt_of_lt_of_le hj HB.out.size)⟩; clear hb2)
      all_goals go_wp2
      all_goals exact ⟨⟨k + 1, by omega, by go_num, HB2.out⟩, by simp [intOf]; omega⟩
    · go_wp2
      go_ret
      exact ⟨rfl, HB.out⟩
theorem IAt.pat {w : World} {g k : Nat} {r : Pat} (h : IAt patK w g k r) : w.cell? ⟨g, k * 3, none⟩ = some (.int .i64 r.day) ∧ w.cell? ⟨g, k * 3 + 1, none⟩ = some (.int .i64 r.mon) ∧ w.cell? ⟨g, k * 3 + 2, none⟩ = some (.int .i64 r.dom) :=
  ⟨h 0 _ rfl, h 1 _ rfl, h 2 _ rfl⟩
theorem IIn.atPatch {w : World} {a : Option Addr} {len cap : Nat} {l : List Pat} (h : IIn patK w a len cap l) {k : Nat} (hk : k < len) : ∃ x, a = some x ∧ ∀ y : Later w, y.w.cell? (x.add (k * 3)) = some (.int .i64 (atK patK l k).day) ∧ y.w.cell? ⟨(x.add (k * 3)).block, (x.add (k * 3)).off + 1, none⟩ = some (.int .i64 (atK patK l k).mon) ∧ y.w.cell? ⟨(x.add (k * 3)).block, (x.add (k * 3)).off + 2, none⟩ = some (.int .i64 (atK patK l k).dom) := by
  obtain ⟨_, _, _, ⟨_, h0⟩ | ⟨x, hx, h⟩⟩ := h
  · omega
  · have h0 : w.cell? (x.add (k * 3 + 0)) = _ := h k hk 0 _ rfl
    have h1 : w.cell? (x.add (k * 3 + 1)) = _ := h k hk 1 _ rfl
    have h2 : w.cell? (x.add (k * 3 + 2)) = _ := h k hk 2 _ rfl
    rw [addI_off x _ _ (by omega)] at h1
    rw [addI_off x _ _ (by omega)] at h2
    exact ⟨x, hx, fun y => ⟨Later.at h0 y, Later.at h1 y, Later.at h2 y⟩⟩
theorem toPatch (a0 a1 a2 : Int) (w : World) : Calls Tryz.prog 78 #[.agg #[.int .i64 a0, .int .i64 a1, .int .i64 a2]] w fun e w' => e = .returned (.agg #[.int .i64 a0, .int .i64 a1, .int .i64 a2]) ∧ Below w.heap.size w w' := by
  go_enter Tryz.func78, Tryz.ntmps78
  go_wp2
  go_returns
  refine ⟨rfl, ?_⟩
  go_grown
theorem eqPatch1 (a0 a1 a2 : Int) (w : World) : Calls Tryz.prog 88 #[.agg #[.int .i64 a0, .int .i64 a1, .int .i64 a2], .agg #[.int .i64 a0, .int .i64 a1, .int .i64 a2]] w fun e w' => e = .returned (.bool true) ∧ Below w.heap.size w w' := by
  go_enter Tryz.func88, Tryz.ntmps88
  go_wp2
  go_ret
  exact ⟨rfl, ((Below.refl _ _).alloc (Nat.le_refl _) _).alloc (by rw [World.size_alloc]; omega) _⟩
theorem szPatchS (a : Option Addr) (len cap : Nat) (left : Int) (w : World) (h0 : len ≤ cap) (h : cap ≤ maxLen) (h1 : 0 ≤ left) (h2 : left ≤ 1048576) : Calls Tryz.prog 31 #[.slice a len cap, .int .i64 left] w fun e w' => e = .returned (.int .i64 (if left < len then -1 else left - len)) ∧ w' = w := by
  unfold maxLen at h
  by_cases hl : left < len
  · rw [if_pos hl]
    go_enter Tryz.func31, Tryz.ntmps31
    go_wp2
    go_ret
    exact ⟨rfl, rfl⟩
  · rw [if_neg hl]
    go_enter Tryz.func31, Tryz.ntmps31
    go_wp2
    go_ret
    exact ⟨rfl, rfl⟩
theorem info_pat : (Tryz.prog.info? 120).map (fun i => (i.zero, i.size, i.bytes)) = some (some (.agg #[.int .i64 0, .int .i64 0, .int .i64 0]), 3, 24) := by kernel_rfl
def patzero : Array Value := #[.int .i64 0, .int .i64 0, .int .i64 0]
theorem make_pat (n : Nat) (hn : n ≤ 1048576) (W : World) : (Instr.makeSlice 37 (.int .i64 (n : Int)) (.int .i64 (n : Int))).run Tryz.prog W = .ok (.slice (some ⟨W.heap.size, 0, none⟩) n n) (W.alloc (.cells (madeCells patzero (n * 3)) 120)) := by
  obtain ⟨i0, hi, e⟩ := Option.map_eq_some_iff.1 info_pat
  simp only [Prod.mk.injEq] at e
  obtain ⟨hz, hs, hb⟩ := e
  have h := run_make (P := Tryz.prog) W 37 120 i0 _ Tryz.underlying37 hi hz .i64 .i64 (n : Int) (n : Int) (by omega) (by omega) (by rw [hb]; omega) (by omega)
  rw [hs] at h
  simp only [Int.toNat_natCast] at h
  exact h
set_option maxHeartbeats 1000000 in
theorem toPatchS (a : Option Addr) (len cap : Nat) (l : List Pat) (w : World) (h : IIn patK w a len cap l) (hs : l.length ≤ 1048576) : Calls Tryz.prog 38 #[.slice a len cap] w fun e w' => ∃ v, e = .returned v ∧ INew patK w w' v l ∧ Below w.heap.size w w' := by
  have hlen := h.1
  have hl : len ≤ 1048576 := by rw [← hlen]; exact hs
  have H := hideP h
  have HL := hideP hlen
  have hmk := make_pat len hl
  have hpart : Hid (iPart patK l 0 (madeCells patzero (len * 3))) := ⟨by rw [size_madeCells, hlen]; rfl, fun j hj => by simp at hj⟩
  clear h hs hlen
  go_enter Tryz.func38, Tryz.ntmps38
  go_wp2
  go_loopw [4] (fun i wr => ∃ (k : Nat) (cs : Array Value), k ≤ len ∧ i = .int .i64 (k : Int) ∧ iPart patK l k cs ∧ Blk wr w.heap.size cs 120 ∧ Below w.heap.size w wr) (fun i _ => len - (intOf i).toNat)
  case atStart => exact ⟨0, _, Nat.zero_le _, rfl, hpart.out, Blk.new w _ _, (Below.refl _ _).alloc (Nat.le_refl _) _⟩
  case round =>
    obtain ⟨k, cs, hk, rfl, hp, hb, hB⟩ := hrel
    have HB := hideP hB
    have HP := hideP hp
    have HK := hideP hb
    clear hB hp hb
    by_cases hlt : k < len
    · obtain ⟨x, rfl, hx⟩ := H.out.atPatch hlt
      obtain ⟨c0, c1, c2⟩ := hx ⟨wr, HB.out⟩
      dsimp only at c0 c1 c2
      have HN := hideP (iPart_next HP.out (by rw [HL.out]; exact hlt))
      have hm : Hid (∀ r : Pat, setI cs (k * 3) 0 (patK.iv r) = (((cs.setIfInBounds (k * 3 + 0) (.int .i64 r.day)).setIfInBounds (k * 3 + 1) (.int .i64 r.mon)).setIfInBounds (k * 3 + 2) (.int .i64 r.dom))) := fun r => rfl
      clear hx
      generalize atK patK l k = r at *
      go_wp2_with fail
      refine (toPatch _ _ _ _).mono ?_
      rintro e w1 ⟨rfl, hb⟩
      have HB1 : Hid (Below w.heap.size w w1) := HB.out.trans (hb.mono HB.out.size)
      have HK1 := HK.out.below hb HK.out.lt
      clear hb c0 c1 c2 hmk
      have hsz : cs.size = len * 3 := by rw [HP.out.1, HL.out]; rfl
      have d0 := HK1.cell (k * 3) (v := cs[k * 3]'(by omega)) (by simp)
      have d1 := HK1.cell (k * 3 + 1) (v := cs[k * 3 + 1]'(by omega)) (by simp)
      have d2 := HK1.cell (k * 3 + 2) (v := cs[k * 3 + 2]'(by omega)) (by simp)
      have t0 := HK1.thaw (k * 3)
      have t1 := HK1.thaw (k * 3 + 1)
      have t2 := HK1.thaw (k * 3 + 2)
      have HS := hideP HK1
      generalize cs[k * 3]'(by omega) = v0 at d0
      generalize cs[k * 3 + 1]'(by omega) = v1 at d1
      generalize cs[k * 3 + 2]'(by omega) = v2 at d2
      clear HK1 hsz
      go_wp2
      refine ⟨⟨k + 1, _, by omega, by go_num, HN.out, ?_, (below_store (below_store (below_store HB1.out _ (Nat.le_refl _)) _ (Nat.le_refl _)) _ (Nat.le_refl _))⟩, by simp [intOf]; omega⟩
      rw [show setI cs (k * patK.m) 0 (patK.iv r) = _ from hm.out r]
      exact (((HS.out.set _ _).set _ _).set _ _)
    · have hkn : k = l.length := by rw [HL.out]; omega
      have HP' := HP.out
      rw [hkn] at HP'
      have HC := hideP (iPart_all HP')
      clear HP' hkn
      go_wp2
      go_ret
      exact ⟨.slice (some ⟨w.heap.size, 0, none⟩) len len, rfl, ⟨w.heap.size, 120, by rw [HL.out], Nat.le_refl _, by rw [← HC.out]; exact HK.out⟩, HB.out⟩
set_option maxHeartbeats 1000000 in
theorem eqPatchS (v1 v2 : Value) (l : List Pat) (w : World) (h1 : IRow patK w v1 l) (h2 : IRow patK w v2 l) : Calls Tryz.prog 45 #[v1, v2] w fun e w' => e = .returned (.bool true) ∧ Below w.heap.size w w' := by
  obtain ⟨a1, c1, rfl, l1, m1, H1⟩ := h1
  obtain ⟨a2, c2, rfl, _, _, H2⟩ := h2
  have K1 := hideP H1
  have K2 := hideP H2
  unfold maxLen at m1
  clear H1 H2
  go_enter Tryz.func45, Tryz.ntmps45
  go_wp2
  go_loopw [5] (fun i wr => ∃ k : Nat, k ≤ l.length ∧ i = .int .i64 (k : Int) ∧ Below w.heap.size w wr) (fun i _ => l.length - (intOf i).toNat)
  case atStart => exact ⟨0, Nat.zero_le _, rfl, Below.refl _ _⟩
  case round =>
    obtain ⟨k, hk, rfl, hB⟩ := hrel
    have HB := hideP hB
    clear hB
    by_cases hlt : k < l.length
    · obtain ⟨g1, rfl, hg1, x1⟩ := K1.out k hlt
      obtain ⟨g2, rfl, hg2, x2⟩ := K2.out k hlt
      obtain ⟨a0, a1, a2⟩ := (x1.below HB.out hg1).pat
      obtain ⟨b0, b1, b2⟩ := (x2.below HB.out hg2).pat
      clear x1 x2
      generalize atK patK l k = r at *
      go_wp2
      go_region_with (go_at_call 88; refine (eqPatch1 _ _ _ _).mono ?_; rintro e w2 ⟨rfl, hb2⟩; have HB2 : Hid (Below w.heap.size w w2) := HB.out.trans ⟨hb2.os, hb2.tape, hb2.output, Nat.le_trans (Nat.le_refl _) hb2.size, fun j hj => hb2.block j (Nat.lt_of_lt_of_le hj HB.out.size)⟩; clear hb2)
      all_goals go_wp2
      all_goals exact ⟨⟨k + 1, by omega, by go_num, HB2.out⟩, by simp [intOf]; omega⟩
    · go_wp2
      go_ret
      exact ⟨rfl, HB.out⟩
end Go.Proofs.YtdgolaaheakfoaaGreatDoor.ctr
namespace Go.Proofs.YtdgolaaheakfoaaGreatDoor.ctr
open Go.RowKit
section
variable {P : Program} {ops : Array Oper} {md : Region.Mode} {C : World → Prop}
theorem wpQuiet_mono {Q1 Q2 : Act → Prop} (hQ : ∀ a, Q1 a → Q2 a) : ∀ (l : List Oper) (a : Act), wpQuiet P ops C Q1 l a → wpQuiet P ops C Q2 l a
  | [], a, h => hQ a h
  | o :: l, a, h => by
    unfold wpQuiet at h ⊢
    split
    · rename_i hw
      rw [if_pos hw] at h
      exact Oper.quiet_mono (fun a' => wpQuiet_mono hQ l a') h
    · rename_i hw
      rw [if_neg hw] at h
      exact wpQuiet_mono hQ l _ h
def wpMix (P : Program) (md : Region.Mode) (ops : Array Oper) (C : World → Prop) (N : Nat) (R : Array Bool → Act → Prop) : Nat → Array Bool → Act → Prop
  | 0, listed, a => R listed a
  | m + 1, listed, a => Region.ready md ops listed ≠ [] ∧ ∀ i ∈ Region.ready md ops listed, i < N ∧ qOp P ops C i (wpMix P md ops C N R m (listed.setIfInBounds i true)) a
def lexP (md : Region.Mode) (ops : Array Oper) : Nat → Nat → Array Bool → Bool
  | 0, _, _ => true
  | n + 1, k, listed => (Region.ready md ops listed).contains k && Region.free md ops listed k && lexP md ops n (k + 1) (listed.setIfInBounds k true)
def setN : Nat → Nat → Array Bool → Array Bool
  | 0, _, l => l
  | n + 1, k, l => setN n (k + 1) (l.setIfInBounds k true)
def linkB (md : Region.Mode) (ops : Array Oper) (N : Nat) : Bool := (List.range (N - 1)).all fun i => (List.range N).any fun k => decide (i < k) && ((ops[k]?).map fun o => o.after.any fun e => Region.binds md e && e.on == i).getD false
def waitB (md : Region.Mode) (ops : Array Oper) (N : Nat) : Bool := (List.range ops.size).all fun j => decide (j < N) || ((ops[j]?).map fun o => o.after.any fun e => Region.binds md e && (e.on == N - 1 || (decide (N ≤ e.on) && decide (e.on < ops.size)))).getD false
def Closed (md : Region.Mode) (ops : Array Oper) (listed : Array Bool) : Prop := ∀ j o, ops[j]? = some o → listed.getD j false = true → ∀ e ∈ o.after, Region.binds md e = true → listed.getD e.on false = true
def Above (ops : Array Oper) (N : Nat) (listed : Array Bool) : Prop := ∀ j, N ≤ j → j < ops.size → listed.getD j true = false
theorem yes_no {listed : Array Bool} {i : Nat} (h : listed.getD i false = true) (h' : listed.getD i true = false) : False := by
  rcases Nat.lt_or_ge i listed.size with k | k
  · simp [k] at h h'
    rw [h] at h'
    cases h'
  · simp [Array.getElem?_eq_none k] at h
theorem closed_set {listed : Array Bool} (h : Closed md ops listed) {j : Nat} (hj : j ∈ Region.ready md ops listed) : Closed md ops (listed.setIfInBounds j true) := fun k o ho hk e he hb => by
  by_cases hkj : j = k
  · subst hkj
    obtain ⟨_, o', ho', hall⟩ := mem_ready.1 hj
    obtain rfl := Option.some.inj (ho.symm.trans ho')
    exact getD_set_true (hall e he hb)
  · rw [getD_set_ne false hkj] at hk
    exact getD_set_true (h k o ho hk e he hb)
theorem above_set {listed : Array Bool} {N : Nat} (h : Above ops N listed) {j : Nat} (hj : j < N) : Above ops N (listed.setIfInBounds j true) := fun k hk hs => by
  rw [getD_set_ne true (by omega)]
  exact h k hk hs
theorem all_below {listed : Array Bool} {N : Nat} (hc : Closed md ops listed) (hl : linkB md ops N = true) (hN : listed.getD (N - 1) false = true) : ∀ (d i : Nat), i + d = N - 1 → i < N → listed.getD i false = true := by
  intro d
  induction d using Nat.strongRecOn with
  | ind d ih =>
    intro i hid hi
    by_cases hd : d = 0
    · rw [show i = N - 1 by omega]
      exact hN
    · have h1 := List.all_eq_true.1 hl i (List.mem_range.2 (by omega))
      obtain ⟨k, hk, h2⟩ := List.any_eq_true.1 h1
      have hkN := List.mem_range.1 hk
      simp only [Bool.and_eq_true, decide_eq_true_eq] at h2
      obtain ⟨hik, h3⟩ := h2
      cases ho : ops[k]? with
      | none => simp [ho] at h3
      | some o =>
        simp only [ho, Option.map_some, Option.getD_some] at h3
        obtain ⟨x, hx, hxe⟩ := Array.any_eq_true'.1 h3
        simp only [Bool.and_eq_true, beq_iff_eq] at hxe
        have hkl := ih (N - 1 - k) (by omega) k (by omega) hkN
        have := hc k o ho hkl x hx hxe.1
        rw [hxe.2] at this
        exact this
theorem wait_for {listed : Array Bool} {N : Nat} (hc : Closed md ops listed) (ha : Above ops N listed) (hl : linkB md ops N = true) (hw : waitB md ops N = true) {i j : Nat} (hi : i < N) (hun : listed.getD i true = false) (hj : j ∈ Region.ready md ops listed) : j < N := by
  rcases Nat.lt_or_ge j N with h | h
  · exact h
  · exfalso
    obtain ⟨_, o, ho, hall⟩ := mem_ready.1 hj
    have hsz : j < ops.size := (Array.getElem?_eq_some_iff.1 ho).1
    have h1 := List.all_eq_true.1 hw j (List.mem_range.2 hsz)
    simp only [ho, Option.map_some, Option.getD_some, Bool.or_eq_true, decide_eq_true_eq] at h1
    rcases h1 with h1 | h1
    · omega
    · obtain ⟨x, hx, hxe⟩ := Array.any_eq_true'.1 h1
      simp only [Bool.and_eq_true, Bool.or_eq_true, beq_iff_eq, decide_eq_true_eq] at hxe
      have hlx := hall x hx hxe.1
      rcases hxe.2 with e | ⟨e1, e2⟩
      · rw [e] at hlx
        exact yes_no (all_below hc hl hlx (N - 1 - i) i (by omega) hi) hun
      · exact yes_no hlx (ha x.on e1 e2)
theorem wpAny_of_mix {N : Nat} {R : Array Bool → Act → Prop} {Q' : Exit → Act → World → Prop} {f : Nat} (hR : ∀ listed a w, C w → R listed a → wpAny P md ops Q' f listed a w) :
    ∀ (m : Nat) (listed : Array Bool) (a : Act) (w : World), C w → wpMix P md ops C N R m listed a → wpAny P md ops Q' (f + m) listed a w
  | 0, _, _, _, hw, h => hR _ _ _ hw h
  | m + 1, _, _, _, hw, h => ⟨fun h0 => absurd h0 h.1, fun i hi => wpOp_of_qOp hw (fun a' w' hw' k => wpAny_of_mix hR m _ a' w' hw' k) (h.2 i hi).2⟩
theorem mix_first {N : Nat} {R : Array Bool → Act → Prop} (hRl : ∀ listed a, R listed a → ∀ j, j < N → listed.getD j false = true) (hl : linkB md ops N = true) (hwt : waitB md ops N = true) {i : Nat} {oi : Oper} {v : Value} (hi : ops[i]? = some oi) (hN : i < N) (hsel : ∀ (j : Nat) (o : Oper) cs b, ops[j]? = some o → o.op ≠ .select cs b) :
    ∀ (m : Nat) (listed : Array Bool) (a : Act), Closed md ops listed → Above ops N listed →
      (∀ j oj, ops[j]? = some oj → j ≠ i → listed.getD j true = false → (∀ e ∈ oj.after, Region.binds md e = true → e.on ≠ i) → oi.apart ops oj = true) →
      i ∈ Region.ready md ops listed → YieldsIn P ops C oi v a →
      wpMix P md ops C N R m (listed.setIfInBounds i true) (a.put oi.dst v) → wpMix P md ops C N R (m + 1) listed a := by
  intro m
  induction m with
  | zero =>
    intro listed a hc ha _ hr hy H
    refine ⟨fun h => (by rw [h] at hr; cases hr), fun j hj => ?_⟩
    have hjN := wait_for hc ha hl hwt hN (mem_ready.1 hr).1 hj
    by_cases hji : j = i
    · subst hji
      exact ⟨hjN, hy.qOp hi H⟩
    · have h1 := hRl _ _ H j hjN
      rw [getD_set_ne false (Ne.symm hji)] at h1
      exact absurd (mem_ready.1 hj).1 (fun h => yes_no h1 h)
  | succ m ih =>
    intro listed a hc ha hfree hr hy H
    refine ⟨fun h => (by rw [h] at hr; cases hr), fun j hj => ?_⟩
    by_cases hji : j = i
    · subst hji
      exact ⟨hN, hy.qOp hi H⟩
    · obtain ⟨hjN, h1⟩ := H.2 j (ready_mono hj hji)
      refine ⟨hjN, ?_⟩
      obtain ⟨hjun, oj, hoj, hall⟩ := mem_ready.1 hj
      have hnot : ∀ e ∈ oj.after, Region.binds md e = true → e.on ≠ i := fun e he hb heq => by
        have k1 := hall e he hb
        rw [heq] at k1
        exact yes_no k1 (mem_ready.1 hr).1
      have h2 := qOp_put hoj (hfree j oj hoj hji hjun hnot) (fun cs b => hsel i oi cs b hi) (fun cs b => hsel j oj cs b hoj) hy h1
      have hfree' : ∀ k ok, ops[k]? = some ok → k ≠ i → (listed.setIfInBounds j true).getD k true = false → (∀ e ∈ ok.after, Region.binds md e = true → e.on ≠ i) → oi.apart ops ok = true := fun k ok hk hki hun hno => by
        refine hfree k ok hk hki ?_ hno
        by_cases hjk : j = k
        · subst hjk
          exact hjun
        · rw [getD_set_ne true hjk] at hun
          exact hun
      refine qOp_mono (fun a' h3 => ih (listed.setIfInBounds j true) a' (closed_set hc hj) (above_set ha hjN) hfree' (ready_mono hr (Ne.symm hji)) h3.1 ?_) h2
      rw [Array.setIfInBounds_comm _ _ hji]
      exact h3.2
theorem mix_lex {N : Nat} {R : Array Bool → Act → Prop} (hRl : ∀ listed a, R listed a → ∀ j, j < N → listed.getD j false = true) (hl : linkB md ops N = true) (hwt : waitB md ops N = true) (hs : Region.noSelect ops = true) : ∀ (l : List Oper) (k : Nat) (listed : Array Bool) (a : Act), k + l.length ≤ N → (∀ j, j < l.length → l[j]? = ops[k + j]?) →
    lexP md ops l.length k listed = true → Closed md ops listed → Above ops N listed → wpQuiet P ops C (fun a' => R (setN l.length k listed) a') l a → wpMix P md ops C N R l.length listed a
  | [], _, _, _, _, _, _, _, _, h => h
  | o :: l, k, listed, a, hk, hll, hB, hc, ha, h => by
    have h0 : ops[k]? = some o := by simpa using (hll 0 (by simp)).symm
    simp only [List.length_cons] at hk
    simp only [List.length_cons, lexP, Bool.and_eq_true] at hB
    obtain ⟨⟨hr, hf⟩, hB'⟩ := hB
    have hr' : k ∈ Region.ready md ops listed := by simpa using hr
    have hst : qOp P ops C k (wpQuiet P ops C (fun a' => R (setN (o :: l).length k listed) a') l) a := by unfold qOp; simp only [h0]; exact h
    obtain ⟨v, hy, hK⟩ := yieldsIn_of_qOp h0 hst
    exact mix_first hRl hl hwt h0 (by omega) (Region.noSelect_spec hs) l.length listed a hc ha (Region.free_spec h0 hf) hr' hy
      (mix_lex hRl hl hwt hs l (k + 1) _ _ (by omega) (fun j hj => by have := hll (j + 1) (by simpa using hj); simpa [Nat.add_assoc, Nat.add_comm 1 j] using this) hB' (closed_set hc hr') (above_set ha (by omega)) hK)
end
theorem any_prefix {P : Program} {C : World → Prop} {Q : Exit → Act → World → Prop} {big : List Oper} (n f : Nat) {a : Act} {w : World} (hn : n ≤ big.length) (hs : Region.noSelect big.toArray = true) (hB : lexP .any big.toArray n 0 (Array.replicate big.length false) = true) (hl : linkB .any big.toArray n = true) (hwt : waitB .any big.toArray n = true)
    (hA : ((List.range n).all fun j => (setN n 0 (Array.replicate big.length false)).getD j false) = true) (hw : C w)
    (h : wpQuiet P big.toArray C (fun a' => ∀ w', C w' → wpAny P .any big.toArray Q f (setN n 0 (Array.replicate big.length false)) a' w') (big.take n) a) : wpAny P .any big.toArray Q (f + n) (Array.replicate big.length false) a w := by
  have hlen : (big.take n).length = n := by rw [List.length_take]; omega
  have hAll : ∀ j, j < n → (setN n 0 (Array.replicate big.length false)).getD j false = true := fun j hj => List.all_eq_true.1 hA j (List.mem_range.2 hj)
  have hm := mix_lex (P := P) (md := .any) (ops := big.toArray) (C := C) (N := n) (R := fun listed a => (∀ j, j < n → listed.getD j false = true) ∧ ∀ w', C w' → wpAny P .any big.toArray Q f listed a w') (fun _ _ h => h.1) hl hwt hs (big.take n) 0 (Array.replicate big.length false) a (by omega)
    (fun j hj => by rw [hlen] at hj; simp [hj]) (by rw [hlen]; exact hB)
    (fun j o _ hj => by
      exfalso
      by_cases hjl : j < big.length
      · simp [hjl] at hj
      · simp [Array.getElem?_eq_none (show (Array.replicate big.length false).size ≤ j by simp; omega)] at hj)
    (fun j _ hj => by
      have hj' : j < big.length := by simpa using hj
      simp [hj'])
    (by rw [hlen]; exact wpQuiet_mono (fun a' h => ⟨hAll, h⟩) _ _ h)
  rw [hlen] at hm
  exact wpAny_of_mix (N := n) (R := fun listed a => (∀ j, j < n → listed.getD j false = true) ∧ ∀ w', C w' → wpAny P .any big.toArray Q f listed a w') (fun _ _ w h1 h2 => h2.2 w h1) n _ a w hw hm
section
variable {P : Program} {ops : Array Oper} {Q : Exit → Act → World → Prop} {md : Region.Mode}
theorem op_call {i : Nat} {o : Oper} {g : FuncId} {xs : Array Operand} {ats : Array TypeId} {d : Tmp} {args : Array Value} {T : Value → World → Prop} {K : Act → World → Prop} {a : Act} {w : World} (hi : ops[i]? = some o) (ho : o.op = .call { callee := .value (.func g), args := xs, argTypes := ats }) (hd : o.dst = some d) (hw : Region.wanted o (yielded ops a.tmps) = true)
    (ha : xs.map a.eval = args) (he : ∀ args w, (callFunc g args).run P w = .ok (.enter g args) w) (hc : Calls P g args w fun e w' => ∃ u, e = .returned u ∧ T u w') (h : ∀ u w', T u w' → K (a.put (some d) u) w') : wpOp P ops Q i K a w := by
  unfold wpOp
  simp only [hi, hw, if_true]
  left
  unfold Oper.wp
  have hx : execOp a.eval o = callFunc g args := by
    rw [← ha]
    simp [execOp, ho, resolve, invoke, Act.eval, Deferred.ofValue]
  rw [hx, he]
  refine hc.mono ?_
  rintro e w' ⟨u, rfl, hT⟩
  rw [hd]
  exact h u w' hT
end
end Go.Proofs.YtdgolaaheakfoaaGreatDoor.ctr
namespace Go.Proofs.YtdgolaaheakfoaaGreatDoor.ctr
open Go.RowKit
def cmpI (a b : Int) : Int := if a < b then -1 else if b < a then 1 else 0
def or3 (x y z : Int) : Int := if x ≠ 0 then x else if y ≠ 0 then y else z
theorem cmpI_cases (a b : Int) : (a < b ∧ cmpI a b = -1) ∨ (a = b ∧ cmpI a b = 0) ∨ (b < a ∧ cmpI a b = 1) := by
  unfold cmpI
  rcases Int.lt_trichotomy a b with h | h | h
  · exact .inl ⟨h, by rw [if_pos h]⟩
  · exact .inr (.inl ⟨h, by rw [if_neg (by omega), if_neg (by omega)]⟩)
  · exact .inr (.inr ⟨h, by rw [if_neg (by omega), if_pos h]⟩)
theorem or_lt (a b : PSeg) : decide (or3 (cmpI a.s.fr b.s.fr) (cmpI a.s.to b.s.to) (cmpI a.at' b.at') < 0) = ltP a b := by
  have e : ∀ x y : Bool, (x = true ↔ y = true) → x = y := by decide
  apply e
  rw [ltP_iff, decide_eq_true_eq]
  unfold or3
  rcases cmpI_cases a.s.fr b.s.fr with ⟨h, k⟩ | ⟨h, k⟩ | ⟨h, k⟩ <;> rw [k]
  · simp; omega
  · rcases cmpI_cases a.s.to b.s.to with ⟨h', k'⟩ | ⟨h', k'⟩ | ⟨h', k'⟩ <;> rw [k']
    · simp; omega
    · rcases cmpI_cases a.at' b.at' with ⟨h2, k2⟩ | ⟨h2, k2⟩ | ⟨h2, k2⟩ <;> rw [k2] <;> simp <;> omega
    · simp; omega
  · simp; omega
def psK : IK PSeg := ⟨6, fun p => [p.s.fr, p.s.to, p.s.cal, p.s.sty, p.s.off, p.at'], fun zs => ⟨⟨zs.getD 0 0, zs.getD 1 0, zs.getD 2 0, zs.getD 3 0, zs.getD 4 0⟩, zs.getD 5 0⟩, p0, fun _ => rfl, fun zs h => by
  match zs, h with
  | [_, _, _, _, _, _], _ => rfl⟩
theorem IAt.ps {w : World} {g k : Nat} {r : PSeg} (h : IAt psK w g k r) : w.cell? ⟨g, k * 6, none⟩ = some (.int .i64 r.s.fr) ∧ w.cell? ⟨g, k * 6 + 1, none⟩ = some (.int .i64 r.s.to) ∧ w.cell? ⟨g, k * 6 + 2, none⟩ = some (.int .i64 r.s.cal) ∧ w.cell? ⟨g, k * 6 + 3, none⟩ = some (.int .i64 r.s.sty) ∧ w.cell? ⟨g, k * 6 + 4, none⟩ = some (.int .i64 r.s.off) ∧ w.cell? ⟨g, k * 6 + 5, none⟩ = some (.int .i64 r.at') :=
  ⟨h 0 _ rfl, h 1 _ rfl, h 2 _ rfl, h 3 _ rfl, h 4 _ rfl, h 5 _ rfl⟩
theorem cmpNaN (a : Int) (w : World) : Calls Tryz.prog 282 #[.int .i64 a] w fun e w' => e = .returned (.bool false) ∧ w' = w := by
  go_enter Tryz.func282, Tryz.ntmps282
  go_wp2
  go_ret
  exact ⟨rfl, rfl⟩
theorem cmpCmp (a b : Int) (w : World) : Calls Tryz.prog 281 #[.int .i64 a, .int .i64 b] w fun e w' => e = .returned (.int .i64 (cmpI a b)) ∧ w' = w := by
  unfold cmpI
  by_cases h1 : a < b
  · rw [if_pos h1]
    go_enter Tryz.func281, Tryz.ntmps281
    go_wp2_with (go_at_call 282; refine (cmpNaN _ _).mono ?_; rintro e w1 ⟨rfl, rfl⟩)
    go_ret
    exact ⟨rfl, rfl⟩
  rw [if_neg h1]
  by_cases h2 : b < a
  · rw [if_pos h2]
    go_enter Tryz.func281, Tryz.ntmps281
    go_wp2_with (go_at_call 282; refine (cmpNaN _ _).mono ?_; rintro e w1 ⟨rfl, rfl⟩)
    go_ret
    exact ⟨rfl, rfl⟩
  rw [if_neg h2]
  go_enter Tryz.func281, Tryz.ntmps281
  go_wp2_with (go_at_call 282; refine (cmpNaN _ _).mono ?_; rintro e w1 ⟨rfl, rfl⟩)
  go_ret
  exact ⟨rfl, rfl⟩
set_option maxHeartbeats 1000000 in
theorem cmpOr (x y z : Int) (g : Nat) (w : World) (h0 : w.cell? ⟨g, 0, none⟩ = some (.int .i64 x)) (h1 : w.cell? ⟨g, 1, none⟩ = some (.int .i64 y)) (h2 : w.cell? ⟨g, 2, none⟩ = some (.int .i64 z)) : Calls Tryz.prog 280 #[.slice (some ⟨g, 0, none⟩) 3 3] w fun e w' => e = .returned (.int .i64 (or3 x y z)) ∧ w' = w := by
  obtain ⟨R, hR⟩ : ∃ R, R = or3 x y z := ⟨_, rfl⟩
  have HR := hideP hR
  rw [← hR]
  clear hR
  go_enter Tryz.func280, Tryz.ntmps280
  go_wp2
  go_loopw [8] (fun i wr => ∃ k : Nat, k ≤ 3 ∧ i = .int .i64 (k : Int) ∧ Hid ((0 < k → x = 0) ∧ (1 < k → y = 0) ∧ (2 < k → z = 0)) ∧ wr = w) (fun i _ => 3 - (intOf i).toNat)
  case atStart => exact ⟨0, by omega, rfl, ⟨by omega, by omega, by omega⟩, rfl⟩
  case round =>
    obtain ⟨k, hk, rfl, HH, rfl⟩ := hrel
    have k0 := HH.out.1
    have k1 := HH.out.2.1
    have k2 := HH.out.2.2
    clear HH
    rcases (show k = 0 ∨ k = 1 ∨ k = 2 ∨ k = 3 by omega) with rfl | rfl | rfl | rfl
    · clear k0 k1 k2
      by_cases hx : x = 0
      · have HN : Hid ((0 < 1 → x = 0) ∧ (1 < 1 → y = 0) ∧ (2 < 1 → z = 0)) := ⟨fun _ => hx, by omega, by omega⟩
        have hq : (x == 0) = true := by simp [hx]
        clear hx
        go_wp2
        exact ⟨⟨1, by omega, rfl, HN.out, trivial⟩, by simp [intOf]⟩
      · have hq : (x == 0) = false := by simp [hx]
        have HN : Hid (R = x) := by unfold Hid; rw [HR.out, or3, if_pos hx]
        go_wp2
        go_ret
        exact ⟨ret_int HN.out.symm, rfl⟩
    · have HX := hideP (k0 (by omega))
      clear k0 k1 k2
      by_cases hy : y = 0
      · have HN : Hid ((0 < 2 → x = 0) ∧ (1 < 2 → y = 0) ∧ (2 < 2 → z = 0)) := ⟨fun _ => HX.out, fun _ => hy, by omega⟩
        have hq : (y == 0) = true := by simp [hy]
        clear hy
        go_wp2
        exact ⟨⟨2, by omega, rfl, HN.out, trivial⟩, by simp [intOf]⟩
      · have hq : (y == 0) = false := by simp [hy]
        have HN : Hid (R = y) := by unfold Hid; rw [HR.out, or3, if_neg (by simp [HX.out]), if_pos hy]
        go_wp2
        go_ret
        exact ⟨ret_int HN.out.symm, rfl⟩
    · have HX := hideP (k0 (by omega))
      have HY := hideP (k1 (by omega))
      clear k0 k1 k2
      have HN : Hid (R = z) := by unfold Hid; rw [HR.out, or3, if_neg (by simp [HX.out]), if_neg (by simp [HY.out])]
      by_cases hz : z = 0
      · have HM : Hid ((0 < 3 → x = 0) ∧ (1 < 3 → y = 0) ∧ (2 < 3 → z = 0)) := ⟨fun _ => HX.out, fun _ => HY.out, fun _ => hz⟩
        have hq : (z == 0) = true := by simp [hz]
        clear hz
        go_wp2
        exact ⟨⟨3, by omega, rfl, HM.out, trivial⟩, by simp [intOf]⟩
      · have hq : (z == 0) = false := by simp [hz]
        go_wp2
        go_ret
        exact ⟨ret_int HN.out.symm, rfl⟩
    · have HN : Hid (R = 0) := by unfold Hid; rw [HR.out, or3, if_neg (by simp [k0 (by omega)]), if_neg (by simp [k1 (by omega)]), k2 (by omega)]
      clear k0 k1 k2
      go_wp2
      go_ret
      exact ⟨ret_int HN.out.symm, rfl⟩
end Go.Proofs.YtdgolaaheakfoaaGreatDoor.ctr
