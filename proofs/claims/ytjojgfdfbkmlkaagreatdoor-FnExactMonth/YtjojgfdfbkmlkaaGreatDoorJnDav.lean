/- Segments and patches: a struct of five ints, one of three; contracts of the laws' own helpers over them: how long all is, copies, two lists alike are told alike. What a style is, and its name: the model's StyleName and the program's styleOk answer their plain functions at every number. -/
import Derived.Test.YtjojgfdfbkmlkaaGreatDoorJnDaq
import Derived.Test.YtjojgfdfbkmlkaaGreatDoorSrtPlainD
import Derived.Laws.MakeOwn
import Derived.Deep.RegionWith
import Derived.Test.YtjojgfdfbkmlkaaGreatDoorJnDaa
import Derived.Test.YtjojgfdfbkmlkaaGreatDoorJnDac
namespace Go.Proofs.YtjojgfdfbkmlkaaGreatDoor.ctr
open Go.RowKit
structure Pat where
  day : Int
  mon : Int
  dom : Int
  deriving DecidableEq
def pt0 : Pat := ⟨0, 0, 0⟩
def segK : IK Seg := ⟨5, fun s => [s.fr, s.to, s.cal, s.sty, s.off], fun zs => ⟨zs.getD 0 0, zs.getD 1 0, zs.getD 2 0, zs.getD 3 0, zs.getD 4 0⟩, s0, fun _ => rfl, fun zs h => by
  match zs, h with
  | [_, _, _, _, _], _ => rfl⟩
def patK : IK Pat := ⟨3, fun s => [s.day, s.mon, s.dom], fun zs => ⟨zs.getD 0 0, zs.getD 1 0, zs.getD 2 0⟩, pt0, fun _ => rfl, fun zs h => by
  match zs, h with
  | [_, _, _], _ => rfl⟩
theorem addI_off (x : Addr) (n j : Nat) (h : 0 < j) : x.add (n + j) = ⟨(x.add n).block, (x.add n).off + j, none⟩ := by
  unfold Addr.add
  rw [if_neg (by omega)]
  split
  · rename_i e
    subst e
    simp
  · simp only [Nat.add_assoc]
theorem same_bel {W w' : World} (h : w' = W) : Below W.heap.size W w' := by rw [h]; exact Below.refl _ _
theorem IAt.seg {w : World} {g k : Nat} {r : Seg} (h : IAt segK w g k r) : w.cell? ⟨g, k * 5, none⟩ = some (.int .i64 r.fr) ∧ w.cell? ⟨g, k * 5 + 1, none⟩ = some (.int .i64 r.to) ∧ w.cell? ⟨g, k * 5 + 2, none⟩ = some (.int .i64 r.cal) ∧ w.cell? ⟨g, k * 5 + 3, none⟩ = some (.int .i64 r.sty) ∧ w.cell? ⟨g, k * 5 + 4, none⟩ = some (.int .i64 r.off) :=
  ⟨h 0 _ rfl, h 1 _ rfl, h 2 _ rfl, h 3 _ rfl, h 4 _ rfl⟩
theorem IIn.atSegment {w : World} {a : Option Addr} {len cap : Nat} {l : List Seg} (h : IIn segK w a len cap l) {k : Nat} (hk : k < len) : ∃ x, a = some x ∧ ∀ y : Later w, y.w.cell? (x.add (k * 5)) = some (.int .i64 (atK segK l k).fr) ∧ y.w.cell? ⟨(x.add (k * 5)).block, (x.add (k * 5)).off + 1, none⟩ = some (.int .i64 (atK segK l k).to) ∧ y.w.cell? ⟨(x.add (k * 5)).block, (x.add (k * 5)).off + 2, none⟩ = some (.int .i64 (atK segK l k).cal) ∧ y.w.cell? ⟨(x.add (k * 5)).block, (x.add (k * 5)).off + 3, none⟩ = some (.int .i64 (atK segK l k).sty) ∧ y.w.cell? ⟨(x.add (k * 5)).block, (x.add (k * 5)).off + 4, none⟩ = some (.int .i64 (atK segK l k).off) := by
  obtain ⟨_, _, _, ⟨_, h0⟩ | ⟨x, hx, h⟩⟩ := h
  · omega
  · have h0 : w.cell? (x.add (k * 5 + 0)) = _ := h k hk 0 _ rfl
    have h1 : w.cell? (x.add (k * 5 + 1)) = _ := h k hk 1 _ rfl
    have h2 : w.cell? (x.add (k * 5 + 2)) = _ := h k hk 2 _ rfl
    have h3 : w.cell? (x.add (k * 5 + 3)) = _ := h k hk 3 _ rfl
    have h4 : w.cell? (x.add (k * 5 + 4)) = _ := h k hk 4 _ rfl
    rw [addI_off x _ _ (by omega)] at h1
    rw [addI_off x _ _ (by omega)] at h2
    rw [addI_off x _ _ (by omega)] at h3
    rw [addI_off x _ _ (by omega)] at h4
    exact ⟨x, hx, fun y => ⟨Later.at h0 y, Later.at h1 y, Later.at h2 y, Later.at h3 y, Later.at h4 y⟩⟩
theorem toSegment (a0 a1 a2 a3 a4 : Int) (w : World) : Calls Tryz.prog 116 #[.agg #[.int .i64 a0, .int .i64 a1, .int .i64 a2, .int .i64 a3, .int .i64 a4]] w fun e w' => e = .returned (.agg #[.int .i64 a0, .int .i64 a1, .int .i64 a2, .int .i64 a3, .int .i64 a4]) ∧ Below w.heap.size w w' := by
  go_enter Tryz.func116, Tryz.ntmps116
  go_wp2
  go_returns
  refine ⟨rfl, ?_⟩
  go_grown
theorem eqSegment1 (a0 a1 a2 a3 a4 : Int) (w : World) : Calls Tryz.prog 133 #[.agg #[.int .i64 a0, .int .i64 a1, .int .i64 a2, .int .i64 a3, .int .i64 a4], .agg #[.int .i64 a0, .int .i64 a1, .int .i64 a2, .int .i64 a3, .int .i64 a4]] w fun e w' => e = .returned (.bool true) ∧ Below w.heap.size w w' := by
  go_enter Tryz.func133, Tryz.ntmps133
  go_wp2
  go_ret
  exact ⟨rfl, ((Below.refl _ _).alloc (Nat.le_refl _) _).alloc (by rw [World.size_alloc]; omega) _⟩
theorem szSegmentS (a : Option Addr) (len cap : Nat) (left : Int) (w : World) (h0 : len ≤ cap) (h : cap ≤ maxLen) (h1 : 0 ≤ left) (h2 : left ≤ 1048576) : Calls Tryz.prog 54 #[.slice a len cap, .int .i64 left] w fun e w' => e = .returned (.int .i64 (if left < len then -1 else left - len)) ∧ w' = w := by
  unfold maxLen at h
  by_cases hl : left < len
  · rw [if_pos hl]
    go_enter Tryz.func54, Tryz.ntmps54
    go_wp2
    go_ret
    exact ⟨rfl, rfl⟩
  · rw [if_neg hl]
    go_enter Tryz.func54, Tryz.ntmps54
    go_wp2
    go_ret
    exact ⟨rfl, rfl⟩
theorem info_seg : (Tryz.prog.info? 92).map (fun i => (i.zero, i.size, i.bytes)) = some (some (.agg #[.int .i64 0, .int .i64 0, .int .i64 0, .int .i64 0, .int .i64 0]), 5, 40) := by kernel_rfl
def segzero : Array Value := #[.int .i64 0, .int .i64 0, .int .i64 0, .int .i64 0, .int .i64 0]
theorem make_seg (n : Nat) (hn : n ≤ 1048576) (W : World) : (Instr.makeSlice 32 (.int .i64 (n : Int)) (.int .i64 (n : Int))).run Tryz.prog W = .ok (.slice (some ⟨W.heap.size, 0, none⟩) n n) (W.alloc (.cells (madeCells segzero (n * 5)) 92)) := by
  obtain ⟨i0, hi, e⟩ := Option.map_eq_some_iff.1 info_seg
  simp only [Prod.mk.injEq] at e
  obtain ⟨hz, hs, hb⟩ := e
  have h := run_make (P := Tryz.prog) W 32 92 i0 _ Tryz.underlying32 hi hz .i64 .i64 (n : Int) (n : Int) (by omega) (by omega) (by rw [hb]; omega) (by omega)
  rw [hs] at h
  simp only [Int.toNat_natCast] at h
  exact h
set_option maxHeartbeats 1000000 in
theorem toSegmentS (a : Option Addr) (len cap : Nat) (l : List Seg) (w : World) (h : IIn segK w a len cap l) (hs : l.length ≤ 1048576) : Calls Tryz.prog 62 #[.slice a len cap] w fun e w' => ∃ v, e = .returned v ∧ INew segK w w' v l ∧ Below w.heap.size w w' := by
  have hlen := h.1
  have hl : len ≤ 1048576 := by rw [← hlen]; exact hs
  have H := hideP h
  have HL := hideP hlen
  have hmk := make_seg len hl
  have hpart : Hid (iPart segK l 0 (madeCells segzero (len * 5))) := ⟨by rw [size_madeCells, hlen]; rfl, fun j hj => by simp at hj⟩
  clear h hs hlen
  go_enter Tryz.func62, Tryz.ntmps62
  go_wp2
  go_loopw [4] (fun i wr => ∃ (k : Nat) (cs : Array Value), k ≤ len ∧ i = .int .i64 (k : Int) ∧ iPart segK l k cs ∧ Blk wr w.heap.size cs 92 ∧ Below w.heap.size w wr) (fun i _ => len - (intOf i).toNat)
  case atStart => exact ⟨0, _, Nat.zero_le _, rfl, hpart.out, Blk.new w _ _, (Below.refl _ _).alloc (Nat.le_refl _) _⟩
  case round =>
    obtain ⟨k, cs, hk, rfl, hp, hb, hB⟩ := hrel
    have HB := hideP hB
    have HP := hideP hp
    have HK := hideP hb
    clear hB hp hb
    by_cases hlt : k < len
    · obtain ⟨x, rfl, hx⟩ := H.out.atSegment hlt
      obtain ⟨c0, c1, c2, c3, c4⟩ := hx ⟨wr, HB.out⟩
      dsimp only at c0 c1 c2 c3 c4
      have HN := hideP (iPart_next HP.out (by rw [HL.out]; exact hlt))
      have hm : Hid (∀ r : Seg, setI cs (k * 5) 0 (segK.iv r) = (((((cs.setIfInBounds (k * 5 + 0) (.int .i64 r.fr)).setIfInBounds (k * 5 + 1) (.int .i64 r.to)).setIfInBounds (k * 5 + 2) (.int .i64 r.cal)).setIfInBounds (k * 5 + 3) (.int .i64 r.sty)).setIfInBounds (k * 5 + 4) (.int .i64 r.off))) := fun r => rfl
      clear hx
      generalize atK segK l k = r at *
      go_wp2_with fail
      refine (toSegment _ _ _ _ _ _).mono ?_
      rintro e w1 ⟨rfl, hb⟩
      have HB1 : Hid (Below w.heap.size w w1) := HB.out.trans (hb.mono HB.out.size)
      have HK1 := HK.out.below hb HK.out.lt
      clear hb c0 c1 c2 c3 c4 hmk
      have hsz : cs.size = len * 5 := by rw [HP.out.1, HL.out]; rfl
      have d0 := HK1.cell (k * 5) (v := cs[k * 5]'(by omega)) (by simp)
      have d1 := HK1.cell (k * 5 + 1) (v := cs[k * 5 + 1]'(by omega)) (by simp)
      have d2 := HK1.cell (k * 5 + 2) (v := cs[k * 5 + 2]'(by omega)) (by simp)
      have d3 := HK1.cell (k * 5 + 3) (v := cs[k * 5 + 3]'(by omega)) (by simp)
      have d4 := HK1.cell (k * 5 + 4) (v := cs[k * 5 + 4]'(by omega)) (by simp)
      have t0 := HK1.thaw (k * 5)
      have t1 := HK1.thaw (k * 5 + 1)
      have t2 := HK1.thaw (k * 5 + 2)
      have t3 := HK1.thaw (k * 5 + 3)
      have t4 := HK1.thaw (k * 5 + 4)
      have HS := hideP HK1
      generalize cs[k * 5]'(by omega) = v0 at d0
      generalize cs[k * 5 + 1]'(by omega) = v1 at d1
      generalize cs[k * 5 + 2]'(by omega) = v2 at d2
      generalize cs[k * 5 + 3]'(by omega) = v3 at d3
      generalize cs[k * 5 + 4]'(by omega) = v4 at d4
      clear HK1 hsz
      go_wp2
      refine ⟨⟨k + 1, _, by omega, by go_num, HN.out, ?_, (below_store (below_store (below_store (below_store (below_store HB1.out _ (Nat.le_refl _)) _ (Nat.le_refl _)) _ (Nat.le_refl _)) _ (Nat.le_refl _)) _ (Nat.le_refl _))⟩, by simp [intOf]; omega⟩
      rw [show setI cs (k * segK.m) 0 (segK.iv r) = _ from hm.out r]
      exact (((((HS.out.set _ _).set _ _).set _ _).set _ _).set _ _)
    · have hkn : k = l.length := by rw [HL.out]; omega
      have HP' := HP.out
      rw [hkn] at HP'
      have HC := hideP (iPart_all HP')
      clear HP' hkn
      go_wp2
      go_ret
      exact ⟨.slice (some ⟨w.heap.size, 0, none⟩) len len, rfl, ⟨w.heap.size, 92, by rw [HL.out], Nat.le_refl _, by rw [← HC.out]; exact HK.out⟩, HB.out⟩
set_option maxHeartbeats 1000000 in
theorem eqSegmentS (v1 v2 : Value) (l : List Seg) (w : World) (h1 : IRow segK w v1 l) (h2 : IRow segK w v2 l) : Calls Tryz.prog 73 #[v1, v2] w fun e w' => e = .returned (.bool true) ∧ Below w.heap.size w w' := by
  obtain ⟨a1, c1, rfl, l1, m1, H1⟩ := h1
  obtain ⟨a2, c2, rfl, _, _, H2⟩ := h2
  have K1 := hideP H1
  have K2 := hideP H2
  unfold maxLen at m1
  clear H1 H2
  go_enter Tryz.func73, Tryz.ntmps73
  go_wp2
  go_loopw [5] (fun i wr => ∃ k : Nat, k ≤ l.length ∧ i = .int .i64 (k : Int) ∧ Below w.heap.size w wr) (fun i _ => l.length - (intOf i).toNat)
  case atStart => exact ⟨0, Nat.zero_le _, rfl, Below.refl _ _⟩
  case round =>
    obtain ⟨k, hk, rfl, hB⟩ := hrel
    have HB := hideP hB
    clear hB
    by_cases hlt : k < l.length
    · obtain ⟨g1, rfl, hg1, x1⟩ := K1.out k hlt
      obtain ⟨g2, rfl, hg2, x2⟩ := K2.out k hlt
      obtain ⟨a0, a1, a2, a3, a4⟩ := (x1.below HB.out hg1).seg
      obtain ⟨b0, b1, b2, b3, b4⟩ := (x2.below HB.out hg2).seg
      clear x1 x2
      generalize atK segK l k = r at *
      go_wp2
      go_region_with (go_at_call 133; refine (eqSegment1 _ _ _ _ _ _).mono ?_; rintro e w2 ⟨rfl, hb2⟩; have HB2 : Hid (Below w.heap.size w w2) := HB.out.trans ⟨hb2.os, hb2.tape, hb2.output, Nat.le_trans (Nat.le_refl _) hb2.size, fun j hj => hb2.block j (Nat.lt_of_lt_of_le hj HB.out.size)⟩; clear hb2)
      all_goals go_wp2
      all_goals exact ⟨⟨k + 1, by omega, by go_num, HB2.out⟩, by simp [intOf]; omega⟩
    · go_wp2
      go_ret
      exact ⟨rfl, HB.out⟩
theorem IAt.pat {w : World} {g k : Nat} {r : Pat} (h : IAt patK w g k r) : w.cell? ⟨g, k * 3, none⟩ = some (.int .i64 r.day) ∧ w.cell? ⟨g, k * 3 + 1, none⟩ = some (.int .i64 r.mon) ∧ w.cell? ⟨g, k * 3 + 2, none⟩ = some (.int .i64 r.dom) :=
  ⟨h 0 _ rfl, h 1 _ rfl, h 2 _ rfl⟩
theorem IIn.atPatch {w : World} {a : Option Addr} {len cap : Nat} {l : List Pat} (h : IIn patK w a len cap l) {k : Nat} (hk : k < len) : ∃ x, a = some x ∧ ∀ y : Later w, y.w.cell? (x.add (k * 3)) = some (.int .i64 (atK patK l k).day) ∧ y.w.cell? ⟨(x.add (k * 3)).block, (x.add (k * 3)).off + 1, none⟩ = some (.int .i64 (atK patK l k).mon) ∧ y.w.cell? ⟨(x.add (k * 3)).block, (x.add (k * 3)).off + 2, none⟩ = some (.int .i64 (atK patK l k).dom) := by
  obtain ⟨_, _, _, ⟨_, h0⟩ | ⟨x, hx, h⟩⟩ := h
  · omega
  · have h0 : w.cell? (x.add (k * 3 + 0)) = _ := h k hk 0 _ rfl
    have h1 : w.cell? (x.add (k * 3 + 1)) = _ := h k hk 1 _ rfl
    have h2 : w.cell? (x.add (k * 3 + 2)) = _ := h k hk 2 _ rfl
    rw [addI_off x _ _ (by omega)] at h1
    rw [addI_off x _ _ (by omega)] at h2
    exact ⟨x, hx, fun y => ⟨Later.at h0 y, Later.at h1 y, Later.at h2 y⟩⟩
theorem toPatch (a0 a1 a2 : Int) (w : World) : Calls Tryz.prog 117 #[.agg #[.int .i64 a0, .int .i64 a1, .int .i64 a2]] w fun e w' => e = .returned (.agg #[.int .i64 a0, .int .i64 a1, .int .i64 a2]) ∧ Below w.heap.size w w' := by
  go_enter Tryz.func117, Tryz.ntmps117
  go_wp2
  go_returns
  refine ⟨rfl, ?_⟩
  go_grown
theorem eqPatch1 (a0 a1 a2 : Int) (w : World) : Calls Tryz.prog 134 #[.agg #[.int .i64 a0, .int .i64 a1, .int .i64 a2], .agg #[.int .i64 a0, .int .i64 a1, .int .i64 a2]] w fun e w' => e = .returned (.bool true) ∧ Below w.heap.size w w' := by
  go_enter Tryz.func134, Tryz.ntmps134
  go_wp2
  go_ret
  exact ⟨rfl, ((Below.refl _ _).alloc (Nat.le_refl _) _).alloc (by rw [World.size_alloc]; omega) _⟩
theorem szPatchS (a : Option Addr) (len cap : Nat) (left : Int) (w : World) (h0 : len ≤ cap) (h : cap ≤ maxLen) (h1 : 0 ≤ left) (h2 : left ≤ 1048576) : Calls Tryz.prog 55 #[.slice a len cap, .int .i64 left] w fun e w' => e = .returned (.int .i64 (if left < len then -1 else left - len)) ∧ w' = w := by
  unfold maxLen at h
  by_cases hl : left < len
  · rw [if_pos hl]
    go_enter Tryz.func55, Tryz.ntmps55
    go_wp2
    go_ret
    exact ⟨rfl, rfl⟩
  · rw [if_neg hl]
    go_enter Tryz.func55, Tryz.ntmps55
    go_wp2
    go_ret
    exact ⟨rfl, rfl⟩
theorem info_pat : (Tryz.prog.info? 98).map (fun i => (i.zero, i.size, i.bytes)) = some (some (.agg #[.int .i64 0, .int .i64 0, .int .i64 0]), 3, 24) := by kernel_rfl
def patzero : Array Value := #[.int .i64 0, .int .i64 0, .int .i64 0]
theorem make_pat (n : Nat) (hn : n ≤ 1048576) (W : World) : (Instr.makeSlice 33 (.int .i64 (n : Int)) (.int .i64 (n : Int))).run Tryz.prog W = .ok (.slice (some ⟨W.heap.size, 0, none⟩) n n) (W.alloc (.cells (madeCells patzero (n * 3)) 98)) := by
  obtain ⟨i0, hi, e⟩ := Option.map_eq_some_iff.1 info_pat
  simp only [Prod.mk.injEq] at e
  obtain ⟨hz, hs, hb⟩ := e
  have h := run_make (P := Tryz.prog) W 33 98 i0 _ Tryz.underlying33 hi hz .i64 .i64 (n : Int) (n : Int) (by omega) (by omega) (by rw [hb]; omega) (by omega)
  rw [hs] at h
  simp only [Int.toNat_natCast] at h
  exact h
set_option maxHeartbeats 1000000 in
theorem toPatchS (a : Option Addr) (len cap : Nat) (l : List Pat) (w : World) (h : IIn patK w a len cap l) (hs : l.length ≤ 1048576) : Calls Tryz.prog 63 #[.slice a len cap] w fun e w' => ∃ v, e = .returned v ∧ INew patK w w' v l ∧ Below w.heap.size w w' := by
  have hlen := h.1
  have hl : len ≤ 1048576 := by rw [← hlen]; exact hs
  have H := hideP h
  have HL := hideP hlen
  have hmk := make_pat len hl
  have hpart : Hid (iPart patK l 0 (madeCells patzero (len * 3))) := ⟨by rw [size_madeCells, hlen]; rfl, fun j hj => by simp at hj⟩
  clear h hs hlen
  go_enter Tryz.func63, Tryz.ntmps63
  go_wp2
  go_loopw [4] (fun i wr => ∃ (k : Nat) (cs : Array Value), k ≤ len ∧ i = .int .i64 (k : Int) ∧ iPart patK l k cs ∧ Blk wr w.heap.size cs 98 ∧ Below w.heap.size w wr) (fun i _ => len - (intOf i).toNat)
  case atStart => exact ⟨0, _, Nat.zero_le _, rfl, hpart.out, Blk.new w _ _, (Below.refl _ _).alloc (Nat.le_refl _) _⟩
  case round =>
    obtain ⟨k, cs, hk, rfl, hp, hb, hB⟩ := hrel
    have HB := hideP hB
    have HP := hideP hp
    have HK := hideP hb
    clear hB hp hb
    by_cases hlt : k < len
    · obtain ⟨x, rfl, hx⟩ := H.out.atPatch hlt
      obtain ⟨c0, c1, c2⟩ := hx ⟨wr, HB.out⟩
      dsimp only at c0 c1 c2
      have HN := hideP (iPart_next HP.out (by rw [HL.out]; exact hlt))
      have hm : Hid (∀ r : Pat, setI cs (k * 3) 0 (patK.iv r) = (((cs.setIfInBounds (k * 3 + 0) (.int .i64 r.day)).setIfInBounds (k * 3 + 1) (.int .i64 r.mon)).setIfInBounds (k * 3 + 2) (.int .i64 r.dom))) := fun r => rfl
      clear hx
      generalize atK patK l k = r at *
      go_wp2_with fail
      refine (toPatch _ _ _ _).mono ?_
      rintro e w1 ⟨rfl, hb⟩
      have HB1 : Hid (Below w.heap.size w w1) := HB.out.trans (hb.mono HB.out.size)
      have HK1 := HK.out.below hb HK.out.lt
      clear hb c0 c1 c2 hmk
      have hsz : cs.size = len * 3 := by rw [HP.out.1, HL.out]; rfl
      have d0 := HK1.cell (k * 3) (v := cs[k * 3]'(by omega)) (by simp)
      have d1 := HK1.cell (k * 3 + 1) (v := cs[k * 3 + 1]'(by omega)) (by simp)
      have d2 := HK1.cell (k * 3 + 2) (v := cs[k * 3 + 2]'(by omega)) (by simp)
      have t0 := HK1.thaw (k * 3)
      have t1 := HK1.thaw (k * 3 + 1)
      have t2 := HK1.thaw (k * 3 + 2)
      have HS := hideP HK1
      generalize cs[k * 3]'(by omega) = v0 at d0
      generalize cs[k * 3 + 1]'(by omega) = v1 at d1
      generalize cs[k * 3 + 2]'(by omega) = v2 at d2
      clear HK1 hsz
      go_wp2
      refine ⟨⟨k + 1, _, by omega, by go_num, HN.out, ?_, (below_store (below_store (below_store HB1.out _ (Nat.le_refl _)) _ (Nat.le_refl _)) _ (Nat.le_refl _))⟩, by simp [intOf]; omega⟩
      rw [show setI cs (k * patK.m) 0 (patK.iv r) = _ from hm.out r]
      exact (((HS.out.set _ _).set _ _).set _ _)
    · have hkn : k = l.length := by rw [HL.out]; omega
      have HP' := HP.out
      rw [hkn] at HP'
      have HC := hideP (iPart_all HP')
      clear HP' hkn
      go_wp2
      go_ret
      exact ⟨.slice (some ⟨w.heap.size, 0, none⟩) len len, rfl, ⟨w.heap.size, 98, by rw [HL.out], Nat.le_refl _, by rw [← HC.out]; exact HK.out⟩, HB.out⟩
set_option maxHeartbeats 1000000 in
theorem eqPatchS (v1 v2 : Value) (l : List Pat) (w : World) (h1 : IRow patK w v1 l) (h2 : IRow patK w v2 l) : Calls Tryz.prog 74 #[v1, v2] w fun e w' => e = .returned (.bool true) ∧ Below w.heap.size w w' := by
  obtain ⟨a1, c1, rfl, l1, m1, H1⟩ := h1
  obtain ⟨a2, c2, rfl, _, _, H2⟩ := h2
  have K1 := hideP H1
  have K2 := hideP H2
  unfold maxLen at m1
  clear H1 H2
  go_enter Tryz.func74, Tryz.ntmps74
  go_wp2
  go_loopw [5] (fun i wr => ∃ k : Nat, k ≤ l.length ∧ i = .int .i64 (k : Int) ∧ Below w.heap.size w wr) (fun i _ => l.length - (intOf i).toNat)
  case atStart => exact ⟨0, Nat.zero_le _, rfl, Below.refl _ _⟩
  case round =>
    obtain ⟨k, hk, rfl, hB⟩ := hrel
    have HB := hideP hB
    clear hB
    by_cases hlt : k < l.length
    · obtain ⟨g1, rfl, hg1, x1⟩ := K1.out k hlt
      obtain ⟨g2, rfl, hg2, x2⟩ := K2.out k hlt
      obtain ⟨a0, a1, a2⟩ := (x1.below HB.out hg1).pat
      obtain ⟨b0, b1, b2⟩ := (x2.below HB.out hg2).pat
      clear x1 x2
      generalize atK patK l k = r at *
      go_wp2
      go_region_with (go_at_call 134; refine (eqPatch1 _ _ _ _).mono ?_; rintro e w2 ⟨rfl, hb2⟩; have HB2 : Hid (Below w.heap.size w w2) := HB.out.trans ⟨hb2.os, hb2.tape, hb2.output, Nat.le_trans (Nat.le_refl _) hb2.size, fun j hj => hb2.block j (Nat.lt_of_lt_of_le hj HB.out.size)⟩; clear hb2)
      all_goals go_wp2
      all_goals exact ⟨⟨k + 1, by omega, by go_num, HB2.out⟩, by simp [intOf]; omega⟩
    · go_wp2
      go_ret
      exact ⟨rfl, HB.out⟩
end Go.Proofs.YtjojgfdfbkmlkaaGreatDoor.ctr
namespace Go.Proofs.YtjojgfdfbkmlkaaGreatDoor.ctr
open Go.RowKit
def styleP (s : Int) : Prop := 0 ≤ s ∧ s ≤ 6
instance (s : Int) : Decidable (styleP s) := by unfold styleP; infer_instance
def styleB (s : Int) : Bool := decide (styleP s)
theorem styleB_true {s : Int} (h : styleP s) : styleB s = true := decide_eq_true h
theorem styleB_false {s : Int} (h : ¬ styleP s) : styleB s = false := decide_eq_false h
theorem style_cases {s : Int} (h : styleP s) : s = 0 ∨ s = 1 ∨ s = 2 ∨ s = 3 ∨ s = 4 ∨ s = 5 ∨ s = 6 := by unfold styleP at h; omega
def stys : List (List UInt8) := [[106, 97, 110], [109, 97, 114, 99, 104], [108, 97, 100, 121], [112, 105, 115, 97], [101, 97, 115, 116, 101, 114], [115, 101, 112, 116], [121, 117, 108, 101]]
def styText (s : Int) : ByteArray := ⟨(if styleP s then stys.getD s.toNat [] else []).toArray⟩
theorem styText_no {s : Int} (h : ¬ styleP s) : styText s = ⟨#[]⟩ := by unfold styText; rw [if_neg h]
theorem styText_some {s : Int} (h : styleP s) : (styText s).toList.isEmpty = false := by
  rw [ByteArray.toList_eq]
  rcases style_cases h with rfl | rfl | rfl | rfl | rfl | rfl | rfl <;> rfl
theorem styText_none {s : Int} (h : ¬ styleP s) : (styText s).toList.isEmpty = true := by rw [styText_no h, ByteArray.toList_eq]; rfl
theorem styleB_in (s : Int) : inB s 0 6 = styleB s := by
  by_cases h : styleP s
  · rw [styleB_true h, inB_true h.1 h.2]
  · rw [styleB_false h, inB_false]
    unfold styleP at h
    omega
def styVals : Array Value := (stys.map fun s => Value.string ⟨s.toArray⟩).toArray
theorem specNames (w : World) : Calls Tryz.prog 234 #[] w fun e w' => e = .returned (.slice (some ⟨w.heap.size, 0, none⟩) 7 7) ∧ w' = w.alloc (.cells styVals 9) := by
  go_enter Tryz.func234, Tryz.ntmps234
  go_wp2
  go_ret
  exact ⟨rfl, rfl⟩
set_option maxHeartbeats 400000 in
theorem specStyleName (s : Int) (w : World) : Calls Tryz.prog 177 #[.int .i64 s] w fun e w' => e = .returned (.string (styText s)) ∧ Below w.heap.size w w' := by
  have KI := l01In s 0 6 w
  rw [styleB_in] at KI
  by_cases h : styleP s
  · rw [styleB_true h] at KI
    rcases style_cases h with rfl | rfl | rfl | rfl | rfl | rfl | rfl
    · clear h
      go_enter Tryz.func177, Tryz.ntmps177
      go_wp2_with fail
      refine KI.mono ?_
      rintro e w1 ⟨rfl, hw0⟩
      rw [hw0]
      clear hw0
      go_wp2_with fail
      refine (specNames _).mono ?_
      rintro e w1 ⟨rfl, hw⟩
      have c : w1.cell? ⟨w.heap.size, 0, none⟩ = some (.string (styText 0)) := by rw [hw]; exact (Blk.new w styVals _).cell 0 rfl
      have HB : Hid (Below w.heap.size w w1) := by unfold Hid; rw [hw]; exact (Below.refl _ _).alloc (Nat.le_refl _) _
      clear hw
      go_wp2
      go_ret
      exact ⟨rfl, HB.out⟩
    · clear h
      go_enter Tryz.func177, Tryz.ntmps177
      go_wp2_with fail
      refine KI.mono ?_
      rintro e w1 ⟨rfl, hw0⟩
      rw [hw0]
      clear hw0
      go_wp2_with fail
      refine (specNames _).mono ?_
      rintro e w1 ⟨rfl, hw⟩
      have c : w1.cell? ⟨w.heap.size, 1, none⟩ = some (.string (styText 1)) := by rw [hw]; exact (Blk.new w styVals _).cell 1 rfl
      have HB : Hid (Below w.heap.size w w1) := by unfold Hid; rw [hw]; exact (Below.refl _ _).alloc (Nat.le_refl _) _
      clear hw
      go_wp2
      go_ret
      exact ⟨rfl, HB.out⟩
    · clear h
      go_enter Tryz.func177, Tryz.ntmps177
      go_wp2_with fail
      refine KI.mono ?_
      rintro e w1 ⟨rfl, hw0⟩
      rw [hw0]
      clear hw0
      go_wp2_with fail
      refine (specNames _).mono ?_
      rintro e w1 ⟨rfl, hw⟩
      have c : w1.cell? ⟨w.heap.size, 2, none⟩ = some (.string (styText 2)) := by rw [hw]; exact (Blk.new w styVals _).cell 2 rfl
      have HB : Hid (Below w.heap.size w w1) := by unfold Hid; rw [hw]; exact (Below.refl _ _).alloc (Nat.le_refl _) _
      clear hw
      go_wp2
      go_ret
      exact ⟨rfl, HB.out⟩
    · clear h
      go_enter Tryz.func177, Tryz.ntmps177
      go_wp2_with fail
      refine KI.mono ?_
      rintro e w1 ⟨rfl, hw0⟩
      rw [hw0]
      clear hw0
      go_wp2_with fail
      refine (specNames _).mono ?_
      rintro e w1 ⟨rfl, hw⟩
      have c : w1.cell? ⟨w.heap.size, 3, none⟩ = some (.string (styText 3)) := by rw [hw]; exact (Blk.new w styVals _).cell 3 rfl
      have HB : Hid (Below w.heap.size w w1) := by unfold Hid; rw [hw]; exact (Below.refl _ _).alloc (Nat.le_refl _) _
      clear hw
      go_wp2
      go_ret
      exact ⟨rfl, HB.out⟩
    · clear h
      go_enter Tryz.func177, Tryz.ntmps177
      go_wp2_with fail
      refine KI.mono ?_
      rintro e w1 ⟨rfl, hw0⟩
      rw [hw0]
      clear hw0
      go_wp2_with fail
      refine (specNames _).mono ?_
      rintro e w1 ⟨rfl, hw⟩
      have c : w1.cell? ⟨w.heap.size, 4, none⟩ = some (.string (styText 4)) := by rw [hw]; exact (Blk.new w styVals _).cell 4 rfl
      have HB : Hid (Below w.heap.size w w1) := by unfold Hid; rw [hw]; exact (Below.refl _ _).alloc (Nat.le_refl _) _
      clear hw
      go_wp2
      go_ret
      exact ⟨rfl, HB.out⟩
    · clear h
      go_enter Tryz.func177, Tryz.ntmps177
      go_wp2_with fail
      refine KI.mono ?_
      rintro e w1 ⟨rfl, hw0⟩
      rw [hw0]
      clear hw0
      go_wp2_with fail
      refine (specNames _).mono ?_
      rintro e w1 ⟨rfl, hw⟩
      have c : w1.cell? ⟨w.heap.size, 5, none⟩ = some (.string (styText 5)) := by rw [hw]; exact (Blk.new w styVals _).cell 5 rfl
      have HB : Hid (Below w.heap.size w w1) := by unfold Hid; rw [hw]; exact (Below.refl _ _).alloc (Nat.le_refl _) _
      clear hw
      go_wp2
      go_ret
      exact ⟨rfl, HB.out⟩
    · clear h
      go_enter Tryz.func177, Tryz.ntmps177
      go_wp2_with fail
      refine KI.mono ?_
      rintro e w1 ⟨rfl, hw0⟩
      rw [hw0]
      clear hw0
      go_wp2_with fail
      refine (specNames _).mono ?_
      rintro e w1 ⟨rfl, hw⟩
      have c : w1.cell? ⟨w.heap.size, 6, none⟩ = some (.string (styText 6)) := by rw [hw]; exact (Blk.new w styVals _).cell 6 rfl
      have HB : Hid (Below w.heap.size w w1) := by unfold Hid; rw [hw]; exact (Below.refl _ _).alloc (Nat.le_refl _) _
      clear hw
      go_wp2
      go_ret
      exact ⟨rfl, HB.out⟩
  · rw [styleB_false h] at KI
    rw [styText_no h]
    clear h
    go_enter Tryz.func177, Tryz.ntmps177
    go_wp2_with fail
    refine KI.mono ?_
    rintro e w1 ⟨rfl, rfl⟩
    go_wp2
    go_ret
    exact ⟨rfl, Below.refl _ _⟩
theorem implStyleOk (s : Int) (w : World) : Calls Tryz.prog 192 #[.int .i64 s] w fun e w' => e = .returned (.bool (styleB s)) ∧ w' = w := by
  by_cases h1 : 0 ≤ s
  · by_cases h2 : s < 7
    · rw [styleB_true ⟨h1, by omega⟩]
      go_enter Tryz.func192, Tryz.ntmps192
      go_wp2
      go_ret
      exact ⟨rfl, rfl⟩
    · rw [styleB_false (by unfold styleP; omega)]
      have hd : decide (s < 7) = false := decide_eq_false h2
      go_enter Tryz.func192, Tryz.ntmps192
      go_wp2
      go_ret
      exact ⟨rfl, rfl⟩
  · rw [styleB_false (by unfold styleP; omega)]
    have hd : decide (0 ≤ s) = false := decide_eq_false h1
    go_enter Tryz.func192, Tryz.ntmps192
    go_wp2
    go_ret
    exact ⟨rfl, rfl⟩
end Go.Proofs.YtjojgfdfbkmlkaaGreatDoor.ctr
