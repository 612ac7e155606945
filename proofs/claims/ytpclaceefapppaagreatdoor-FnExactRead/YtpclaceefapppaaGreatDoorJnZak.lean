/- Segments and patches: a struct of five ints, one of three; contracts of the laws' own helpers over them: how l; and what else the law reaches. -/
import Derived.Test.YtpclaceefapppaaGreatDoorJnZaa
import Derived.Test.YtpclaceefapppaaGreatDoorSrtPlainZ
import Derived.Laws.MakeOwn
import Derived.Deep.RegionWith
import Derived.Test.YtpclaceefapppaaGreatDoorJnZad
import Derived.BigRegion
import Derived.Test.YtpclaceefapppaaGreatDoorJnZaf
import Derived.Deep.RegionLaw
import Derived.Deep.AppendLies
set_option maxRecDepth 100000
set_option maxHeartbeats 4000000
namespace Go.Proofs.YtpclaceefapppaaGreatDoor.ctr
open Go.RowKit
structure Pat where
 day : Int
 mon : Int
 dom : Int
 deriving DecidableEq
def pt0 : Pat := ⟨0, 0, 0⟩
def segK : IK Seg := ⟨5, fun s => [s.fr, s.to, s.cal, s.sty, s.off], fun zs => ⟨zs.getD 0 0, zs.getD 1 0, zs.getD 2 0, zs.getD 3 0, zs.getD 4 0⟩, s0, fun _ => rfl, fun zs h => by
 match zs, h with
 | [_, _, _, _, _], _ => rfl⟩
def patK : IK Pat := ⟨3, fun s => [s.day, s.mon, s.dom], fun zs => ⟨zs.getD 0 0, zs.getD 1 0, zs.getD 2 0⟩, pt0, fun _ => rfl, fun zs h => by
 match zs, h with
 | [_, _, _], _ => rfl⟩
theorem addI_off (x : Addr) (n j : Nat) (h : 0 < j) : x.add (n + j) = ⟨(x.add n).block, (x.add n).off + j, none⟩ := by
 unfold Addr.add
 rw [if_neg (by omega)]
 split
 · rename_i e
   subst e
   simp
 · simp only [Nat.add_assoc]
theorem same_bel {W w' : World} (h : w' = W) : Below W.heap.size W w' := by rw [h]; exact Below.refl _ _
theorem IAt.seg {w : World} {g k : Nat} {r : Seg} (h : IAt segK w g k r) : w.cell? ⟨g, k * 5, none⟩ = some (.int .i64 r.fr) ∧ w.cell? ⟨g, k * 5 + 1, none⟩ = some (.int .i64 r.to) ∧ w.cell? ⟨g, k * 5 + 2, none⟩ = some (.int .i64 r.cal) ∧ w.cell? ⟨g, k * 5 + 3, none⟩ = some (.int .i64 r.sty) ∧ w.cell? ⟨g, k * 5 + 4, none⟩ = some (.int .i64 r.off) :=
 ⟨h 0 _ rfl, h 1 _ rfl, h 2 _ rfl, h 3 _ rfl, h 4 _ rfl⟩
theorem IIn.atSegment {w : World} {a : Option Addr} {len cap : Nat} {l : List Seg} (h : IIn segK w a len cap l) {k : Nat} (hk : k < len) : ∃ x, a = some x ∧ ∀ y : Later w, y.w.cell? (x.add (k * 5)) = some (.int .i64 (atK segK l k).fr) ∧ y.w.cell? ⟨(x.add (k * 5)).block, (x.add (k * 5)).off + 1, none⟩ = some (.int .i64 (atK segK l k).to) ∧ y.w.cell? ⟨(x.add (k * 5)).block, (x.add (k * 5)).off + 2, none⟩ = some (.int .i64 (atK segK l k).cal) ∧ y.w.cell? ⟨(x.add (k * 5)).block, (x.add (k * 5)).off + 3, none⟩ = some (.int .i64 (atK segK l k).sty) ∧ y.w.cell? ⟨(x.add (k * 5)).block, (x.add (k * 5)).off + 4, none⟩ = some (.int .i64 (atK segK l k).off) := by
 obtain ⟨_, _, _, ⟨_, h0⟩ | ⟨x, hx, h⟩⟩ := h
 · omega
 · have h0 : w.cell? (x.add (k * 5 + 0)) = _ := h k hk 0 _ rfl
   have h1 : w.cell? (x.add (k * 5 + 1)) = _ := h k hk 1 _ rfl
   have h2 : w.cell? (x.add (k * 5 + 2)) = _ := h k hk 2 _ rfl
   have h3 : w.cell? (x.add (k * 5 + 3)) = _ := h k hk 3 _ rfl
   have h4 : w.cell? (x.add (k * 5 + 4)) = _ := h k hk 4 _ rfl
   rw [addI_off x _ _ (by omega)] at h1
   rw [addI_off x _ _ (by omega)] at h2
   rw [addI_off x _ _ (by omega)] at h3
   rw [addI_off x _ _ (by omega)] at h4
   exact ⟨x, hx, fun y => ⟨Later.at h0 y, Later.at h1 y, Later.at h2 y, Later.at h3 y, Later.at h4 y⟩⟩
theorem toSegment (a0 a1 a2 a3 a4 : Int) (w : World) : CR 65 #[.agg #[.int .i64 a0, .int .i64 a1, .int .i64 a2, .int .i64 a3, .int .i64 a4]] w (.agg #[.int .i64 a0, .int .i64 a1, .int .i64 a2, .int .i64 a3, .int .i64 a4]) := by
 go_enter Tryz.func65, Tryz.ntmps65
 go_wp2
 go_returns
 refine ⟨rfl, ?_⟩
 go_grown
theorem eqSegment1 (a0 a1 a2 a3 a4 : Int) (w : World) : CR 87 #[.agg #[.int .i64 a0, .int .i64 a1, .int .i64 a2, .int .i64 a3, .int .i64 a4], .agg #[.int .i64 a0, .int .i64 a1, .int .i64 a2, .int .i64 a3, .int .i64 a4]] w (.bool true) := by
 go_enter Tryz.func87, Tryz.ntmps87
 go_wp2
 go_ret
 exact ⟨rfl, ((Below.refl _ _).alloc (Nat.le_refl _) _).alloc (by rw [World.size_alloc]; omega) _⟩
theorem szSegmentS (a : Option Addr) (len cap : Nat) (left : Int) (w : World) (h0 : len ≤ cap) (h : cap ≤ maxLen) (h1 : 0 ≤ left) (h2 : left ≤ 1048576) : CS 25 #[.slice a len cap, .int .i64 left] w (.int .i64 (if left < len then -1 else left - len)) := by
 unfold maxLen at h
 by_cases hl : left < len
 · rw [if_pos hl]
   go_enter Tryz.func25, Tryz.ntmps25
   go_wp2
   go_ret
   exact ⟨rfl, rfl⟩
 · rw [if_neg hl]
   go_enter Tryz.func25, Tryz.ntmps25
   go_wp2
   go_ret
   exact ⟨rfl, rfl⟩
theorem info_seg : (Tryz.prog.info? 91).map (fun i => (i.zero, i.size, i.bytes)) = some (some (.agg #[.int .i64 0, .int .i64 0, .int .i64 0, .int .i64 0, .int .i64 0]), 5, 40) := by kernel_rfl
def segzero : Array Value := #[.int .i64 0, .int .i64 0, .int .i64 0, .int .i64 0, .int .i64 0]
theorem make_seg (n : Nat) (hn : n ≤ 1048576) (W : World) : (Instr.makeSlice 31 (.int .i64 (n : Int)) (.int .i64 (n : Int))).run Tryz.prog W = .ok (.slice (some ⟨W.heap.size, 0, none⟩) n n) (W.alloc (.cells (madeCells segzero (n * 5)) 91)) := by
 obtain ⟨i0, hi, e⟩ := Option.map_eq_some_iff.1 info_seg
 simp only [Prod.mk.injEq] at e
 obtain ⟨hz, hs, hb⟩ := e
 have h := run_make (P := Tryz.prog) W 31 91 i0 _ Tryz.underlying31 hi hz .i64 .i64 (n : Int) (n : Int) (by omega) (by omega) (by rw [hb]; omega) (by omega)
 rw [hs] at h
 simp only [Int.toNat_natCast] at h
 exact h
theorem toSegmentS (a : Option Addr) (len cap : Nat) (l : List Seg) (w : World) (h : IIn segK w a len cap l) (hs : l.length ≤ 1048576) : Calls Tryz.prog 31 #[.slice a len cap] w fun e w' => ∃ v, e = .returned v ∧ INew segK w w' v l ∧ Below w.heap.size w w' := by
 have hlen := h.1
 have hl : len ≤ 1048576 := by rw [← hlen]; exact hs
 have H := hideP h
 have HL := hideP hlen
 have hmk := make_seg len hl
 have hpart : Hid (iPart segK l 0 (madeCells segzero (len * 5))) := ⟨by rw [size_madeCells, hlen]; rfl, fun j hj => by simp at hj⟩
 clear h hs hlen
 go_enter Tryz.func31, Tryz.ntmps31
 go_wp2
 go_loopw [4] (fun i wr => ∃ (k : Nat) (cs : Array Value), k ≤ len ∧ i = .int .i64 (k : Int) ∧ iPart segK l k cs ∧ Blk wr w.heap.size cs 91 ∧ Below w.heap.size w wr) (fun i _ => len - (intOf i).toNat)
 case atStart => exact ⟨0, _, Nat.zero_le _, rfl, hpart.out, Blk.new w _ _, (Below.refl _ _).alloc (Nat.le_refl _) _⟩
 case round =>
  obtain ⟨k, cs, hk, rfl, hp, hb, hB⟩ := hrel
  have HB := hideP hB
  have HP := hideP hp
  have HK := hideP hb
  clear hB hp hb
  by_cases hlt : k < len
  · obtain ⟨x, rfl, hx⟩ := H.out.atSegment hlt
    obtain ⟨c0, c1, c2, c3, c4⟩ := hx ⟨wr, HB.out⟩
    dsimp only at c0 c1 c2 c3 c4
    have HN := hideP (iPart_next HP.out (by rw [HL.out]; exact hlt))
    have hm : Hid (∀ r : Seg, setI cs (k * 5) 0 (segK.iv r) = (((((cs.setIfInBounds (k * 5 + 0) (.int .i64 r.fr)).setIfInBounds (k * 5 + 1) (.int .i64 r.to)).setIfInBounds (k * 5 + 2) (.int .i64 r.cal)).setIfInBounds (k * 5 + 3) (.int .i64 r.sty)).setIfInBounds (k * 5 + 4) (.int .i64 r.off))) := fun r => rfl
    clear hx
    generalize atK segK l k = r at *
    go_wp2_with fail
    refine (toSegment _ _ _ _ _ _).mono ?_
    rintro e w1 ⟨rfl, hb⟩
    have HB1 : Hid (Below w.heap.size w w1) := HB.out.trans (hb.mono HB.out.size)
    have HK1 := HK.out.below hb HK.out.lt
    clear hb c0 c1 c2 c3 c4 hmk
    have hsz : cs.size = len * 5 := by rw [HP.out.1, HL.out]; rfl
    have d0 := HK1.cell (k * 5) (v := cs[k * 5]'(by omega)) (by simp)
    have d1 := HK1.cell (k * 5 + 1) (v := cs[k * 5 + 1]'(by omega)) (by simp)
    have d2 := HK1.cell (k * 5 + 2) (v := cs[k * 5 + 2]'(by omega)) (by simp)
    have d3 := HK1.cell (k * 5 + 3) (v := cs[k * 5 + 3]'(by omega)) (by simp)
    have d4 := HK1.cell (k * 5 + 4) (v := cs[k * 5 + 4]'(by omega)) (by simp)
    have t0 := HK1.thaw (k * 5)
    have t1 := HK1.thaw (k * 5 + 1)
    have t2 := HK1.thaw (k * 5 + 2)
    have t3 := HK1.thaw (k * 5 + 3)
    have t4 := HK1.thaw (k * 5 + 4)
    have HS := hideP HK1
    generalize cs[k * 5]'(by omega) = v0 at d0
    generalize cs[k * 5 + 1]'(by omega) = v1 at d1
    generalize cs[k * 5 + 2]'(by omega) = v2 at d2
    generalize cs[k * 5 + 3]'(by omega) = v3 at d3
    generalize cs[k * 5 + 4]'(by omega) = v4 at d4
    clear HK1 hsz
    go_wp2
    refine ⟨⟨k + 1, _, by omega, by go_num, HN.out, ?_, (below_store (below_store (below_store (below_store (below_store HB1.out _ (Nat.le_refl _)) _ (Nat.le_refl _)) _ (Nat.le_refl _)) _ (Nat.le_refl _)) _ (Nat.le_refl _))⟩, by simp [intOf]; omega⟩
    rw [show setI cs (k * segK.m) 0 (segK.iv r) = _ from hm.out r]
    exact (((((HS.out.set _ _).set _ _).set _ _).set _ _).set _ _)
  · have hkn : k = l.length := by rw [HL.out]; omega
    have HP' := HP.out
    rw [hkn] at HP'
    have HC := hideP (iPart_all HP')
    clear HP' hkn
    go_wp2
    go_ret
    exact ⟨.slice (some ⟨w.heap.size, 0, none⟩) len len, rfl, ⟨w.heap.size, 91, by rw [HL.out], Nat.le_refl _, by rw [← HC.out]; exact HK.out⟩, HB.out⟩
theorem eqSegmentS (v1 v2 : Value) (l : List Seg) (w : World) (h1 : IRow segK w v1 l) (h2 : IRow segK w v2 l) : CR 37 #[v1, v2] w (.bool true) := by
 obtain ⟨a1, c1, rfl, l1, m1, H1⟩ := h1
 obtain ⟨a2, c2, rfl, _, _, H2⟩ := h2
 have K1 := hideP H1
 have K2 := hideP H2
 unfold maxLen at m1
 clear H1 H2
 go_enter Tryz.func37, Tryz.ntmps37
 go_wp2
 go_loopw [5] (fun i wr => ∃ k : Nat, k ≤ l.length ∧ i = .int .i64 (k : Int) ∧ Below w.heap.size w wr) (fun i _ => l.length - (intOf i).toNat)
 case atStart => exact ⟨0, Nat.zero_le _, rfl, Below.refl _ _⟩
 case round =>
  obtain ⟨k, hk, rfl, hB⟩ := hrel
  have HB := hideP hB
  clear hB
  by_cases hlt : k < l.length
  · obtain ⟨g1, rfl, hg1, x1⟩ := K1.out k hlt
    obtain ⟨g2, rfl, hg2, x2⟩ := K2.out k hlt
    obtain ⟨a0, a1, a2, a3, a4⟩ := (x1.below HB.out hg1).seg
    obtain ⟨b0, b1, b2, b3, b4⟩ := (x2.below HB.out hg2).seg
    clear x1 x2
    generalize atK segK l k = r at *
    go_wp2
    go_region_with (go_at_call 87; refine (eqSegment1 _ _ _ _ _ _).mono ?_; rintro e w2 ⟨rfl, hb2⟩; have HB2 : Hid (Below w.heap.size w w2) := HB.out.trans ⟨hb2.os, hb2.tape, hb2.output, Nat.le_trans (Nat.le_refl _) hb2.size, fun j hj => hb2.block j (Nat.lt_of_lt_of_le hj HB.out.size)⟩; clear hb2)
    all_goals go_wp2
    all_goals exact ⟨⟨k + 1, by omega, by go_num, HB2.out⟩, by simp [intOf]; omega⟩
  · go_wp2
    go_ret
    exact ⟨rfl, HB.out⟩
theorem IAt.pat {w : World} {g k : Nat} {r : Pat} (h : IAt patK w g k r) : w.cell? ⟨g, k * 3, none⟩ = some (.int .i64 r.day) ∧ w.cell? ⟨g, k * 3 + 1, none⟩ = some (.int .i64 r.mon) ∧ w.cell? ⟨g, k * 3 + 2, none⟩ = some (.int .i64 r.dom) :=
 ⟨h 0 _ rfl, h 1 _ rfl, h 2 _ rfl⟩
theorem IIn.atPatch {w : World} {a : Option Addr} {len cap : Nat} {l : List Pat} (h : IIn patK w a len cap l) {k : Nat} (hk : k < len) : ∃ x, a = some x ∧ ∀ y : Later w, y.w.cell? (x.add (k * 3)) = some (.int .i64 (atK patK l k).day) ∧ y.w.cell? ⟨(x.add (k * 3)).block, (x.add (k * 3)).off + 1, none⟩ = some (.int .i64 (atK patK l k).mon) ∧ y.w.cell? ⟨(x.add (k * 3)).block, (x.add (k * 3)).off + 2, none⟩ = some (.int .i64 (atK patK l k).dom) := by
 obtain ⟨_, _, _, ⟨_, h0⟩ | ⟨x, hx, h⟩⟩ := h
 · omega
 · have h0 : w.cell? (x.add (k * 3 + 0)) = _ := h k hk 0 _ rfl
   have h1 : w.cell? (x.add (k * 3 + 1)) = _ := h k hk 1 _ rfl
   have h2 : w.cell? (x.add (k * 3 + 2)) = _ := h k hk 2 _ rfl
   rw [addI_off x _ _ (by omega)] at h1
   rw [addI_off x _ _ (by omega)] at h2
   exact ⟨x, hx, fun y => ⟨Later.at h0 y, Later.at h1 y, Later.at h2 y⟩⟩
theorem toPatch (a0 a1 a2 : Int) (w : World) : CR 66 #[.agg #[.int .i64 a0, .int .i64 a1, .int .i64 a2]] w (.agg #[.int .i64 a0, .int .i64 a1, .int .i64 a2]) := by
 go_enter Tryz.func66, Tryz.ntmps66
 go_wp2
 go_returns
 refine ⟨rfl, ?_⟩
 go_grown
theorem eqPatch1 (a0 a1 a2 : Int) (w : World) : CR 88 #[.agg #[.int .i64 a0, .int .i64 a1, .int .i64 a2], .agg #[.int .i64 a0, .int .i64 a1, .int .i64 a2]] w (.bool true) := by
 go_enter Tryz.func88, Tryz.ntmps88
 go_wp2
 go_ret
 exact ⟨rfl, ((Below.refl _ _).alloc (Nat.le_refl _) _).alloc (by rw [World.size_alloc]; omega) _⟩
theorem szPatchS (a : Option Addr) (len cap : Nat) (left : Int) (w : World) (h0 : len ≤ cap) (h : cap ≤ maxLen) (h1 : 0 ≤ left) (h2 : left ≤ 1048576) : CS 26 #[.slice a len cap, .int .i64 left] w (.int .i64 (if left < len then -1 else left - len)) := by
 unfold maxLen at h
 by_cases hl : left < len
 · rw [if_pos hl]
   go_enter Tryz.func26, Tryz.ntmps26
   go_wp2
   go_ret
   exact ⟨rfl, rfl⟩
 · rw [if_neg hl]
   go_enter Tryz.func26, Tryz.ntmps26
   go_wp2
   go_ret
   exact ⟨rfl, rfl⟩
theorem info_pat : (Tryz.prog.info? 96).map (fun i => (i.zero, i.size, i.bytes)) = some (some (.agg #[.int .i64 0, .int .i64 0, .int .i64 0]), 3, 24) := by kernel_rfl
def patzero : Array Value := #[.int .i64 0, .int .i64 0, .int .i64 0]
theorem make_pat (n : Nat) (hn : n ≤ 1048576) (W : World) : (Instr.makeSlice 32 (.int .i64 (n : Int)) (.int .i64 (n : Int))).run Tryz.prog W = .ok (.slice (some ⟨W.heap.size, 0, none⟩) n n) (W.alloc (.cells (madeCells patzero (n * 3)) 96)) := by
 obtain ⟨i0, hi, e⟩ := Option.map_eq_some_iff.1 info_pat
 simp only [Prod.mk.injEq] at e
 obtain ⟨hz, hs, hb⟩ := e
 have h := run_make (P := Tryz.prog) W 32 96 i0 _ Tryz.underlying32 hi hz .i64 .i64 (n : Int) (n : Int) (by omega) (by omega) (by rw [hb]; omega) (by omega)
 rw [hs] at h
 simp only [Int.toNat_natCast] at h
 exact h
theorem toPatchS (a : Option Addr) (len cap : Nat) (l : List Pat) (w : World) (h : IIn patK w a len cap l) (hs : l.length ≤ 1048576) : Calls Tryz.prog 32 #[.slice a len cap] w fun e w' => ∃ v, e = .returned v ∧ INew patK w w' v l ∧ Below w.heap.size w w' := by
 have hlen := h.1
 have hl : len ≤ 1048576 := by rw [← hlen]; exact hs
 have H := hideP h
 have HL := hideP hlen
 have hmk := make_pat len hl
 have hpart : Hid (iPart patK l 0 (madeCells patzero (len * 3))) := ⟨by rw [size_madeCells, hlen]; rfl, fun j hj => by simp at hj⟩
 clear h hs hlen
 go_enter Tryz.func32, Tryz.ntmps32
 go_wp2
 go_loopw [4] (fun i wr => ∃ (k : Nat) (cs : Array Value), k ≤ len ∧ i = .int .i64 (k : Int) ∧ iPart patK l k cs ∧ Blk wr w.heap.size cs 96 ∧ Below w.heap.size w wr) (fun i _ => len - (intOf i).toNat)
 case atStart => exact ⟨0, _, Nat.zero_le _, rfl, hpart.out, Blk.new w _ _, (Below.refl _ _).alloc (Nat.le_refl _) _⟩
 case round =>
  obtain ⟨k, cs, hk, rfl, hp, hb, hB⟩ := hrel
  have HB := hideP hB
  have HP := hideP hp
  have HK := hideP hb
  clear hB hp hb
  by_cases hlt : k < len
  · obtain ⟨x, rfl, hx⟩ := H.out.atPatch hlt
    obtain ⟨c0, c1, c2⟩ := hx ⟨wr, HB.out⟩
    dsimp only at c0 c1 c2
    have HN := hideP (iPart_next HP.out (by rw [HL.out]; exact hlt))
    have hm : Hid (∀ r : Pat, setI cs (k * 3) 0 (patK.iv r) = (((cs.setIfInBounds (k * 3 + 0) (.int .i64 r.day)).setIfInBounds (k * 3 + 1) (.int .i64 r.mon)).setIfInBounds (k * 3 + 2) (.int .i64 r.dom))) := fun r => rfl
    clear hx
    generalize atK patK l k = r at *
    go_wp2_with fail
    refine (toPatch _ _ _ _).mono ?_
    rintro e w1 ⟨rfl, hb⟩
    have HB1 : Hid (Below w.heap.size w w1) := HB.out.trans (hb.mono HB.out.size)
    have HK1 := HK.out.below hb HK.out.lt
    clear hb c0 c1 c2 hmk
    have hsz : cs.size = len * 3 := by rw [HP.out.1, HL.out]; rfl
    have d0 := HK1.cell (k * 3) (v := cs[k * 3]'(by omega)) (by simp)
    have d1 := HK1.cell (k * 3 + 1) (v := cs[k * 3 + 1]'(by omega)) (by simp)
    have d2 := HK1.cell (k * 3 + 2) (v := cs[k * 3 + 2]'(by omega)) (by simp)
    have t0 := HK1.thaw (k * 3)
    have t1 := HK1.thaw (k * 3 + 1)
    have t2 := HK1.thaw (k * 3 + 2)
    have HS := hideP HK1
    generalize cs[k * 3]'(by omega) = v0 at d0
    generalize cs[k * 3 + 1]'(by omega) = v1 at d1
    generalize cs[k * 3 + 2]'(by omega) = v2 at d2
    clear HK1 hsz
    go_wp2
    refine ⟨⟨k + 1, _, by omega, by go_num, HN.out, ?_, (below_store (below_store (below_store HB1.out _ (Nat.le_refl _)) _ (Nat.le_refl _)) _ (Nat.le_refl _))⟩, by simp [intOf]; omega⟩
    rw [show setI cs (k * patK.m) 0 (patK.iv r) = _ from hm.out r]
    exact (((HS.out.set _ _).set _ _).set _ _)
  · have hkn : k = l.length := by rw [HL.out]; omega
    have HP' := HP.out
    rw [hkn] at HP'
    have HC := hideP (iPart_all HP')
    clear HP' hkn
    go_wp2
    go_ret
    exact ⟨.slice (some ⟨w.heap.size, 0, none⟩) len len, rfl, ⟨w.heap.size, 96, by rw [HL.out], Nat.le_refl _, by rw [← HC.out]; exact HK.out⟩, HB.out⟩
theorem eqPatchS (v1 v2 : Value) (l : List Pat) (w : World) (h1 : IRow patK w v1 l) (h2 : IRow patK w v2 l) : CR 38 #[v1, v2] w (.bool true) := by
 obtain ⟨a1, c1, rfl, l1, m1, H1⟩ := h1
 obtain ⟨a2, c2, rfl, _, _, H2⟩ := h2
 have K1 := hideP H1
 have K2 := hideP H2
 unfold maxLen at m1
 clear H1 H2
 go_enter Tryz.func38, Tryz.ntmps38
 go_wp2
 go_loopw [5] (fun i wr => ∃ k : Nat, k ≤ l.length ∧ i = .int .i64 (k : Int) ∧ Below w.heap.size w wr) (fun i _ => l.length - (intOf i).toNat)
 case atStart => exact ⟨0, Nat.zero_le _, rfl, Below.refl _ _⟩
 case round =>
  obtain ⟨k, hk, rfl, hB⟩ := hrel
  have HB := hideP hB
  clear hB
  by_cases hlt : k < l.length
  · obtain ⟨g1, rfl, hg1, x1⟩ := K1.out k hlt
    obtain ⟨g2, rfl, hg2, x2⟩ := K2.out k hlt
    obtain ⟨a0, a1, a2⟩ := (x1.below HB.out hg1).pat
    obtain ⟨b0, b1, b2⟩ := (x2.below HB.out hg2).pat
    clear x1 x2
    generalize atK patK l k = r at *
    go_wp2
    go_region_with (go_at_call 88; refine (eqPatch1 _ _ _ _).mono ?_; rintro e w2 ⟨rfl, hb2⟩; have HB2 : Hid (Below w.heap.size w w2) := HB.out.trans ⟨hb2.os, hb2.tape, hb2.output, Nat.le_trans (Nat.le_refl _) hb2.size, fun j hj => hb2.block j (Nat.lt_of_lt_of_le hj HB.out.size)⟩; clear hb2)
    all_goals go_wp2
    all_goals exact ⟨⟨k + 1, by omega, by go_num, HB2.out⟩, by simp [intOf]; omega⟩
  · go_wp2
    go_ret
    exact ⟨rfl, HB.out⟩
def cmpI (a b : Int) : Int := if a < b then -1 else if b < a then 1 else 0
def or3 (x y z : Int) : Int := if x ≠ 0 then x else if y ≠ 0 then y else z
theorem cmpI_cases (a b : Int) : (a < b ∧ cmpI a b = -1) ∨ (a = b ∧ cmpI a b = 0) ∨ (b < a ∧ cmpI a b = 1) := by
 unfold cmpI
 rcases Int.lt_trichotomy a b with h | h | h
 · exact .inl ⟨h, by rw [if_pos h]⟩
 · exact .inr (.inl ⟨h, by rw [if_neg (by omega), if_neg (by omega)]⟩)
 · exact .inr (.inr ⟨h, by rw [if_neg (by omega), if_pos h]⟩)
theorem or_lt (a b : PSeg) : decide (or3 (cmpI a.s.fr b.s.fr) (cmpI a.s.to b.s.to) (cmpI a.at' b.at') < 0) = ltP a b := by
 have e : ∀ x y : Bool, (x = true ↔ y = true) → x = y := by decide
 apply e
 rw [ltP_iff, decide_eq_true_eq]
 unfold or3
 rcases cmpI_cases a.s.fr b.s.fr with ⟨h, k⟩ | ⟨h, k⟩ | ⟨h, k⟩ <;> rw [k]
 · simp; omega
 · rcases cmpI_cases a.s.to b.s.to with ⟨h', k'⟩ | ⟨h', k'⟩ | ⟨h', k'⟩ <;> rw [k']
   · simp; omega
   · rcases cmpI_cases a.at' b.at' with ⟨h2, k2⟩ | ⟨h2, k2⟩ | ⟨h2, k2⟩ <;> rw [k2] <;> simp <;> omega
   · simp; omega
 · simp; omega
def psK : IK PSeg := ⟨6, fun p => [p.s.fr, p.s.to, p.s.cal, p.s.sty, p.s.off, p.at'], fun zs => ⟨⟨zs.getD 0 0, zs.getD 1 0, zs.getD 2 0, zs.getD 3 0, zs.getD 4 0⟩, zs.getD 5 0⟩, p0, fun _ => rfl, fun zs h => by
 match zs, h with
 | [_, _, _, _, _, _], _ => rfl⟩
theorem IAt.ps {w : World} {g k : Nat} {r : PSeg} (h : IAt psK w g k r) : w.cell? ⟨g, k * 6, none⟩ = some (.int .i64 r.s.fr) ∧ w.cell? ⟨g, k * 6 + 1, none⟩ = some (.int .i64 r.s.to) ∧ w.cell? ⟨g, k * 6 + 2, none⟩ = some (.int .i64 r.s.cal) ∧ w.cell? ⟨g, k * 6 + 3, none⟩ = some (.int .i64 r.s.sty) ∧ w.cell? ⟨g, k * 6 + 4, none⟩ = some (.int .i64 r.s.off) ∧ w.cell? ⟨g, k * 6 + 5, none⟩ = some (.int .i64 r.at') :=
 ⟨h 0 _ rfl, h 1 _ rfl, h 2 _ rfl, h 3 _ rfl, h 4 _ rfl, h 5 _ rfl⟩
theorem cmpNaN (a : Int) (w : World) : CS 266 #[.int .i64 a] w (.bool false) := by
 go_enter Tryz.func266, Tryz.ntmps266
 go_wp2
 go_ret
 exact ⟨rfl, rfl⟩
theorem cmpCmp (a b : Int) (w : World) : CS 406 #[.int .i64 a, .int .i64 b] w (.int .i64 (cmpI a b)) := by
 unfold cmpI
 by_cases h1 : a < b
 · rw [if_pos h1]
   go_enter Tryz.func406, Tryz.ntmps406
   go_wp2_with (go_at_call 266; refine (cmpNaN _ _).mono ?_; rintro e w1 ⟨rfl, rfl⟩)
   go_ret
   exact ⟨rfl, rfl⟩
 rw [if_neg h1]
 by_cases h2 : b < a
 · rw [if_pos h2]
   go_enter Tryz.func406, Tryz.ntmps406
   go_wp2_with (go_at_call 266; refine (cmpNaN _ _).mono ?_; rintro e w1 ⟨rfl, rfl⟩)
   go_ret
   exact ⟨rfl, rfl⟩
 rw [if_neg h2]
 go_enter Tryz.func406, Tryz.ntmps406
 go_wp2_with (go_at_call 266; refine (cmpNaN _ _).mono ?_; rintro e w1 ⟨rfl, rfl⟩)
 go_ret
 exact ⟨rfl, rfl⟩
theorem cmpOr (x y z : Int) (g : Nat) (w : World) (h0 : w.cell? ⟨g, 0, none⟩ = some (.int .i64 x)) (h1 : w.cell? ⟨g, 1, none⟩ = some (.int .i64 y)) (h2 : w.cell? ⟨g, 2, none⟩ = some (.int .i64 z)) : CS 405 #[.slice (some ⟨g, 0, none⟩) 3 3] w (.int .i64 (or3 x y z)) := by
 obtain ⟨R, hR⟩ : ∃ R, R = or3 x y z := ⟨_, rfl⟩
 have HR := hideP hR
 rw [← hR]
 clear hR
 go_enter Tryz.func405, Tryz.ntmps405
 go_wp2
 go_loopw [8] (fun i wr => ∃ k : Nat, k ≤ 3 ∧ i = .int .i64 (k : Int) ∧ Hid ((0 < k → x = 0) ∧ (1 < k → y = 0) ∧ (2 < k → z = 0)) ∧ wr = w) (fun i _ => 3 - (intOf i).toNat)
 case atStart => exact ⟨0, by omega, rfl, ⟨by omega, by omega, by omega⟩, rfl⟩
 case round =>
  obtain ⟨k, hk, rfl, HH, rfl⟩ := hrel
  have k0 := HH.out.1
  have k1 := HH.out.2.1
  have k2 := HH.out.2.2
  clear HH
  rcases (show k = 0 ∨ k = 1 ∨ k = 2 ∨ k = 3 by omega) with rfl | rfl | rfl | rfl
  · clear k0 k1 k2
    by_cases hx : x = 0
    · have HN : Hid ((0 < 1 → x = 0) ∧ (1 < 1 → y = 0) ∧ (2 < 1 → z = 0)) := ⟨fun _ => hx, by omega, by omega⟩
      have hq : (x == 0) = true := by simp [hx]
      clear hx
      go_wp2
      exact ⟨⟨1, by omega, rfl, HN.out, trivial⟩, by simp [intOf]⟩
    · have hq : (x == 0) = false := by simp [hx]
      have HN : Hid (R = x) := by unfold Hid; rw [HR.out, or3, if_pos hx]
      go_wp2
      go_ret
      exact ⟨ret_int HN.out.symm, rfl⟩
  · have HX := hideP (k0 (by omega))
    clear k0 k1 k2
    by_cases hy : y = 0
    · have HN : Hid ((0 < 2 → x = 0) ∧ (1 < 2 → y = 0) ∧ (2 < 2 → z = 0)) := ⟨fun _ => HX.out, fun _ => hy, by omega⟩
      have hq : (y == 0) = true := by simp [hy]
      clear hy
      go_wp2
      exact ⟨⟨2, by omega, rfl, HN.out, trivial⟩, by simp [intOf]⟩
    · have hq : (y == 0) = false := by simp [hy]
      have HN : Hid (R = y) := by unfold Hid; rw [HR.out, or3, if_neg (by simp [HX.out]), if_pos hy]
      go_wp2
      go_ret
      exact ⟨ret_int HN.out.symm, rfl⟩
  · have HX := hideP (k0 (by omega))
    have HY := hideP (k1 (by omega))
    clear k0 k1 k2
    have HN : Hid (R = z) := by unfold Hid; rw [HR.out, or3, if_neg (by simp [HX.out]), if_neg (by simp [HY.out])]
    by_cases hz : z = 0
    · have HM : Hid ((0 < 3 → x = 0) ∧ (1 < 3 → y = 0) ∧ (2 < 3 → z = 0)) := ⟨fun _ => HX.out, fun _ => HY.out, fun _ => hz⟩
      have hq : (z == 0) = true := by simp [hz]
      clear hz
      go_wp2
      exact ⟨⟨3, by omega, rfl, HM.out, trivial⟩, by simp [intOf]⟩
    · have hq : (z == 0) = false := by simp [hz]
      go_wp2
      go_ret
      exact ⟨ret_int HN.out.symm, rfl⟩
  · have HN : Hid (R = 0) := by unfold Hid; rw [HR.out, or3, if_neg (by simp [k0 (by omega)]), if_neg (by simp [k1 (by omega)]), k2 (by omega)]
    clear k0 k1 k2
    go_wp2
    go_ret
    exact ⟨ret_int HN.out.symm, rfl⟩
def putI (w : World) (g b : Nat) : Nat → List Int → World
  | _, [] => w
  | j, z :: zs => putI (w.setCell ⟨g, b + j, none⟩ (.int .i64 z)) g b (j + 1) zs
theorem putI_blk : ∀ (zs : List Int) (w : World) (g b j : Nat) (cur : Array Value) (T : TypeId), Blk w g cur T → Blk (putI w g b j zs) g (setI cur b j zs) T
  | [], _, _, _, _, _, _, h => h
  | _ :: zs, _, g, b, j, _, T, h => putI_blk zs _ g b (j + 1) _ T (h.set (b + j) _)
theorem putI_grown : ∀ (zs : List Int) (w : World) (g b j : Nat), w.grownBy (putI w g b j zs) (some g)
  | [], _, _, _, _ => ⟨rfl, rfl, rfl, Nat.le_refl _, fun _ _ _ => rfl⟩
  | z :: zs, w, g, b, j => by
   have h := putI_grown zs (w.setCell ⟨g, b + j, none⟩ (.int .i64 z)) g b (j + 1)
   refine ⟨h.os, h.tape, h.output, Nat.le_trans (by rw [World.size_setCell]; exact Nat.le_refl _) h.size, fun k hk hn => ?_⟩
   rw [putI, h.block k (by rw [World.size_setCell]; exact hk) hn]
   exact Below.heap_setCell w _ _ k (fun e => hn (by rw [e]))
theorem grown_two {w w1 w2 : World} {r : Option Nat} (h : w.grownBy w1 r) (k : w1.grownBy w2 r) : w.grownBy w2 r := ⟨k.os.trans h.os, k.tape.trans h.tape, k.output.trans h.output, Nat.le_trans h.size k.size, fun j hj hn => (k.block j (Nat.lt_of_lt_of_le hj h.size) hn).trans (h.block j hj hn)⟩
theorem PRow.put {α : Type} {K : IK α} {T : TypeId} {w : World} {g cap : Nat} {L : List α} (h : PRow K T w g cap L) {i : Nat} (hi : i < L.length) (x : α) : PRow K T (putI w g (i * K.m) 0 (K.iv x)) g cap (L.set i x) := by
 obtain ⟨cur, hB, hs, h1, h2, hC⟩ := h
 exact ⟨_, putI_blk _ w g _ 0 cur T hB, by rw [setI_size, hs], by simpa using h1, h2, hC.set x hi h1 hs⟩
theorem PRow.swapped {w : World} {g cap i j : Nat} {T : TypeId} {L : List PSeg} (h : PRow psK T w g cap L) (hi : i < L.length) (hj : j < L.length) : PRow psK T (putI (putI w g (i * 6) 0 (psK.iv (atK psK L j))) g (j * 6) 0 (psK.iv (atK psK L i))) g cap (swP L i j) ∧ w.grownBy (putI (putI w g (i * 6) 0 (psK.iv (atK psK L j))) g (j * 6) 0 (psK.iv (atK psK L i))) (some g) :=
 ⟨(h.put hi (atK psK L j)).put (by simpa using hj) (atK psK L i), grown_two (putI_grown _ _ _ _ _) (putI_grown _ _ _ _ _)⟩
theorem end_void {P : Program} {fn : Func} {R : Ending → World → Prop} {a : Act} {w : World} (hr : fn.results = #[]) (hd : a.defers = []) (hR : R (.returned (.tuple #[])) w) : bodyPost P fn R .normal a w := ⟨hd, .tuple #[], by simp [results, hr], hR⟩
theorem swap_world (w : World) (g i j : Nat) (a b : PSeg) : ((((((((((((w.setCell ⟨g, i * 6, none⟩ (.int .i64 b.s.fr)).setCell ⟨g, i * 6 + 1, none⟩ (.int .i64 b.s.to)).setCell ⟨g, i * 6 + 2, none⟩ (.int .i64 b.s.cal)).setCell ⟨g, i * 6 + 3, none⟩ (.int .i64 b.s.sty)).setCell ⟨g, i * 6 + 4, none⟩ (.int .i64 b.s.off)).setCell ⟨g, i * 6 + 5, none⟩ (.int .i64 b.at')).setCell ⟨g, j * 6, none⟩ (.int .i64 a.s.fr)).setCell ⟨g, j * 6 + 1, none⟩ (.int .i64 a.s.to)).setCell ⟨g, j * 6 + 2, none⟩ (.int .i64 a.s.cal)).setCell ⟨g, j * 6 + 3, none⟩ (.int .i64 a.s.sty)).setCell ⟨g, j * 6 + 4, none⟩ (.int .i64 a.s.off)).setCell ⟨g, j * 6 + 5, none⟩ (.int .i64 a.at')) = putI (putI w g (i * 6) 0 (psK.iv b)) g (j * 6) 0 (psK.iv a) := rfl
theorem PRow.drew {α : Type} {K : IK α} {T : TypeId} {w : World} {g cap : Nat} {L : List α} (h : PRow K T w g cap L) : PRow K T w.drew g cap L := h
theorem grown_drew {w w1 : World} {r : Option Nat} (h : w.grownBy w1 r) : w.grownBy w1.drew r := ⟨h.os, h.tape, h.output, h.size, h.block⟩
theorem heapSwap (g cap i j : Nat) (L : List PSeg) (w : World) (hP : PRow psK 312 w g cap L) (hi : i < L.length) (hj : j < L.length) :
    Calls Tryz.prog 404 #[.slice (some ⟨g, 0, none⟩) L.length cap, .int .i64 (i : Int), .int .i64 (j : Int)] w fun e w' => e = .returned (.tuple #[]) ∧ PRow psK 312 w' g cap (swP L i j) ∧ w.grownBy w' (some g) := by
  obtain ⟨a0, a1, a2, a3, a4, a5⟩ := (hP.at hi).ps
  obtain ⟨b0, b1, b2, b3, b4, b5⟩ := (hP.at hj).ps
  have hf : ∀ k, w.frozen? ⟨g, k, none⟩ = false := by obtain ⟨cur, hB, _⟩ := hP; exact hB.thaw
  have hc : L.length ≤ cap := by obtain ⟨cur, _, _, h, _⟩ := hP; exact h
  have hm : cap ≤ maxLen := by obtain ⟨cur, _, _, _, h, _⟩ := hP; exact h
  unfold maxLen at hm
  have HP := hideP hP
  clear hP
  by_cases hij : i = j
  focus
    subst hij
    clear b0 b1 b2 b3 b4 b5
    have HS := hideP (HP.out.swapped hi hi)
    generalize atK psK L i = a at *
  rotate_left
  focus
    have HS := hideP (HP.out.swapped hi hj)
    generalize atK psK L i = a at *
    generalize atK psK L j = b at *
  rotate_left
  all_goals
   go_enter Tryz.func404, Tryz.ntmps404
   go_wp2_with fail
   go_region
   all_goals go_wp2_with fail
   all_goals rw [swap_world]
   all_goals exact end_void Tryz.results404 rfl ⟨rfl, HS.out.1.drew, grown_drew HS.out.2⟩
structure HS (base : Nat) (w : World) (hb g cap : Nat) (L : List PSeg) : Prop where
 box : Blk w hb #[.slice (some ⟨g, 0, none⟩) L.length cap] 309
 row : PRow psK 312 w g cap L
 ne : g ≠ hb
 lo : base ≤ hb
 lg : base ≤ g
theorem HS.next {base : Nat} {w w' : World} {hb g cap : Nat} {L : List PSeg} (h : HS base w hb g cap L) (hB : Below w.heap.size w w') : HS base w' hb g cap L := ⟨h.box.below hB h.box.lt, h.row.below hB h.row.lt, h.ne, h.lo, h.lg⟩
theorem HS.sz {base : Nat} {w : World} {hb g cap : Nat} {L : List PSeg} (h : HS base w hb g cap L) : base ≤ w.heap.size := Nat.le_trans h.lo (Nat.le_of_lt h.box.lt)
theorem below_grown2 {base : Nat} {w w' : World} {r : Option Nat} (h : w.grownBy w' r) (hs : base ≤ w.heap.size) (hr : ∀ k, r = some k → base ≤ k) : Below base w w' := ⟨h.os, h.tape, h.output, h.size, fun k hk => h.block k (by omega) (fun e => by have := hr k e.symm; omega)⟩
theorem info_ps : (Tryz.prog.info? 312).map (fun i => (i.zero, i.size, i.bytes)) = some (some (.agg #[.int .i64 0, .int .i64 0, .int .i64 0, .int .i64 0, .int .i64 0, .int .i64 0]), 6, 48) := by kernel_rfl
theorem news_ps (w : World) (x : PSeg) (t : TypeId) : ∀ j u, (icell psK x)[j]? = some u → (w.alloc (.cells (icell psK x).toArray t)).cell? ((⟨w.heap.size, 0, none⟩ : Addr).add j) = some u := by
 intro j u h
 have := (Blk.new w (icell psK x).toArray t).cell j (v := u) (by simpa using h)
 rw [show ((⟨w.heap.size, 0, none⟩ : Addr).add j) = ⟨w.heap.size, j, none⟩ from by unfold Addr.add; split <;> simp_all]
 exact this
theorem push_done {base hb g cap : Nat} {L : List PSeg} {x : PSeg} {w w1 : World} {o : Obj} {g' cap' : Nat} (h : HS base w hb g cap L) (hown : w1.ownsRow base 312 6 (.slice (some ⟨g', 0, none⟩) (L.length + 1) cap') (L.length + 1) (icells psK L ++ icell psK x)) (hgrow : (w.alloc o).drew.grownBy w1 (Value.slice (some ⟨g, 0, none⟩) L.length cap).ownBlock) (hat : (Value.slice (some ⟨g, 0, none⟩) L.length cap).ownBlock = some g' ∨ g' = w.heap.size + 1) :
    HS base (w1.setCell ⟨hb, 0, none⟩ (.slice (some ⟨g', 0, none⟩) (L.length + 1) cap')) hb g' cap' (L ++ [x]) ∧ Below base w (w1.setCell ⟨hb, 0, none⟩ (.slice (some ⟨g', 0, none⟩) (L.length + 1) cap')) := by
  have hlen : (L ++ [x]).length = L.length + 1 := by simp
  have hne : g' ≠ hb := by
   rcases hat with e | e
   · have e' : g = g' := by simpa [Value.ownBlock] using e
     rw [← e']; exact h.ne
   · have := h.box.lt; omega
  have hg' : base ≤ g' := by
   rcases hat with e | e
   · have e' : g = g' := by simpa [Value.ownBlock] using e
     rw [← e']; exact h.lg
   · have := h.sz; omega
  have hB : Blk w1 hb #[.slice (some ⟨g, 0, none⟩) L.length cap] 309 := by
   refine (hgrow.block hb ?_ ?_).trans (h.box.alloc o)
   · show hb < (w.alloc o).heap.size
     rw [World.size_alloc]
     have := h.box.lt
     omega
   · exact fun e => h.ne (by simpa [Value.ownBlock] using e.symm)
  obtain ⟨g2, c2, e2, _, hP⟩ := PRow.of_owns (K := psK) (L := L ++ [x]) (v := .slice (some ⟨g', 0, none⟩) (L.length + 1) cap') (by rw [hlen, icells_app, show icells psK [x] = icell psK x by simp [icells]]; exact hown) (by simp)
  have e3 : g' = g2 ∧ cap' = c2 := by simpa using e2
  obtain ⟨rfl, rfl⟩ := e3
  refine ⟨⟨by rw [hlen]; exact hB.set 0 _, ?_, hne, h.lo, hg'⟩, ?_⟩
  · obtain ⟨cur, q1, q2⟩ := hP
    exact ⟨cur, q1.other (Ne.symm hne), q2⟩
  · have h1 : Below base w (w.alloc o).drew := ((Below.refl base w).alloc h.sz o).drew
    have h2 : Below base (w.alloc o).drew w1 := below_grown2 hgrow (by show base ≤ (w.alloc o).heap.size; rw [World.size_alloc]; have := h.sz; omega) (fun k e => by
     have e' : g = k := by simpa [Value.ownBlock] using e
     rw [← e']; exact h.lg)
    exact (h1.trans h2).setCell (p := ⟨hb, 0, none⟩) h.lo _
theorem is_ps (v : Value) (w : World) : (Instr.typeAssert (.iface 312 v) 20 312 false).run Tryz.prog w = .ok v w := by kernel_rfl
theorem heapPushM (base hb g cap : Nat) (L : List PSeg) (x : PSeg) (w : World) (h : HS base w hb g cap L) (hl : L.length < 1048576) :
    Calls Tryz.prog 403 #[.pointer (some ⟨hb, 0, none⟩), .iface 312 (.agg #[.int .i64 x.s.fr, .int .i64 x.s.to, .int .i64 x.s.cal, .int .i64 x.s.sty, .int .i64 x.s.off, .int .i64 x.at'])] w fun e w' => e = .returned (.tuple #[]) ∧ ∃ g' cap', HS base w' hb g' cap' (L ++ [x]) ∧ Below base w w' := by
  obtain ⟨i0, hi, he⟩ := Option.map_eq_some_iff.1 info_ps
  simp only [Prod.mk.injEq] at he
  obtain ⟨hz0, hz1, hz2⟩ := he
  have hc := h.box.cell 0 rfl
  have hf := h.box.thaw 0
  have hlt := h.box.lt
  have hown : Hid ((w.alloc (.cells (icell psK x).toArray 312)).ownsRow base 312 6 (.slice (some ⟨g, 0, none⟩) L.length cap) L.length (icells psK L)) := (h.row.owns (by decide) h.lg).alloc _
  have hnews := hideP (news_ps w x 312)
  have HK : Hid ((w.alloc (.cells #[.int .i64 x.s.fr, .int .i64 x.s.to, .int .i64 x.s.cal, .int .i64 x.s.sty, .int .i64 x.s.off, .int .i64 x.at'] 312)).drew.cell? ⟨hb, 0, none⟩ = some (.slice (some ⟨g, 0, none⟩) L.length cap) ∧ (w.alloc (.cells #[.int .i64 x.s.fr, .int .i64 x.s.to, .int .i64 x.s.cal, .int .i64 x.s.sty, .int .i64 x.s.off, .int .i64 x.at'] 312)).drew.frozen? ⟨hb, 0, none⟩ = false) := ⟨(h.box.alloc _).cell 0 rfl, (h.box.alloc _).thaw 0⟩
  have HLT : Hid (hb < (w.alloc (.cells #[.int .i64 x.s.fr, .int .i64 x.s.to, .int .i64 x.s.cal, .int .i64 x.s.sty, .int .i64 x.s.off, .int .i64 x.at'] 312)).drew.heap.size) := by
   show hb < (w.alloc _).heap.size
   rw [World.size_alloc]
   have := h.box.lt
   omega
  have HNE : Hid (some hb ≠ (Value.slice (some ⟨g, 0, none⟩) L.length cap).ownBlock) := fun e => h.ne (by simpa [Value.ownBlock] using e.symm)
  have H := hideP h
  have hsz := hideP h.sz
  have hta := is_ps
  clear h
  go_enter Tryz.func403, Tryz.ntmps403
  go_wp2_with fail
  go_region_law
    ((refine step_append_lies _ (by rfl) _ _ 309 (by rfl) base 312 i0 (.agg #[.int .i64 0, .int .i64 0, .int .i64 0, .int .i64 0, .int .i64 0, .int .i64 0]) 6 48 Tryz.underlying309 hi hz0 hz1 hz2 rfl (by decide) _ L.length (icells psK L) (by rfl) hown.out ⟨w.heap.size, 0, none⟩ 1 1 (icell psK x) (by rfl) rfl hnews.out (by simp [icell, Value.oneCell']) (by omega) (by unfold maxLen; omega) (by omega) (by have := hsz.out; show base ≤ (w.alloc _).heap.size; rw [World.size_alloc]; omega) (w.heap.size + 1) (by simp) ?_; intro g' cap' w1 hown1 hgrow hat hlt1; have q1 := (hgrow.cell_far ⟨hb, 0, none⟩ HLT.out HNE.out).trans HK.out.1; have q2 := (hgrow.frozen_far ⟨hb, 0, none⟩ HLT.out HNE.out).trans HK.out.2))
  all_goals
   have HD := hideP (push_done H.out hown1 hgrow hat)
   clear hown1 hgrow hat hlt1 q1 q2
   go_wp2_with fail
   exact end_void Tryz.results403 rfl ⟨rfl, _, _, HD.out⟩
theorem meth_push (p : Addr) (w : World) : (Go.method 489 307 (.pointer (some p)) "Push").run Tryz.prog w = .ok (403, .pointer (some p)) w := by kernel_rfl
theorem meth_pop (p : Addr) (w : World) : (Go.method 489 307 (.pointer (some p)) "Pop").run Tryz.prog w = .ok (402, .pointer (some p)) w := by kernel_rfl
theorem meth_len0 (p : Addr) (w : World) : (Go.method 489 307 (.pointer (some p)) "Len").run Tryz.prog w = (do let v ← loadVar 309 p; pure (400, v) : Sem (FuncId × Value)).run Tryz.prog w := by kernel_rfl
theorem meth_less0 (p : Addr) (w : World) : (Go.method 489 307 (.pointer (some p)) "Less").run Tryz.prog w = (do let v ← loadVar 309 p; pure (401, v) : Sem (FuncId × Value)).run Tryz.prog w := by kernel_rfl
theorem meth_swap0 (p : Addr) (w : World) : (Go.method 489 307 (.pointer (some p)) "Swap").run Tryz.prog w = (do let v ← loadVar 309 p; pure (404, v) : Sem (FuncId × Value)).run Tryz.prog w := by kernel_rfl
theorem load_heap {p : Addr} {w : World} {a : Option Addr} {n c : Nat} (h : w.cell? p = some (.slice a n c)) : (loadVar 309 p).run Tryz.prog w = .ok (.slice a n c) w := by
 have u := Tryz.underlying309
 simp [loadVar, isAgg, underlying, u, h, Result.andThen]
theorem meth_len {p : Addr} {w : World} {a : Option Addr} {n c : Nat} (h : w.cell? p = some (.slice a n c)) : (Go.method 489 307 (.pointer (some p)) "Len").run Tryz.prog w = .ok (400, .slice a n c) w := by rw [meth_len0]; simp only [Sem.run_bind, load_heap h, Result.andThen_ok, Sem.run_pure]
theorem meth_less {p : Addr} {w : World} {a : Option Addr} {n c : Nat} (h : w.cell? p = some (.slice a n c)) : (Go.method 489 307 (.pointer (some p)) "Less").run Tryz.prog w = .ok (401, .slice a n c) w := by rw [meth_less0]; simp only [Sem.run_bind, load_heap h, Result.andThen_ok, Sem.run_pure]
theorem meth_swap {p : Addr} {w : World} {a : Option Addr} {n c : Nat} (h : w.cell? p = some (.slice a n c)) : (Go.method 489 307 (.pointer (some p)) "Swap").run Tryz.prog w = .ok (404, .slice a n c) w := by rw [meth_swap0]; simp only [Sem.run_bind, load_heap h, Result.andThen_ok, Sem.run_pure]
theorem at_two {w W0 : World} {o1 o2 : Obj} (e : W0 = (w.alloc o1).alloc o2) : Below w.heap.size w W0 := by
 rw [e]
 exact ((Below.refl _ _).alloc (Nat.le_refl _) _).alloc (by rw [World.size_alloc]; omega) _
theorem heapLess (g n cap i j : Nat) (a b : PSeg) (w : World) (hg : g < w.heap.size) (hi : i < n) (hj : j < n) (ha : IAt psK w g i a) (hb : IAt psK w g j b) :
    CR 401 #[.slice (some ⟨g, 0, none⟩) n cap, .int .i64 (i : Int), .int .i64 (j : Int)] w (.bool (ltP a b)) := by
  obtain ⟨a0, a1, a2, a3, a4, a5⟩ := ha.ps
  obtain ⟨b0, b1, b2, b3, b4, b5⟩ := hb.ps
  have HL := hideP (or_lt a b)
  clear ha hb
  go_enter Tryz.func401, Tryz.ntmps401
  go_wp2_with fail
  go_region
  focus
    obtain ⟨W0, hW0⟩ : ∃ W0, W0 = (w.alloc (.cells #[.int .i64 a.s.fr, .int .i64 a.s.to, .int .i64 a.s.cal, .int .i64 a.s.sty, .int .i64 a.s.off, .int .i64 a.at'] 312)).alloc (.cells #[.int .i64 b.s.fr, .int .i64 b.s.to, .int .i64 b.s.cal, .int .i64 b.s.sty, .int .i64 b.s.off, .int .i64 b.at'] 312) := ⟨_, rfl⟩
    have k1 : Blk W0 w.heap.size #[.int .i64 a.s.fr, .int .i64 a.s.to, .int .i64 a.s.cal, .int .i64 a.s.sty, .int .i64 a.s.off, .int .i64 a.at'] 312 := by rw [hW0]; exact (Blk.new w _ _).alloc _
    have k2 : Blk W0 (w.heap.size + 1) #[.int .i64 b.s.fr, .int .i64 b.s.to, .int .i64 b.s.cal, .int .i64 b.s.sty, .int .i64 b.s.off, .int .i64 b.at'] 312 := by rw [hW0]; have := Blk.new (w.alloc (.cells #[.int .i64 a.s.fr, .int .i64 a.s.to, .int .i64 a.s.cal, .int .i64 a.s.sty, .int .i64 a.s.off, .int .i64 a.at'] 312)) #[.int .i64 b.s.fr, .int .i64 b.s.to, .int .i64 b.s.cal, .int .i64 b.s.sty, .int .i64 b.s.off, .int .i64 b.at'] 312; rw [World.size_alloc] at this; exact this
    have HB := hideP (at_two hW0)
    have c0 : ∀ x : Later W0, x.w.cell? ⟨w.heap.size, 0, none⟩ = some (.int .i64 a.s.fr) := fun x => (k1.later x).cell 0 rfl
    have c1 : ∀ x : Later W0, x.w.cell? ⟨w.heap.size, 1, none⟩ = some (.int .i64 a.s.to) := fun x => (k1.later x).cell 1 rfl
    have c5 : ∀ x : Later W0, x.w.cell? ⟨w.heap.size, 5, none⟩ = some (.int .i64 a.at') := fun x => (k1.later x).cell 5 rfl
    have d0 : ∀ x : Later W0, x.w.cell? ⟨w.heap.size + 1, 0, none⟩ = some (.int .i64 b.s.fr) := fun x => (k2.later x).cell 0 rfl
    have d1 : ∀ x : Later W0, x.w.cell? ⟨w.heap.size + 1, 1, none⟩ = some (.int .i64 b.s.to) := fun x => (k2.later x).cell 1 rfl
    have d5 : ∀ x : Later W0, x.w.cell? ⟨w.heap.size + 1, 5, none⟩ = some (.int .i64 b.at') := fun x => (k2.later x).cell 5 rfl
  rotate_left
  focus
    obtain ⟨W0, hW0⟩ : ∃ W0, W0 = (w.alloc (.cells #[.int .i64 b.s.fr, .int .i64 b.s.to, .int .i64 b.s.cal, .int .i64 b.s.sty, .int .i64 b.s.off, .int .i64 b.at'] 312)).alloc (.cells #[.int .i64 a.s.fr, .int .i64 a.s.to, .int .i64 a.s.cal, .int .i64 a.s.sty, .int .i64 a.s.off, .int .i64 a.at'] 312) := ⟨_, rfl⟩
    have k1 : Blk W0 w.heap.size #[.int .i64 b.s.fr, .int .i64 b.s.to, .int .i64 b.s.cal, .int .i64 b.s.sty, .int .i64 b.s.off, .int .i64 b.at'] 312 := by rw [hW0]; exact (Blk.new w _ _).alloc _
    have k2 : Blk W0 (w.heap.size + 1) #[.int .i64 a.s.fr, .int .i64 a.s.to, .int .i64 a.s.cal, .int .i64 a.s.sty, .int .i64 a.s.off, .int .i64 a.at'] 312 := by rw [hW0]; have := Blk.new (w.alloc (.cells #[.int .i64 b.s.fr, .int .i64 b.s.to, .int .i64 b.s.cal, .int .i64 b.s.sty, .int .i64 b.s.off, .int .i64 b.at'] 312)) #[.int .i64 a.s.fr, .int .i64 a.s.to, .int .i64 a.s.cal, .int .i64 a.s.sty, .int .i64 a.s.off, .int .i64 a.at'] 312; rw [World.size_alloc] at this; exact this
    have HB := hideP (at_two hW0)
    have c0 : ∀ x : Later W0, x.w.cell? ⟨w.heap.size, 0, none⟩ = some (.int .i64 b.s.fr) := fun x => (k1.later x).cell 0 rfl
    have c1 : ∀ x : Later W0, x.w.cell? ⟨w.heap.size, 1, none⟩ = some (.int .i64 b.s.to) := fun x => (k1.later x).cell 1 rfl
    have c5 : ∀ x : Later W0, x.w.cell? ⟨w.heap.size, 5, none⟩ = some (.int .i64 b.at') := fun x => (k1.later x).cell 5 rfl
    have d0 : ∀ x : Later W0, x.w.cell? ⟨w.heap.size + 1, 0, none⟩ = some (.int .i64 a.s.fr) := fun x => (k2.later x).cell 0 rfl
    have d1 : ∀ x : Later W0, x.w.cell? ⟨w.heap.size + 1, 1, none⟩ = some (.int .i64 a.s.to) := fun x => (k2.later x).cell 1 rfl
    have d5 : ∀ x : Later W0, x.w.cell? ⟨w.heap.size + 1, 5, none⟩ = some (.int .i64 a.at') := fun x => (k2.later x).cell 5 rfl
  rotate_left
  all_goals
   rw [← hW0]
   clear k1 k2 hW0 a0 a1 a2 a3 a4 a5 b0 b1 b2 b3 b4 b5
   go_wp2_with fail
   obtain ⟨xd, hxd⟩ : ∃ xd : Later W0, W0.drew.drew = xd.w := ⟨⟨_, (Below.refl _ _).drew.drew⟩, rfl⟩
   refine wp_region_any (by kernel_rfl) ?_
   change wpAny _ _ _ _ (4 + 19) _ _ _
   refine any_prefix (C := fun w' => ∃ x : Later W0, w' = x.w) 19 4 (by decide) (by kernel_rfl) (by kernel_rfl) (by kernel_rfl) (by kernel_rfl) (by kernel_rfl) ⟨xd, hxd⟩ ?_
   simp only [List.take_succ_cons, List.take_zero]
   clear hxd xd
   repeat (go_big_quiet_step (first | (go_at_call 406; exact calls_same (cmpCmp _ _ _))))
   refine quietE fun x5 => ?_
   generalize hx : cmpI a.s.fr b.s.fr = x at *
   generalize hy : cmpI a.s.to b.s.to = y at *
   generalize hz : cmpI a.at' b.at' = z at *
   have HX := hideP hx
   have HY := hideP hy
   have HZ := hideP hz
   clear hx hy hz
   refine wpAny_ready (rs := [19]) (by kernel_rfl) (by simp) ?_
   refine AllReady.cons rfl (fun K hK => ?_) AllReady.nil
   go_simp
   refine hK _ _ ?_
   clear hK K
   refine wpAny_ready (rs := [20]) (by kernel_rfl) (by simp) ?_
   refine AllReady.cons rfl (fun K hK => ?_) AllReady.nil
   go_simp
   refine sameC (cmpOr x y z x5.w.heap.size _ (by simp) (by simp) (by simp)) ?_
   refine hK _ _ ?_
   clear hK K
   refine wpAny_ready (rs := [21]) (by kernel_rfl) (by simp) ?_
   refine AllReady.cons rfl (fun K hK => ?_) AllReady.nil
   go_simp
   refine hK _ _ ?_
   clear hK K
   refine wpAny_ready (rs := [22]) (by kernel_rfl) (by simp) ?_
   refine AllReady.cons rfl (fun K hK => ?_) AllReady.nil
   go_simp
   refine hK _ _ ?_
   clear hK K
   refine wpAny_done (by kernel_rfl) ?_ _
   go_wp2_with fail
   go_ret
   exact ⟨ret_bool HL.out, HB.out.trans ((x5.below.alloc (by exact x5.below.size) _).mono HB.out.size)⟩
def hasDayB (s : Seg) : Bool := decide (s.fr ≤ s.to)
def fullS (l : List Seg) : List Seg := (sortS l).filter hasDayB
def sharedP (L : List Seg) : Prop := ∃ i, 1 ≤ i ∧ i < L.length ∧ (sgA L i).fr ≤ (sgA L (i - 1)).to
noncomputable def sharedB (L : List Seg) : Bool := @decide (sharedP L) (Classical.propDecidable _)
theorem shared_yes {L : List Seg} (h : sharedP L) : sharedB L = true := by unfold sharedB; simp [h]
theorem shared_no {L : List Seg} (h : ¬ sharedP L) : sharedB L = false := by unfold sharedB; simp [h]
def NoSh (L : List Seg) (N k : Nat) : Prop := ∀ j, 1 ≤ j → j < k + 1 → j < N → ¬ (sgA L j).fr ≤ (sgA L (j - 1)).to
def bareI (to : Int) : List Seg → Int → Bool
  | [], _ => true
  | s :: l, n => if n < s.fr then true else if to ≤ s.to then false else bareI to l (max n (s.to + 1))
def bareS (to : Int) : List Seg → Int → Bool
  | [], n => decide (n ≤ to)
  | s :: l, n => if n ≤ to then (if s.to < n then bareS to l n else if n < s.fr then true else if to ≤ s.to then false else bareS to l (s.to + 1)) else false
theorem bareS_no {to n : Int} (h : ¬ n ≤ to) : ∀ L, bareS to L n = false
  | [] => by simp [bareS, h]
  | s :: l => by rw [bareS, if_neg h]
theorem bare_same {to : Int} : ∀ (L : List Seg) (n : Int), (∀ s ∈ L, s.fr ≤ s.to) → n ≤ to → bareI to L n = bareS to L n
  | [], n, _, h => by simp [bareI, bareS, h]
  | s :: l, n, hd, h => by
   have hs := hd s List.mem_cons_self
   have hl : ∀ x ∈ l, x.fr ≤ x.to := fun x hx => hd x (List.mem_cons_of_mem _ hx)
   rw [bareI, bareS, if_pos h]
   by_cases h1 : s.to < n
   · rw [if_pos h1, if_neg (by omega), if_neg (by omega), show max n (s.to + 1) = n by omega]
     exact bare_same l n hl h
   · rw [if_neg h1]
     by_cases h2 : n < s.fr
     · rw [if_pos h2, if_pos h2]
     · rw [if_neg h2, if_neg h2]
       by_cases h3 : to ≤ s.to
       · rw [if_pos h3, if_pos h3]
       · rw [if_neg h3, if_neg h3, show max n (s.to + 1) = s.to + 1 by omega]
         exact bare_same l (s.to + 1) hl (by omega)
theorem full_days (l : List Seg) : ∀ s ∈ fullS l, s.fr ≤ s.to := fun s hs => by
 have := (List.mem_filter.1 hs).2
 simpa [hasDayB] using this
theorem full_len (l : List Seg) : (fullS l).length ≤ l.length := by
 have := List.length_filter_le hasDayB (sortS l)
 rw [sortS_len] at this
 exact this
noncomputable def tileC (f t : Int) (L : List Seg) : Int := if sharedB L = true then 1 else if bareS t L f = true then 2 else 0
noncomputable def tilesZ (f t : Int) (l : List Seg) : Int := tileC f t (fullS l)
theorem filter_snoc {p : Seg → Bool} {L : List Seg} {k : Nat} (h : k < L.length) : (L.take (k + 1)).filter p = (L.take k).filter p ++ (if p (sgA L k) = true then [sgA L k] else []) := by
 rw [sgA_eq h, List.take_succ_eq_append_getElem h, List.filter_append]
 congr 1
 by_cases hp : p L[k] = true
 · simp [hp]
 · simp [hp]
theorem bareI_at {to n : Int} {L : List Seg} {k : Nat} (h : k < L.length) : bareI to (L.drop k) n = if n < (sgA L k).fr then true else if to ≤ (sgA L k).to then false else bareI to (L.drop (k + 1)) (max n ((sgA L k).to + 1)) := by
 rw [List.drop_eq_getElem_cons h, bareI, ← sgA_eq h]
theorem bareS_at {to n : Int} {L : List Seg} {k : Nat} (h : k < L.length) : bareS to (L.drop k) n = if n ≤ to then (if (sgA L k).to < n then bareS to (L.drop (k + 1)) n else if n < (sgA L k).fr then true else if to ≤ (sgA L k).to then false else bareS to (L.drop (k + 1)) ((sgA L k).to + 1)) else false := by
 rw [List.drop_eq_getElem_cons h, bareS, ← sgA_eq h]
theorem bareI_end {to n : Int} {L : List Seg} {k : Nat} (h : L.length ≤ k) : bareI to (L.drop k) n = true := by rw [List.drop_of_length_le h]; rfl
theorem bareS_end {to n : Int} {L : List Seg} {k : Nat} (h : L.length ≤ k) : bareS to (L.drop k) n = decide (n ≤ to) := by rw [List.drop_of_length_le h]; rfl
end Go.Proofs.YtpclaceefapppaaGreatDoor.ctr
