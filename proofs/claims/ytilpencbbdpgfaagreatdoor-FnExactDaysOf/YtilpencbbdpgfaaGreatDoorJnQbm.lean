/- Plain laws of the years of reigns, of no program: how often the day has come that has the month and the day of the first one, by how much the year of a style is above the first one's; that these years go up one by one. A right When is one of three kinds; a feast that is found has its name. Whether a day of a right regime is told by a saying: plain, of no program. Rows of days, ascending and none twice: such a row is told by what is in it. Plain, of no program. The days of a right regime that a predicate wants, segment by segment: plain facts, of no program. The days that a When may lead to: three of each segment; all that can be meant are among them, or patched. Plain, of no program. A row of ints in a block, whatever lies behind it: what is read of it, what a store, a sort, a clearing make of it; what a pass that keeps some of them leaves. -/
import Derived.Test.YtilpencbbdpgfaaGreatDoorJnQax
import Derived.Test.YtilpencbbdpgfaaGreatDoorJnQau
import Derived.Test.YtilpencbbdpgfaaGreatDoorJnQbj
import Derived.Test.YtilpencbbdpgfaaGreatDoorMnsKQ
import Derived.Test.YtilpencbbdpgfaaGreatDoorJnQba
import Derived.Test.YtilpencbbdpgfaaGreatDoorJnQaa
import Derived.Test.YtilpencbbdpgfaaGreatDoorJnQbb
import Derived.Test.YtilpencbbdpgfaaGreatDoorJnQas
import Derived.Sort.Row
import Derived.Sort.Grow
import Derived.Lib.LazyBuf
namespace Go.Proofs.YtilpencbbdpgfaaGreatDoor.ctr
open Go.RowKit
theorem date_parts {c n Y m d : Int} (h : dateOf c n = (c, Y, m, d, true)) : (c = 0 ∨ c = 1) ∧ 1 ≤ Y ∧ Y ≤ 3000 ∧ 1 ≤ m ∧ m ≤ 12 ∧ 1 ≤ d ∧ d ≤ monthDays c Y m ∧ d ≤ 31 ∧ first c Y ≤ n ∧ n < first c (Y + 1) ∧ lineD c Y m d = n := by
  obtain ⟨_, hd, hn⟩ := date_back h
  have hl := line_in hd.1 (dateP_month hd).1 (dateP_month hd).2 hd.2.2.2.1 hd.2.2.2.2
  rw [lineD_dayOf hd] at hn
  rw [hn] at hl
  exact ⟨hd.1, hd.2.1, hd.2.2.1, (dateP_month hd).1, (dateP_month hd).2, hd.2.2.2.1, hd.2.2.2.2, (dateP_day hd).2, hl.1, hl.2, hn⟩
theorem date_between {c a n b Y0 m0 d0 Y1 m1 d1 : Int} (ha : dateOf c a = (c, Y0, m0, d0, true)) (hb : dateOf c b = (c, Y1, m1, d1, true)) (h1 : a ≤ n) (h2 : n ≤ b) : ∃ Y m d, dateOf c n = (c, Y, m, d, true) := by
  obtain ⟨hc, y1, _, _, _, _, _, _, f1, _, _⟩ := date_parts ha
  obtain ⟨_, _, y2, _, _, _, _, _, _, f2, _⟩ := date_parts hb
  have g1 := first_le' hc y1
  have g2 := first_le' hc (show Y1 + 1 ≤ 3001 by omega)
  obtain ⟨n1, n2, z1, z2⟩ := year_in hc (show first c 1 ≤ n by omega) (show n < first c 3001 by omega)
  exact ⟨_, _, _, dateOf_yes hc n1 n2 rfl rfl z1 z2⟩
def datedP (c n : Int) : Prop := (dateOf c n).2.2.2.2 = true
def reignP (c s f t n : Int) : Prop := f ≤ n ∧ n ≤ t ∧ styleP s ∧ datedP c f ∧ datedP c n
noncomputable instance (c s f t n : Int) : Decidable (reignP c s f t n) := Classical.propDecidable _
end Go.Proofs.YtilpencbbdpgfaaGreatDoor.ctr
namespace Go.Proofs.YtilpencbbdpgfaaGreatDoor.ctr
open Go.RowKit
end Go.Proofs.YtilpencbbdpgfaaGreatDoor.ctr
namespace Go.Proofs.YtilpencbbdpgfaaGreatDoor.ctr
open Go.RowKit
noncomputable def segN (r : Rgm) (n : Int) : Seg := atK segK r.segs (segAt r.segs n).toNat
theorem segN_nums {r : Rgm} {n : Int} (hr : regimeB r = true) (h1 : r.fr ≤ n) (h2 : n ≤ r.to) : ((segN r n).cal = 0 ∨ (segN r n).cal = 1) ∧ -3 ≤ (segN r n).off ∧ (segN r n).off ≤ 3 := by
  have h0 := (seg_fact hr n).2 ⟨h1, h2⟩
  rcases segAt_cases r.segs n with ⟨h3, _⟩ | ⟨j, hj, h3, h4, h5⟩
  · omega
  · obtain ⟨_, _, _, hc, _, o1, o2⟩ := segOk_nums (right_seg hr hj).1
    unfold segN
    rw [h3, Int.toNat_natCast]
    exact ⟨hc, o1, o2⟩
theorem line_ends : dayOf 0 1 1 1 = -1 ∧ dayOf 1 1 1 1 = 1 ∧ dayOf 0 3000 12 31 = 1095748 ∧ dayOf 1 3000 12 31 = 1095727 := by decide +kernel
theorem line_dates : dateP 0 1 1 1 ∧ dateP 1 1 1 1 ∧ dateP 0 3000 12 31 ∧ dateP 1 3000 12 31 := by decide +kernel
theorem mid_date {c n : Int} (hc : c = 0 ∨ c = 1) (h1 : 300 ≤ n) (h2 : n ≤ 1091000) : ∃ Y m d, dateOf c n = (c, Y, m, d, true) := by
  obtain ⟨e0, e1, e2, e3⟩ := line_ends
  obtain ⟨p0, p1, p2, p3⟩ := line_dates
  rcases hc with rfl | rfl
  · exact date_between (day_back p0) (day_back p2) (by omega) (by omega)
  · exact date_between (day_back p1) (day_back p3) (by omega) (by omega)
theorem rdg_date {r : Rgm} {n : Int} (hr : regimeB r = true) (h1 : r.fr ≤ n) (h2 : n ≤ r.to) (hp : ¬ 0 ≤ patAt r.pats n) :
    ∃ Y m d, dateOf (segN r n).cal (n + (segN r n).off) = ((segN r n).cal, Y, m, d, true) ∧ (rdgOn r n).cal = (segN r n).cal ∧ (rdgOn r n).sol = Y ∧ (rdgOn r n).mon = m ∧ (rdgOn r n).day = d ∧ dateOk (segN r n).cal Y m d = true ∧ dayOf (segN r n).cal Y m d = n + (segN r n).off := by
  obtain ⟨hc, o1, o2⟩ := segN_nums hr h1 h2
  obtain ⟨n1, n2⟩ := day_in hr h1 h2
  obtain ⟨Y, m, d, he⟩ := mid_date hc (n := n + (segN r n).off) (by omega) (by omega)
  obtain ⟨_, hd, hb⟩ := date_back he
  refine ⟨Y, m, d, he, rfl, ?_, ?_, ?_, by unfold dateOk; exact decide_eq_true hd, hb⟩
  · show (dateOf (segN r n).cal (n + (segN r n).off)).2.1 = Y
    rw [he]
  · show (if 0 ≤ patAt r.pats n then _ else (dateOf (segN r n).cal (n + (segN r n).off)).2.2.1) = m
    rw [if_neg hp, he]
  · show (if 0 ≤ patAt r.pats n then _ else (dateOf (segN r n).cal (n + (segN r n).off)).2.2.2.1) = d
    rw [if_neg hp, he]
end Go.Proofs.YtilpencbbdpgfaaGreatDoor.ctr
namespace Go.Proofs.YtilpencbbdpgfaaGreatDoor.ctr
def DSet (xs : List Int) (P : Int → Prop) : Prop := xs.Pairwise (· < ·) ∧ ∀ z, z ∈ xs ↔ P z
theorem dset_same : ∀ {xs ys : List Int}, xs.Pairwise (· < ·) → ys.Pairwise (· < ·) → (∀ z, z ∈ xs ↔ z ∈ ys) → xs = ys
  | [], [], _, _, _ => rfl
  | [], y :: ys, _, _, h => absurd ((h y).2 (List.mem_cons_self ..)) List.not_mem_nil
  | x :: xs, [], _, _, h => absurd ((h x).1 (List.mem_cons_self ..)) List.not_mem_nil
  | x :: xs, y :: ys, hx, hy, h => by
    obtain ⟨x1, x2⟩ := List.pairwise_cons.1 hx
    obtain ⟨y1, y2⟩ := List.pairwise_cons.1 hy
    have e : x = y := by
      have a := (h x).1 (List.mem_cons_self ..)
      have b := (h y).2 (List.mem_cons_self ..)
      rcases List.mem_cons.1 a with a | a
      · exact a
      · rcases List.mem_cons.1 b with b | b
        · exact b.symm
        · have := x1 _ b
          have := y1 _ a
          omega
    subst e
    rw [dset_same x2 y2 (fun z => ⟨fun hz => by
        rcases List.mem_cons.1 ((h z).1 (List.mem_cons_of_mem _ hz)) with e | e
        · have := x1 _ hz; omega
        · exact e, fun hz => by
        rcases List.mem_cons.1 ((h z).2 (List.mem_cons_of_mem _ hz)) with e | e
        · have := y1 _ hz; omega
        · exact e⟩)]
theorem DSet.eq {xs ys : List Int} {P : Int → Prop} (h : DSet xs P) (k : DSet ys P) : xs = ys := dset_same h.1 k.1 (fun z => (h.2 z).trans (k.2 z).symm)
theorem DSet.imp {xs : List Int} {P Q : Int → Prop} (h : DSet xs P) (k : ∀ z, P z ↔ Q z) : DSet xs Q := ⟨h.1, fun z => (h.2 z).trans (k z)⟩
theorem dset_nil {P : Int → Prop} (h : ∀ z, ¬ P z) : DSet [] P := ⟨List.Pairwise.nil, fun z => ⟨fun k => absurd k List.not_mem_nil, fun k => absurd k (h z)⟩⟩
def daysWhere (a b : Int) (p : Int → Bool) : List Int := ((List.range (b - a + 1).toNat).map (fun i : Nat => a + (i : Int))).filter p
theorem daysWhere_set (a b : Int) (p : Int → Bool) : DSet (daysWhere a b p) (fun z => a ≤ z ∧ z ≤ b ∧ p z = true) := by
  unfold daysWhere
  refine ⟨List.Pairwise.filter _ (List.pairwise_map.2 (List.Pairwise.imp (fun h => by omega) List.pairwise_lt_range)), fun z => ?_⟩
  rw [List.mem_filter, List.mem_map]
  constructor
  · rintro ⟨⟨i, hi, rfl⟩, hp⟩
    have := List.mem_range.1 hi
    exact ⟨by omega, by omega, hp⟩
  · rintro ⟨h1, h2, hp⟩
    exact ⟨⟨(z - a).toNat, List.mem_range.2 (by omega), by omega⟩, hp⟩
theorem daysWhere_len (a b : Int) (p : Int → Bool) : (daysWhere a b p).length ≤ (b - a + 1).toNat := by
  unfold daysWhere
  refine Nat.le_trans (List.length_filter_le ..) ?_
  simp
end Go.Proofs.YtilpencbbdpgfaaGreatDoor.ctr
namespace Go.Proofs.YtilpencbbdpgfaaGreatDoor.ctr
open Go.RowKit
section
variable {r : Rgm} {p : Int → Bool} {y : Int} {xs : List Int} {i : Nat} {n : Int}
end
end Go.Proofs.YtilpencbbdpgfaaGreatDoor.ctr
namespace Go.Proofs.YtilpencbbdpgfaaGreatDoor.ctr
open Go.RowKit
noncomputable def dIn (wh : Whn) (c y : Int) : Int :=
  if wh.kind = 0 then dayOf c y wh.mon wh.day
  else if wh.kind = 1 then dayOf (dayOfRoman c y wh.rom).1 (dayOfRoman c y wh.rom).2.1 (dayOfRoman c y wh.rom).2.2.1 (dayOfRoman c y wh.rom).2.2.2
  else feaDay c y (feaOf wh.feast).name (feaOf wh.feast).mv (feaOf wh.feast).off (feaOf wh.feast).m (feaOf wh.feast).d + wh.plus
noncomputable def candAt (r : Rgm) (s : Say) (k i : Nat) : Int := dIn s.whn (atK segK r.segs k).cal (s.year - 1 + (i : Int)) - (atK segK r.segs k).off
def WD (r : Rgm) (s : Say) (j i : Nat) (xs : List Int) : Prop := (∀ z ∈ xs, ∃ k, k < r.segs.length ∧ (atK segK r.segs k).fr ≤ z ∧ z ≤ (atK segK r.segs k).to) ∧ (∀ k' i', (k' < j ∧ i' < 3 ∨ k' = j ∧ i' < i) → k' < r.segs.length → (atK segK r.segs k').fr ≤ candAt r s k' i' → candAt r s k' i' ≤ (atK segK r.segs k').to → candAt r s k' i' ∈ xs) ∧ xs.length ≤ 3 * j + i
section
variable {r : Rgm} {s : Say} {j i : Nat} {xs : List Int}
theorem WD.next (h : WD r s j 3 xs) : WD r s (j + 1) 0 xs := ⟨h.1, fun k' i' hk => h.2.1 k' i' (by omega), by have := h.2.2; omega⟩
theorem WD.hit (h : WD r s j i xs) (hj : j < r.segs.length) (h1 : (atK segK r.segs j).fr ≤ candAt r s j i) (h2 : candAt r s j i ≤ (atK segK r.segs j).to) : WD r s j (i + 1) (xs ++ [candAt r s j i]) := by
  refine ⟨fun z hz => ?_, fun k' i' hk hl q1 q2 => ?_, by rw [List.length_append]; have := h.2.2; simp; omega⟩
  · rcases List.mem_append.1 hz with hz | hz
    · exact h.1 z hz
    · rw [List.mem_singleton.1 hz]
      exact ⟨j, hj, h1, h2⟩
  · by_cases e : k' = j ∧ i' = i
    · rw [e.1, e.2]
      exact List.mem_append_right _ (List.mem_singleton.2 rfl)
    · exact List.mem_append_left _ (h.2.1 k' i' (by omega) hl q1 q2)
end
end Go.Proofs.YtilpencbbdpgfaaGreatDoor.ctr
namespace Go.Proofs.YtilpencbbdpgfaaGreatDoor.ctr
open Go.RowKit
def RowI (W : World) (g : Nat) (xs : List Int) : Prop := ∃ cs t, Blk W g cs t ∧ ∀ j, j < xs.length → cs[j]? = some (.int .i64 (xs.getD j 0))
theorem RowI.cell {W : World} {g : Nat} {xs : List Int} (h : RowI W g xs) {j : Nat} (hj : j < xs.length) : W.cell? ⟨g, j, none⟩ = some (.int .i64 (xs.getD j 0)) := by
  obtain ⟨cs, t, hb, hc⟩ := h
  exact hb.cell j (hc j hj)
theorem RowI.thaw {W : World} {g : Nat} {xs : List Int} (h : RowI W g xs) (j : Nat) : W.frozen? ⟨g, j, none⟩ = false := by
  obtain ⟨cs, t, hb, hc⟩ := h
  exact hb.thaw j
theorem RowI.lt {W : World} {g : Nat} {xs : List Int} (h : RowI W g xs) : g < W.heap.size := by
  obtain ⟨cs, t, hb, hc⟩ := h
  exact hb.lt
theorem RowI.below {W W' : World} {g : Nat} {xs : List Int} (h : RowI W g xs) (hb : Below W.heap.size W W') : RowI W' g xs := by
  obtain ⟨cs, t, hk, hc⟩ := h
  exact ⟨cs, t, hk.below hb hk.lt, hc⟩
theorem RowI.set {W : World} {g : Nat} {xs : List Int} (h : RowI W g xs) {i : Nat} (hi : i < xs.length) (u : Int) : RowI (W.setCell ⟨g, i, none⟩ (.int .i64 u)) g (xs.set i u) := by
  obtain ⟨cs, t, hb, hc⟩ := h
  refine ⟨_, t, hb.set i _, fun j hj => ?_⟩
  rw [List.length_set] at hj
  have hs : i < cs.size := by
    by_cases k : i < cs.size
    · exact k
    · have := hc i hi
      rw [Array.getElem?_eq_none (by omega)] at this
      cases this
  by_cases e : i = j
  · subst e
    rw [Array.getElem?_setIfInBounds_self_of_lt hs]
    simp [List.getD, hi]
  · rw [Array.getElem?_setIfInBounds_ne e, hc j hj]
    simp [List.getD, List.getElem?_set_ne e]
theorem RowI.take {W : World} {g : Nat} {xs : List Int} (h : RowI W g xs) (k : Nat) : RowI W g (xs.take k) := by
  obtain ⟨cs, t, hb, hc⟩ := h
  refine ⟨cs, t, hb, fun j hj => ?_⟩
  rw [List.length_take] at hj
  rw [hc j (by omega)]
  simp [List.getD, show j < k by omega]
theorem blk_setCells {g : Nat} {t : TypeId} : ∀ (vs : List Value) (o : Nat) (w : World) (cs : Array Value), Blk w g cs t → ∃ cs', Blk (w.setCells g o vs) g cs' t ∧ ∀ j, j < o → cs'[j]? = cs[j]?
  | [], o, w, cs, h => ⟨cs, h, fun _ _ => rfl⟩
  | v :: vs, o, w, cs, h => by
    obtain ⟨cs', h1, h2⟩ := blk_setCells vs (o + 1) (w.setCell ⟨g, o, none⟩ v) _ (h.set o v)
    exact ⟨cs', h1, fun j hj => by rw [h2 j (by omega), Array.getElem?_setIfInBounds_ne (by omega)]⟩
theorem RowI.clear {W : World} {g : Nat} {xs : List Int} (h : RowI W g xs) {k : Nat} (vs : List Value) : RowI (W.setCells g k vs) g (xs.take k) := by
  obtain ⟨cs, t, hb, hc⟩ := h
  obtain ⟨cs', h1, h2⟩ := blk_setCells vs k W cs hb
  refine ⟨cs', t, h1, fun j hj => ?_⟩
  rw [List.length_take] at hj
  rw [h2 j (by omega), hc j (by omega)]
  simp [List.getD, show j < k by omega]
theorem RowI.holds {W : World} {g : Nat} {xs : List Int} (h : RowI W g xs) : Sort.Holds (Value.int .i64) W g 0 xs.toArray := fun j hj => by
  have hj' : j < xs.length := by simpa using hj
  rw [Nat.zero_add]
  refine ⟨?_, h.thaw j⟩
  rw [h.cell hj']
  simp [List.getD, hj', getElem!_pos]
theorem blk_map {w : World} {g : Nat} {cs : Array Value} {t : TypeId} (h : Blk w g cs t) (f : Array Value → Array Value) : Blk (Sort.mapBlock w g f) g (f cs) t := by
  unfold Blk at h ⊢
  simp [Sort.mapBlock, Array.getElem?_modify, h, Sort.onCells]
theorem below_map {B : Nat} {w W : World} {g : Nat} (h : Below B w W) (hg : B ≤ g) (f : Array Value → Array Value) : Below B w (Sort.mapBlock W g f) :=
  ⟨h.os, h.tape, h.output, by show _ ≤ (W.heap.modify g _).size; rw [Array.size_modify]; exact h.size, fun k hk => by
    show (W.heap.modify g _)[k]? = _
    rw [Array.getElem?_modify, if_neg (by omega)]
    exact h.block k hk⟩
theorem below_ahead {B : Nat} {w W : World} (h : Below B w W) (n : Nat) : Below B w (Sort.ahead W n) := ⟨h.os, h.tape, h.output, h.size, h.block⟩
theorem below_grow {B : Nat} {w W : World} (h : Below B w W) (hB : B ≤ W.heap.size) (os : Array Obj) : Below B w (Sort.grow W os) :=
  ⟨h.os, h.tape, h.output, Nat.le_trans h.size (by show _ ≤ (W.heap ++ os).size; rw [Array.size_append]; omega), fun k hk => by
    show (W.heap ++ os)[k]? = _
    rw [Array.getElem?_append_left (by omega)]
    exact h.block k hk⟩
theorem RowI.put {W : World} {g : Nat} {xs ys : List Int} (h : RowI W g xs) (hl : ys.length = xs.length) (n : Nat) : RowI (Sort.putRow (Value.int .i64) (Sort.ahead W n) g 0 ys.toArray) g ys := by
  have hh := Sort.cell?_putRow (Value.int .i64) (Sort.ahead W n) g 0 xs.toArray ys.toArray (Sort.holds_ahead _ _ n _ _ _ h.holds) (by simpa using hl)
  obtain ⟨cs, t, hb, _⟩ := h
  have hb' : Blk (Sort.ahead W n) g cs t := hb
  have hq := blk_map hb' (Sort.putCells (Value.int .i64) 0 ys.toArray)
  refine ⟨_, t, hq, fun j hj => ?_⟩
  have h1 := hh j (by simpa using hj)
  unfold Sort.putRow at h1
  unfold Blk at hq
  rw [Nat.zero_add] at h1
  unfold World.cell? at h1
  simp only [hq] at h1
  simpa [List.getD, hj, getElem!_pos] using h1
theorem RowI.grow {W : World} {g : Nat} {xs : List Int} (h : RowI W g xs) (os : Array Obj) : RowI (Sort.grow W os) g xs := h.below (below_grow (Below.refl _ _) (Nat.le_refl _) os)
theorem RowI.mov {w W : World} {g cap : Nat} {xs : List Int} (h : RowI W g xs) (hg : w.heap.size ≤ g) : MovRow w W (.slice (some ⟨g, 0, none⟩) xs.length cap) xs := by
  obtain ⟨cs, t, hb, hc⟩ := h
  refine ⟨_, cap, rfl, .inr ⟨g, t, (cs.toList.drop xs.length).toArray, rfl, hg, ?_⟩⟩
  have e : cs = ints xs ++ (cs.toList.drop xs.length).toArray := by
    have hs : xs.length ≤ cs.size := by
      by_cases k : xs.length ≤ cs.size
      · exact k
      · have := hc cs.size (by omega)
        rw [Array.getElem?_eq_none (Nat.le_refl _)] at this
        cases this
    apply Array.toList_inj.1
    rw [Array.toList_append]
    show cs.toList = (xs.map (Value.int .i64)) ++ cs.toList.drop xs.length
    have e1 : xs.map (Value.int .i64) = cs.toList.take xs.length := by
      apply List.ext_getElem?
      intro j
      by_cases hj : j < xs.length
      · have := hc j hj
        have h2 : cs.toList[j]? = some (.int .i64 (xs.getD j 0)) := (Array.getElem?_toList ..).trans this
        rw [List.getElem?_take, if_pos hj, h2]
        simp [List.getD, hj]
      · rw [List.getElem?_take, if_neg hj, List.getElem?_eq_none (by simp; omega)]
    rw [e1, List.take_append_drop]
  unfold Blk at hb ⊢
  rw [← e]
  exact hb
theorem own_rowI {w W : World} {v : Value} {xs : List Int} {e : TypeId} (h : W.ownsRow w.heap.size e 1 v xs.length (xs.map (Value.int .i64))) : (xs = [] ∧ v = .slice none 0 0) ∨ ∃ g cap, v = .slice (some ⟨g, 0, none⟩) xs.length cap ∧ xs.length ≤ cap ∧ w.heap.size ≤ g ∧ RowI W g xs := by
  rcases h.2 with ⟨hv, h0⟩ | ⟨g, cap, cur, hv, hb, hh, hcap, _, hsz, htake⟩
  · exact .inl ⟨List.length_eq_zero_iff.1 h0, by rw [hv]⟩
  · refine .inr ⟨g, cap, hv, hcap, hb, cur, e, hh, fun j hj => ?_⟩
    have e1 := congrArg (fun l : List Value => l[j]?) htake
    simp only [List.getElem?_take, show j < xs.length * 1 by omega, if_true, List.getElem?_map, Array.getElem?_toList] at e1
    rw [e1]
    simp [List.getD, hj]
structure Kpt (p : Int → Bool) (xs L : List Int) (i j : Nat) : Prop where
  len : L.length = xs.length
  lt : i < j
  le : j ≤ xs.length
  low : L.take i = (xs.take j).filter p
  high : L.drop j = xs.drop j
theorem Kpt.start {p : Int → Bool} {xs : List Int} {k : Nat} (hk : k < xs.length) (h0 : p (xs.getD k 0) = false) (h : ∀ j, j < k → p (xs.getD j 0) = true) : Kpt p xs xs k (k + 1) where
  len := rfl
  lt := Nat.lt_succ_self _
  le := hk
  low := by
    rw [List.take_succ_eq_append_getElem hk, List.filter_append]
    have e : xs[k] = xs.getD k 0 := by simp [List.getD, hk]
    rw [e, List.filter_cons_of_neg (by rw [h0]; simp), List.filter_nil, List.append_nil]
    refine (List.filter_eq_self.2 (fun a ha => ?_)).symm
    obtain ⟨j, hj, rfl⟩ := List.getElem_of_mem ha
    rw [List.length_take] at hj
    have := h j (by omega)
    rw [List.getElem_take]
    simpa [List.getD, show j < xs.length by omega] using this
  high := rfl
theorem Kpt.at {p : Int → Bool} {xs L : List Int} {i j : Nat} (h : Kpt p xs L i j) : L.getD j 0 = xs.getD j 0 := by
  have e := congrArg (fun l : List Int => l.getD 0 0) h.high
  simpa [List.getD] using e
theorem Kpt.keep {p : Int → Bool} {xs L : List Int} {i j : Nat} (h : Kpt p xs L i j) (hj : j < xs.length) (hp : p (xs.getD j 0) = true) : Kpt p xs (L.set i (xs.getD j 0)) (i + 1) (j + 1) where
  len := by rw [List.length_set, h.len]
  lt := by have := h.lt; omega
  le := hj
  low := by
    have hi : i < L.length := by have := h.lt; have := h.len; omega
    have e : xs[j] = xs.getD j 0 := by simp [List.getD, hj]
    rw [List.take_succ_eq_append_getElem hj, List.filter_append, ← h.low, e, List.filter_cons_of_pos hp, List.filter_nil]
    rw [List.take_succ_eq_append_getElem (by rw [List.length_set]; exact hi), List.getElem_set_self, List.take_set_of_le (Nat.le_refl _)]
  high := by
    rw [List.drop_set_of_lt (by have := h.lt; omega)]
    have e := congrArg (List.drop 1) h.high
    simpa [List.drop_drop] using e
theorem Kpt.skip {p : Int → Bool} {xs L : List Int} {i j : Nat} (h : Kpt p xs L i j) (hj : j < xs.length) (hp : p (xs.getD j 0) = false) : Kpt p xs L i (j + 1) where
  len := h.len
  lt := by have := h.lt; omega
  le := hj
  low := by
    have e : xs[j] = xs.getD j 0 := by simp [List.getD, hj]
    rw [List.take_succ_eq_append_getElem hj, List.filter_append, ← h.low, e, List.filter_cons_of_neg (by rw [hp]; simp), List.filter_nil, List.append_nil]
  high := by
    have e := congrArg (List.drop 1) h.high
    simpa [List.drop_drop] using e
theorem Kpt.done {p : Int → Bool} {xs L : List Int} {i : Nat} (h : Kpt p xs L i xs.length) : L.take i = xs.filter p ∧ i = (xs.filter p).length := by
  have e : L.take i = xs.filter p := by rw [h.low, List.take_length]
  refine ⟨e, ?_⟩
  rw [← e, List.length_take]
  have := h.lt
  have := h.len
  omega
end Go.Proofs.YtilpencbbdpgfaaGreatDoor.ctr
