/- Whether a day of a right regime is told by a saying: plain, of no program; and what else the law reaches. -/
import Derived.Test.YtpclaceefapppaaGreatDoorMnsKZ
import Derived.Test.YtpclaceefapppaaGreatDoorJnZbk
import Derived.Test.YtpclaceefapppaaGreatDoorJnZay
import Derived.Test.YtpclaceefapppaaGreatDoorJnZbf
import Derived.Test.YtpclaceefapppaaGreatDoorJnZai
import Derived.Test.YtpclaceefapppaaGreatDoorJnZaa
import Derived.Test.YtpclaceefapppaaGreatDoorJnZad
import Derived.Deep.DeepCutAuto
import Derived.Deep.CutBlock
import Derived.Stop.Asserts
set_option maxRecDepth 100000
set_option maxHeartbeats 8000000
namespace Go.Proofs.YtpclaceefapppaaGreatDoor.ctr
open Go.RowKit
noncomputable def segN (r : Rgm) (n : Int) : Seg := atK segK r.segs (segAt r.segs n).toNat
theorem segN_nums {r : Rgm} {n : Int} (hr : regimeB r = true) (h1 : r.fr ≤ n) (h2 : n ≤ r.to) : ((segN r n).cal = 0 ∨ (segN r n).cal = 1) ∧ -3 ≤ (segN r n).off ∧ (segN r n).off ≤ 3 := by
 have h0 := (seg_fact hr n).2 ⟨h1, h2⟩
 rcases segAt_cases r.segs n with ⟨h3, _⟩ | ⟨j, hj, h3, h4, h5⟩
 · omega
 · obtain ⟨_, _, _, hc, _, o1, o2⟩ := segOk_nums (right_seg hr hj).1
   unfold segN
   rw [h3, Int.toNat_natCast]
   exact ⟨hc, o1, o2⟩
theorem line_ends : dayOf 0 1 1 1 = -1 ∧ dayOf 1 1 1 1 = 1 ∧ dayOf 0 3000 12 31 = 1095748 ∧ dayOf 1 3000 12 31 = 1095727 := by decide +kernel
theorem line_dates : dateP 0 1 1 1 ∧ dateP 1 1 1 1 ∧ dateP 0 3000 12 31 ∧ dateP 1 3000 12 31 := by decide +kernel
theorem mid_date {c n : Int} (hc : c = 0 ∨ c = 1) (h1 : 300 ≤ n) (h2 : n ≤ 1091000) : ∃ Y m d, dateOf c n = (c, Y, m, d, true) := by
 obtain ⟨e0, e1, e2, e3⟩ := line_ends
 obtain ⟨p0, p1, p2, p3⟩ := line_dates
 rcases hc with rfl | rfl
 · exact date_between (day_back p0) (day_back p2) (by omega) (by omega)
 · exact date_between (day_back p1) (day_back p3) (by omega) (by omega)
noncomputable def whenIsB (r : Rgm) (wh : Whn) (n : Int) : Bool :=
 if wh.kind = 0 then ((rdgOn r n).mon == wh.mon && (rdgOn r n).day == wh.day)
 else if 0 ≤ patAt r.pats n then false
 else if wh.kind = 1 then romEq (romanOf (segN r n).cal (dateOf (segN r n).cal (n + (segN r n).off)).2.1 (dateOf (segN r n).cal (n + (segN r n).off)).2.2.1 (dateOf (segN r n).cal (n + (segN r n).off)).2.2.2.1) wh.rom
 else (feaDay (segN r n).cal (dateOf (segN r n).cal (n + (segN r n).off)).2.1 (feaOf wh.feast).name (feaOf wh.feast).mv (feaOf wh.feast).off (feaOf wh.feast).m (feaOf wh.feast).d + wh.plus == n + (segN r n).off)
noncomputable def headB (x : Rdg) (s : Say) : Bool := x.year == s.year && ((s.sol == -1 || x.sol == s.sol) && (s.cal == -1 || x.cal == s.cal))
noncomputable def saidB (r : Rgm) (s : Say) (n : Int) : Bool := headB (rdgOn r n) s && whenIsB r s.whn n
theorem rdg_date {r : Rgm} {n : Int} (hr : regimeB r = true) (h1 : r.fr ≤ n) (h2 : n ≤ r.to) (hp : ¬ 0 ≤ patAt r.pats n) :
    ∃ Y m d, dateOf (segN r n).cal (n + (segN r n).off) = ((segN r n).cal, Y, m, d, true) ∧ (rdgOn r n).cal = (segN r n).cal ∧ (rdgOn r n).sol = Y ∧ (rdgOn r n).mon = m ∧ (rdgOn r n).day = d ∧ dateOk (segN r n).cal Y m d = true ∧ dayOf (segN r n).cal Y m d = n + (segN r n).off := by
  obtain ⟨hc, o1, o2⟩ := segN_nums hr h1 h2
  obtain ⟨n1, n2⟩ := day_in hr h1 h2
  obtain ⟨Y, m, d, he⟩ := mid_date hc (n := n + (segN r n).off) (by omega) (by omega)
  obtain ⟨_, hd, hb⟩ := date_back he
  refine ⟨Y, m, d, he, rfl, ?_, ?_, ?_, by unfold dateOk; exact decide_eq_true hd, hb⟩
  · show (dateOf (segN r n).cal (n + (segN r n).off)).2.1 = Y
    rw [he]
  · show (if 0 ≤ patAt r.pats n then _ else (dateOf (segN r n).cal (n + (segN r n).off)).2.2.1) = m
    rw [if_neg hp, he]
  · show (if 0 ≤ patAt r.pats n then _ else (dateOf (segN r n).cal (n + (segN r n).off)).2.2.2.1) = d
    rw [if_neg hp, he]
theorem plain_tuple (c : Int) (x : Rdg) : ∃ e0 e1 e2 e3 ok, plainR c x = .tuple #[.agg #[.int .i64 e0, .int .i64 e1, .int .i64 e2, .int .i64 e3], .bool ok] := by
 by_cases h : dateOk c x.sol x.mon x.day = true
 · exact ⟨_, _, _, _, _, plainR_yes h⟩
 · exact ⟨_, _, _, _, _, plainR_no h⟩
theorem rdg_at {r : Rgm} (hr : regimeB r = true) {n : Int} {j : Nat} (hj : j < r.segs.length) (h1 : (atK segK r.segs j).fr ≤ n) (h2 : n ≤ (atK segK r.segs j).to) : rdgOn r n = rdgAt r (atK segK r.segs j) n := by
 unfold rdgOn
 rw [seg_one hr hj h1 h2, Int.toNat_natCast]
theorem sty_val {c s n y : Int} (hy : 1 ≤ y) (h : (styYear c s n).1 = y) : styYear c s n = (y, true) := by
 unfold styYear at h ⊢
 split
 · rename_i k
   rw [if_pos k] at h
   rw [← h]
 · rename_i k
   rw [if_neg k] at h
   simp only at h
   omega
def spanF (s : Seg) (y : Int) : Int := max s.fr (start s.cal s.sty y - s.off)
def spanT (s : Seg) (y : Int) : Int := min s.to (start s.cal s.sty (y + 1) - 1 - s.off)
theorem year_span {r : Rgm} (hr : regimeB r = true) {n : Int} {j : Nat} (hj : j < r.segs.length) (h1 : (atK segK r.segs j).fr ≤ n) (h2 : n ≤ (atK segK r.segs j).to) {y : Int} (y1 : 1 ≤ y) (y2 : y ≤ 3000) : (rdgOn r n).year = y ↔ spanF (atK segK r.segs j) y ≤ n ∧ n ≤ spanT (atK segK r.segs j) y := by
 obtain ⟨n1, n2, n3, n4, n7, n5, n6⟩ := segOk_nums (right_seg hr hj).1
 obtain ⟨Y, M, D, he⟩ := mid_date n4 (n := n + (atK segK r.segs j).off) (by omega) (by omega)
 have hs : styleP (atK segK r.segs j).sty := of_decide_eq_true n7
 rw [rdg_at hr hj h1 h2]
 unfold spanF spanT
 constructor
 · intro h
   have := (sty_iff n4 he).1 (sty_val y1 h)
   omega
 · rintro ⟨g1, g2⟩
   have := (sty_iff n4 he).2 ⟨hs, y1, y2, by omega, by omega⟩
   show (styYear _ _ _).1 = y
   rw [this]
theorem span_near (s : Seg) (y : Int) : s.fr ≤ spanF s y ∧ spanT s y ≤ s.to := by
 unfold spanF spanT
 omega
def SgO (r : Rgm) (p : Int → Bool) (i : Nat) (z : Int) : Prop := (∃ k, k < i ∧ (atK segK r.segs k).fr ≤ z ∧ z ≤ (atK segK r.segs k).to) ∧ p z = true
def SgP (r : Rgm) (p : Int → Bool) (i : Nat) (n z : Int) : Prop := ((∃ k, k < i ∧ (atK segK r.segs k).fr ≤ z ∧ z ≤ (atK segK r.segs k).to) ∨ ((atK segK r.segs i).fr ≤ z ∧ z ≤ (atK segK r.segs i).to ∧ z < n)) ∧ p z = true
section
variable {r : Rgm} {p : Int → Bool} {y : Int} {xs : List Int} {i : Nat} {n : Int}
theorem sg_nil : DSet [] (SgO r p 0) := dset_nil (fun z h => by obtain ⟨⟨k, hk, _⟩, _⟩ := h; omega)
theorem sg_open (hr : regimeB r = true) (hi : i < r.segs.length) (y1 : 1 ≤ y) (y2 : y ≤ 3000) (hp : ∀ z, p z = true → (rdgOn r z).year = y) (h : DSet xs (SgO r p i)) : DSet xs (SgP r p i (spanF (atK segK r.segs i) y)) := by
 refine h.imp (fun z => ⟨fun k => ⟨.inl k.1, k.2⟩, fun k => ?_⟩)
 rcases k with ⟨k | ⟨k1, k2, k3⟩, k4⟩
 · exact ⟨k, k4⟩
 · have := (year_span hr hi k1 k2 y1 y2).1 (hp z k4)
   omega
theorem sg_close (hr : regimeB r = true) (hi : i < r.segs.length) (y1 : 1 ≤ y) (y2 : y ≤ 3000) (hp : ∀ z, p z = true → (rdgOn r z).year = y) (hn : spanT (atK segK r.segs i) y < n) (h : DSet xs (SgP r p i n)) : DSet xs (SgO r p (i + 1)) := by
 refine h.imp (fun z => ⟨fun k => ?_, fun k => ?_⟩)
 · rcases k with ⟨⟨k, hk, k1, k2⟩ | ⟨k1, k2, k3⟩, k4⟩
   · exact ⟨⟨k, by omega, k1, k2⟩, k4⟩
   · exact ⟨⟨i, by omega, k1, k2⟩, k4⟩
 · obtain ⟨⟨k, hk, k1, k2⟩, k4⟩ := k
   by_cases e : k = i
   · subst e
     have := (year_span hr hi k1 k2 y1 y2).1 (hp z k4)
     exact ⟨.inr ⟨k1, k2, by omega⟩, k4⟩
   · exact ⟨.inl ⟨k, by omega, k1, k2⟩, k4⟩
theorem sg_miss (hp : p n = false) (h : DSet xs (SgP r p i n)) : DSet xs (SgP r p i (n + 1)) := by
 refine h.imp (fun z => ⟨fun k => ?_, fun k => ?_⟩)
 · rcases k with ⟨k | ⟨k1, k2, k3⟩, k4⟩
   · exact ⟨.inl k, k4⟩
   · exact ⟨.inr ⟨k1, k2, by omega⟩, k4⟩
 · rcases k with ⟨k | ⟨k1, k2, k3⟩, k4⟩
   · exact ⟨.inl k, k4⟩
   · by_cases e : z = n
     · subst e
       rw [hp] at k4
       cases k4
     · exact ⟨.inr ⟨k1, k2, by omega⟩, k4⟩
theorem sg_hit (hr : regimeB r = true) (hi : i < r.segs.length) (h1 : (atK segK r.segs i).fr ≤ n) (h2 : n ≤ (atK segK r.segs i).to) (hp : p n = true) (h : DSet xs (SgP r p i n)) : DSet (xs ++ [n]) (SgP r p i (n + 1)) := by
 refine h.snoc (fun z k => ?_) (fun z => ⟨fun k => ?_, fun k => ?_⟩)
 · rcases k with ⟨⟨k, hk, k1, k2⟩ | ⟨k1, k2, k3⟩, k4⟩
   · have := right_far hr hk hi
     omega
   · exact k3
 · rcases k with ⟨k | ⟨k1, k2, k3⟩, k4⟩
   · exact .inl ⟨.inl k, k4⟩
   · by_cases e : z = n
     · exact .inr e
     · exact .inl ⟨.inr ⟨k1, k2, by omega⟩, k4⟩
 · rcases k with ⟨k | ⟨k1, k2, k3⟩, k4⟩ | rfl
   · exact ⟨.inl k, k4⟩
   · exact ⟨.inr ⟨k1, k2, by omega⟩, k4⟩
   · exact ⟨.inr ⟨h1, h2, by omega⟩, hp⟩
theorem sg_in (hr : regimeB r = true) (hi : i < r.segs.length) {z : Int} (h : SgP r p i n z) : r.fr ≤ z ∧ z ≤ r.to ∧ 400 ≤ z ∧ z ≤ 1090000 := by
 rcases h with ⟨⟨k, hk, k1, k2⟩ | ⟨k1, k2, k3⟩, k4⟩
 · have a := right_seg hr (k := k) (by omega)
   have b := segOk_nums a.1
   omega
 · have a := right_seg hr hi
   have b := segOk_nums a.1
   omega
theorem sg_len (hr : regimeB r = true) (hi : i < r.segs.length) (h : DSet xs (SgP r p i n)) : xs.length ≤ 1090000 := by
 have := dset_len h (a := 400) (b := 1090000) (fun z k => by have := sg_in hr hi k; omega)
 omega
theorem sg_all (hr : regimeB r = true) (h : DSet xs (SgO r p r.segs.length)) : xs = daysWhere r.fr r.to p := by
 refine h.eq ((daysWhere_set r.fr r.to p).imp (fun z => ⟨fun k => ?_, fun k => ?_⟩))
 · obtain ⟨k1, k2, k3⟩ := k
   rcases segAt_cases r.segs z with ⟨h3, _⟩ | ⟨j, hj, _, h4, h5⟩
   · have := (seg_fact hr z).2 ⟨k1, k2⟩
     omega
   · exact ⟨⟨j, hj, h4, h5⟩, k3⟩
 · obtain ⟨⟨k, hk, k1, k2⟩, k3⟩ := k
   have a := right_seg hr hk
   exact ⟨by omega, by omega, k3⟩
end
noncomputable def daysSaid (r : Rgm) (s : Say) : List Int := if regimeB r = true ∧ sayB s = true then daysWhere r.fr r.to (saidB r s) else []
theorem said_year {r : Rgm} {s : Say} (z : Int) (h : saidB r s z = true) : (rdgOn r z).year = s.year := by
 unfold saidB headB at h
 simp only [Bool.and_eq_true, beq_iff_eq] at h
 exact h.1.1
theorem say_year {s : Say} (h : sayB s = true) : 1 ≤ s.year ∧ s.year ≤ 3000 := by
 unfold sayB at h
 simp only [Bool.and_eq_true] at h
 exact of_inB h.2.1
theorem right_len {r : Rgm} (hr : regimeB r = true) (p : Int → Bool) : (daysWhere r.fr r.to p).length ≤ 1090000 := by
 have a := right_segs hr
 have h := daysWhere_set r.fr r.to p
 have := dset_len h (a := 400) (b := 1090000) (fun z k => by
  rcases segAt_cases r.segs z with ⟨h3, _⟩ | ⟨j, hj, _, h4, h5⟩
  · have := (seg_fact hr z).2 ⟨k.1, k.2.1⟩
    omega
  · have b := segOk_nums (right_seg hr hj).1
    omega)
 omega
theorem said_len (r : Rgm) (s : Say) : (daysSaid r s).length ≤ 1090000 := by
 unfold daysSaid
 split
 · rename_i h
   exact right_len h.1 _
 · simp
noncomputable def dIn (wh : Whn) (c y : Int) : Int :=
 if wh.kind = 0 then dayOf c y wh.mon wh.day
 else if wh.kind = 1 then dayOf (dayOfRoman c y wh.rom).1 (dayOfRoman c y wh.rom).2.1 (dayOfRoman c y wh.rom).2.2.1 (dayOfRoman c y wh.rom).2.2.2
 else feaDay c y (feaOf wh.feast).name (feaOf wh.feast).mv (feaOf wh.feast).off (feaOf wh.feast).m (feaOf wh.feast).d + wh.plus
noncomputable def candAt (r : Rgm) (s : Say) (k i : Nat) : Int := dIn s.whn (atK segK r.segs k).cal (s.year - 1 + (i : Int)) - (atK segK r.segs k).off
def WD (r : Rgm) (s : Say) (j i : Nat) (xs : List Int) : Prop := (∀ z ∈ xs, ∃ k, k < r.segs.length ∧ (atK segK r.segs k).fr ≤ z ∧ z ≤ (atK segK r.segs k).to) ∧ (∀ k' i', (k' < j ∧ i' < 3 ∨ k' = j ∧ i' < i) → k' < r.segs.length → (atK segK r.segs k').fr ≤ candAt r s k' i' → candAt r s k' i' ≤ (atK segK r.segs k').to → candAt r s k' i' ∈ xs) ∧ xs.length ≤ 3 * j + i
section
variable {r : Rgm} {s : Say} {j i : Nat} {xs : List Int}
theorem wd_nil : WD r s 0 0 [] := ⟨fun z h => absurd h List.not_mem_nil, fun k' i' h => by omega, Nat.zero_le _⟩
theorem WD.next (h : WD r s j 3 xs) : WD r s (j + 1) 0 xs := ⟨h.1, fun k' i' hk => h.2.1 k' i' (by omega), by have := h.2.2; omega⟩
theorem WD.hit (h : WD r s j i xs) (hj : j < r.segs.length) (h1 : (atK segK r.segs j).fr ≤ candAt r s j i) (h2 : candAt r s j i ≤ (atK segK r.segs j).to) : WD r s j (i + 1) (xs ++ [candAt r s j i]) := by
 refine ⟨fun z hz => ?_, fun k' i' hk hl q1 q2 => ?_, by rw [List.length_append]; have := h.2.2; simp; omega⟩
 · rcases List.mem_append.1 hz with hz | hz
   · exact h.1 z hz
   · rw [List.mem_singleton.1 hz]
     exact ⟨j, hj, h1, h2⟩
 · by_cases e : k' = j ∧ i' = i
   · rw [e.1, e.2]
     exact List.mem_append_right _ (List.mem_singleton.2 rfl)
   · exact List.mem_append_left _ (h.2.1 k' i' (by omega) hl q1 q2)
theorem WD.miss (h : WD r s j i xs) (h1 : ¬ ((atK segK r.segs j).fr ≤ candAt r s j i ∧ candAt r s j i ≤ (atK segK r.segs j).to)) : WD r s j (i + 1) xs := by
 refine ⟨h.1, fun k' i' hk hl q1 q2 => ?_, by have := h.2.2; omega⟩
 by_cases e : k' = j ∧ i' = i
 · rw [e.1, e.2] at q1 q2
   exact absurd ⟨q1, q2⟩ h1
 · exact h.2.1 k' i' (by omega) hl q1 q2
end
theorem raw_near (c s Y n : Int) : Y - 1 ≤ rawYear c s Y n ∧ rawYear c s Y n ≤ Y + 1 := by
 unfold rawYear
 split
 · omega
 · split <;> omega
theorem said_cand {r : Rgm} {s : Say} (hr : regimeB r = true) (hs : sayB s = true) {n : Int} {j : Nat} (hj : j < r.segs.length) (h1 : (atK segK r.segs j).fr ≤ n) (h2 : n ≤ (atK segK r.segs j).to) (hp : ¬ 0 ≤ patAt r.pats n) (h : saidB r s n = true) : ∃ i, i < 3 ∧ candAt r s j i = n := by
 have hin := right_seg hr hj
 have hsg : segN r n = atK segK r.segs j := by unfold segN; rw [seg_one hr hj h1 h2, Int.toNat_natCast]
 obtain ⟨Y, M, D, he, hc, hY, hM, hD, hok, hday⟩ := rdg_date hr (n := n) (by omega) (by omega) hp
 rw [hsg] at he hc hok hday
 obtain ⟨n1, n2, n3, n4, n7, n5, n6⟩ := segOk_nums hin.1
 obtain ⟨y1, y2⟩ := say_year hs
 have hyr := said_year n h
 rw [rdg_at hr hj h1 h2] at hyr
 have hsy := sty_val y1 (show (styYear (atK segK r.segs j).cal (atK segK r.segs j).sty (n + (atK segK r.segs j).off)).1 = s.year from hyr)
 have hnear : Y - 1 ≤ s.year ∧ s.year ≤ Y + 1 := by
  unfold styYear at hsy
  rw [he] at hsy
  split at hsy
  · have := raw_near (atK segK r.segs j).cal (atK segK r.segs j).sty Y (n + (atK segK r.segs j).off)
    have e : rawYear (atK segK r.segs j).cal (atK segK r.segs j).sty Y (n + (atK segK r.segs j).off) = s.year := congrArg Prod.fst hsy
    omega
  · have e : (0 : Int) = s.year := congrArg Prod.fst hsy
    omega
 obtain ⟨i, hi3, hi⟩ : ∃ i : Nat, i < 3 ∧ s.year - 1 + (i : Int) = Y := ⟨(Y - (s.year - 1)).toNat, by omega, by omega⟩
 refine ⟨i, hi3, ?_⟩
 have hwh : whenIsB r s.whn n = true := by unfold saidB at h; simp only [Bool.and_eq_true] at h; exact h.2
 unfold candAt
 rw [hi]
 unfold whenIsB at hwh
 unfold dIn
 rw [hsg, he] at hwh
 by_cases k0 : s.whn.kind = 0
 · rw [if_pos k0] at hwh
   rw [if_pos k0]
   simp only [Bool.and_eq_true, beq_iff_eq] at hwh
   rw [← hwh.1, ← hwh.2, hM, hD, hday]
   omega
 · rw [if_neg k0, if_neg hp] at hwh
   rw [if_neg k0]
   by_cases k1 : s.whn.kind = 1
   · rw [if_pos k1] at hwh
     rw [if_pos k1]
     have hro : romanOf (atK segK r.segs j).cal Y M D = s.whn.rom := by
      unfold romEq at hwh
      simp only [Bool.and_eq_true, beq_iff_eq] at hwh
      obtain ⟨q1, q2, q3, q4⟩ := hwh
      cases hq : romanOf (atK segK r.segs j).cal Y M D
      cases hw : s.whn.rom
      rw [hq] at q1 q2 q3 q4
      rw [hw] at q1 q2 q3 q4
      simp only at q1 q2 q3 q4
      rw [q1, q2, q3, q4]
     have hid : isDay (atK segK r.segs j).cal Y s.whn.rom M D := ⟨of_decide_eq_true hok, hro⟩
     rw [romDay_yes hid]
     show dayOf (atK segK r.segs j).cal Y M D - _ = n
     rw [hday]
     omega
   · rw [if_neg k1] at hwh
     rw [if_neg k1]
     have e := eq_of_beq hwh
     dsimp only at e
     omega
theorem said_all {r : Rgm} {s : Say} (hr : regimeB r = true) (hs : sayB s = true) {xs : List Int} (h : WD r s r.segs.length 0 xs) {n : Int} (h1 : r.fr ≤ n) (h2 : n ≤ r.to) (hn : saidB r s n = true) : n ∈ xs ∨ 0 ≤ patAt r.pats n := by
 by_cases hp : 0 ≤ patAt r.pats n
 · exact .inr hp
 refine .inl ?_
 rcases segAt_cases r.segs n with ⟨h3, _⟩ | ⟨j, hj, _, h4, h5⟩
 · have := (seg_fact hr n).2 ⟨h1, h2⟩
   omega
 · obtain ⟨i, hi, e⟩ := said_cand hr hs hj h4 h5 hp hn
   have := h.2.1 j i (.inl ⟨hj, hi⟩) hj (by rw [e]; exact h4) (by rw [e]; exact h5)
   rw [e] at this
   exact this
theorem irD (v : Value) (w : World) : (Instr.typeAssert (.iface 218 v) 150 154 true).run Tryz.prog w = .ok (.tuple #[.iface 218 v, .bool true]) w := run_typeAssert_hasB Tryz.underlying154 (by kernel_rfl) v _ w
theorem irR (v : Value) (w : World) : (Instr.typeAssert (.iface 220 v) 150 154 true).run Tryz.prog w = .ok (.tuple #[.nilIface, .bool false]) w := run_typeAssert_lacksB Tryz.underlying154 (by kernel_rfl) (by kernel_rfl) v _ w
theorem irF (v : Value) (w : World) : (Instr.typeAssert (.iface 223 v) 150 154 true).run Tryz.prog w = .ok (.tuple #[.nilIface, .bool false]) w := run_typeAssert_lacksB Tryz.underlying154 (by kernel_rfl) (by kernel_rfl) v _ w
theorem idR (v : Value) (w : World) : (Instr.typeAssert (.iface 220 v) 150 158 true).run Tryz.prog w = .ok (.tuple #[.iface 220 v, .bool true]) w := run_typeAssert_hasB Tryz.underlying158 (by kernel_rfl) v _ w
theorem idF (v : Value) (w : World) : (Instr.typeAssert (.iface 223 v) 150 158 true).run Tryz.prog w = .ok (.tuple #[.iface 223 v, .bool true]) w := run_typeAssert_hasB Tryz.underlying158 (by kernel_rfl) v _ w
theorem implIsSaid (v : Value) (r : Rgm) (s : Say) (n : Int) (w : World) (h : GRow w v r) (hr : regimeB r = true) (h1 : r.fr ≤ n) (h2 : n ≤ r.to) (hs : sayB s = true) (hT : Tab w) : CR 83 #[v, sayV s, .int .i64 n, rdgV (rdgOn r n)] w (.bool (saidB r s n)) := by
 have hG := h
 obtain ⟨v1, v2, v3, rfl, _⟩ := h
 obtain ⟨⟨k, m, d, ⟨a, b, c, t⟩, f, p⟩, y, so, ca⟩ := s
 have hw : whnB ⟨k, m, d, ⟨a, b, c, t⟩, f, p⟩ = true := by unfold sayB at hs; simp only [Bool.and_eq_true] at hs; exact hs.1
 have HRD := fun hp => rdg_date (n := n) hr h1 h2 hp
 have KA : ∀ W, Below w.heap.size w W → CR 135 #[.agg #[.string r.name, .int .i64 r.fr, .int .i64 r.to, v1, v2, v3, .int .i64 r.rule], .int .i64 n] W (.int .i64 (patAt r.pats n)) := fun W hb => implPatAt _ r n W (hG.below hb)
 have KPl : ∀ (x : Rdg) W, Below w.heap.size w W → CR 134 #[rdgV x] W (plainR x.cal x) := fun x W hb => implPlain x W (hT.later hb)
 have HS : Hid (saidB r ⟨⟨k, m, d, ⟨a, b, c, t⟩, f, p⟩, y, so, ca⟩ n = (headB (rdgOn r n) ⟨⟨k, m, d, ⟨a, b, c, t⟩, f, p⟩, y, so, ca⟩ && whenIsB r ⟨k, m, d, ⟨a, b, c, t⟩, f, p⟩ n)) := rfl
 generalize saidB r ⟨⟨k, m, d, ⟨a, b, c, t⟩, f, p⟩, y, so, ca⟩ n = ans at *
 generalize hx : rdgOn r n = x at *
 obtain ⟨xc, xy, xs, xm, xd⟩ := x
 obtain ⟨WA, eA, HPa, HSa, HXa, HBa⟩ := boxes3 w #[.string r.name, .int .i64 r.fr, .int .i64 r.to, v1, v2, v3, .int .i64 r.rule] #[.int .i64 k, .int .i64 m, .int .i64 d, .int .i64 a, .int .i64 b, .int .i64 c, .bool t, .string f, .int .i64 p, .int .i64 y, .int .i64 so, .int .i64 ca] #[.int .i64 xc, .int .i64 xy, .int .i64 xs, .int .i64 xm, .int .i64 xd] 35 58 110
 have HA := hideP eA
 have HBl : Hid (∀ x : Later WA, Below w.heap.size w x.w) := fun x => HBa.trans (x.below.mono HBa.size)
 have HP2 : Hid (∀ x : Later WA, Blk x.w w.heap.size #[.string r.name, .int .i64 r.fr, .int .i64 r.to, v1, v2, v3, .int .i64 r.rule] 35) := fun x => HPa.later x
 have HS2 : Hid (∀ x : Later WA, Blk x.w (w.heap.size + 1) #[.int .i64 k, .int .i64 m, .int .i64 d, .int .i64 a, .int .i64 b, .int .i64 c, .bool t, .string f, .int .i64 p, .int .i64 y, .int .i64 so, .int .i64 ca] 58) := fun x => HSa.later x
 have HX2 : Hid (∀ x : Later WA, Blk x.w (w.heap.size + 2) #[.int .i64 xc, .int .i64 xy, .int .i64 xs, .int .i64 xm, .int .i64 xd] 110) := fun x => HXa.later x
 obtain ⟨cr0, cr1, cr2, cr3, cr4, cr5, cr6⟩ := cells7 HP2.out
 obtain ⟨cs0, cs1, cs2, cs3, cs4, cs5, cs6, cs7, cs8, cs9, cs10, cs11⟩ := cells12 HS2.out
 obtain ⟨cx0, cx1, cx2, cx3, cx4⟩ := cells5 HX2.out
 obtain ⟨x0, hx0⟩ : ∃ x0 : Later WA, WA = x0.w := ⟨⟨WA, Below.refl _ _⟩, rfl⟩
 have HX0 := hideP (eA.symm.trans hx0)
 obtain ⟨B, hB⟩ : ∃ B, B = headB ⟨xc, xy, xs, xm, xd⟩ ⟨⟨k, m, d, ⟨a, b, c, t⟩, f, p⟩, y, so, ca⟩ := ⟨_, rfl⟩
 have HB : Hid (B = (xy == y && ((so == -1 || xs == so) && (ca == -1 || xc == ca)))) := hB
 rw [← hB] at HS
 clear hB eA hx0 HPa HSa HXa HBa
 have HWH := hideP (whn_cases hw)
 have HX := hideP hx
 clear hw hs hx
 go_enter Tryz.func83, Tryz.ntmps83
 go_upto_region 1 with fail
 rw [HX0.out]
 generalize sayV ⟨⟨k, m, d, ⟨a, b, c, t⟩, f, p⟩, y, so, ca⟩ = VS
 generalize rdgV ⟨xc, xy, xs, xm, xd⟩ = VX
 go_cut [44] from 16 to 43 (fun s44 wx => s44 = .bool (!B) ∧ wx = x0.w)
 case first =>
  clear HRD KA KPl HS HWH HX HP2 HS2 HX2
  go_wp2_with fail
  all_goals (go_meet; exact ⟨by rw [HB.out]; first | (simp_all; done) | (simp_all; rfl), rfl⟩)
 case rest =>
 obtain ⟨rfl, rfl⟩ := hcut
 clear HB
 cases B
 · obtain rfl : ans = false := HS.out.trans rfl
   go_wp2
   go_ret
   exact ⟨rfl, HBl.out x0⟩
 have HQ : Hid (ans = whenIsB r ⟨k, m, d, ⟨a, b, c, t⟩, f, p⟩ n) := HS.out.trans (by rw [Bool.true_and])
 clear HS HX0 HA
 rcases HWH.out with ⟨rfl, rfl, rfl, rfl, rfl, rfl, rfl, m1, m2, d1, d2⟩ | ⟨rfl, rfl, rfl, rfl, rfl, _⟩ | ⟨rfl, rfl, rfl, rfl, rfl, rfl, rfl, hz, p1, p2⟩
 · have KK : ∀ W, CR 133 #[.agg #[.int .i64 0, .int .i64 m, .int .i64 d, .int .i64 0, .int .i64 0, .int .i64 0, .bool false, .string ⟨#[]⟩, .int .i64 0]] W (.iface 218 (.agg #[.int .i64 m, .int .i64 d])) := fun W => kindDay m d W
   obtain ⟨R, hR⟩ : ∃ R, R = (xm == m && xd == d) := ⟨_, rfl⟩
   have KM : ∀ W, CR 376 #[.agg #[.int .i64 m, .int .i64 d], .agg #[.int .i64 xc, .int .i64 xy, .int .i64 xs, .int .i64 xm, .int .i64 xd]] W (.bool R) := fun W => by rw [hR]; exact dayIsReading m d ⟨xc, xy, xs, xm, xd⟩ W
   have q1 := irD
   obtain rfl : ans = R := HQ.out.trans (by unfold whenIsB; rw [if_pos rfl, HX.out, hR])
   clear HQ hR HRD KA KPl HWH m1 m2 d1 d2
   go_wp2_with fail
   refine lat (KK _) fun x1 => ?_
   go_wp2_with fail
   refine lat (KM _) fun x2 => ?_
   go_wp2
   go_ret
   exact ⟨rfl, HBl.out x2⟩
 focus
   have KK : ∀ W, CR 133 #[.agg #[.int .i64 1, .int .i64 0, .int .i64 0, .int .i64 a, .int .i64 b, .int .i64 c, .bool t, .string ⟨#[]⟩, .int .i64 0]] W (.iface 220 (.agg #[.int .i64 a, .int .i64 b, .int .i64 c, .bool t])) := fun W => kindRom a b c t W
   have q1 := irR
   have q2 := idR
   by_cases hp : 0 ≤ patAt r.pats n
   · obtain rfl : ans = false := HQ.out.trans (by unfold whenIsB; rw [if_neg (show ¬ (1 : Int) = 0 by omega), if_pos hp])
     obtain ⟨e0, e1, e2, e3, ok, hpl⟩ := plain_tuple xc ⟨xc, xy, xs, xm, xd⟩
     have KPx : ∀ W, Below w.heap.size w W → CR 134 #[.agg #[.int .i64 xc, .int .i64 xy, .int .i64 xs, .int .i64 xm, .int .i64 xd]] W (.tuple #[.agg #[.int .i64 e0, .int .i64 e1, .int .i64 e2, .int .i64 e3], .bool ok]) := fun W hb => by rw [← hpl]; exact KPl ⟨xc, xy, xs, xm, xd⟩ W hb
     generalize patAt r.pats n = pt at *
     clear HQ HRD KPl HWH hpl
     go_wp2_with fail
     refine lat (KK _) fun x1 => ?_
     go_wp2_with fail
     refine lat (KPx _ (HBl.out x1)) fun x2 => ?_
     obtain ⟨x3, hx3, Z3⟩ := x2.fresh #[.int .i64 e0, .int .i64 e1, .int .i64 e2, .int .i64 e3] 161
     have HX3 := hideP hx3
     clear hx3
     go_upto_region 10 with fail
     rw [HX3.out]
     go_wp2_with fail
     refine (KA _ (HBl.out x3)).mono ?_
     rintro e w4 ⟨rfl, hb⟩
     have Z4 : Hid (Blk w4 x2.w.heap.size #[.int .i64 e0, .int .i64 e1, .int .i64 e2, .int .i64 e3] 161) := Z3.out.below hb Z3.out.lt
     obtain ⟨x4, rfl⟩ := x3.next hb
     clear hb HX3 Z3
     go_wp2
     go_ret
     exact ⟨rfl, HBl.out x4⟩
   obtain ⟨Y, M, D, he, hc, hY, hM, hD, hok, hday⟩ := HRD hp
   simp only at hc hY hM hD
   subst hY hM hD
   have KPx : ∀ W, Below w.heap.size w W → CR 134 #[.agg #[.int .i64 xc, .int .i64 xy, .int .i64 xs, .int .i64 xm, .int .i64 xd]] W (.tuple #[.agg #[.int .i64 xc, .int .i64 xs, .int .i64 xm, .int .i64 xd], .bool true]) := fun W hb => by rw [← plainR_yes (c := xc) (x := ⟨xc, xy, xs, xm, xd⟩) (by rw [hc]; exact hok)]; exact KPl ⟨xc, xy, xs, xm, xd⟩ W hb
   obtain ⟨R, hR⟩ : ∃ R, R = romEq (romanOf xc xs xm xd) ⟨a, b, c, t⟩ := ⟨_, rfl⟩
   have KM : ∀ W, Below w.heap.size w W → CR 379 #[.agg #[.int .i64 a, .int .i64 b, .int .i64 c, .bool t], .agg #[.int .i64 xc, .int .i64 xs, .int .i64 xm, .int .i64 xd]] W (.bool R) := fun W hb => by rw [hR]; exact romIsDate a b c t xc xs xm xd W (hT.later hb)
   obtain rfl : ans = R := HQ.out.trans (by unfold whenIsB; rw [if_neg (show ¬ (1 : Int) = 0 by omega), if_neg hp, if_pos rfl, he, ← hc, hR])
 rotate_left
 focus
   have KK : ∀ W, CR 133 #[.agg #[.int .i64 2, .int .i64 0, .int .i64 0, .int .i64 0, .int .i64 0, .int .i64 0, .bool false, .string f, .int .i64 p]] W (.iface 223 (.agg #[.string (feaOf f).name, .bool (feaOf f).mv, .int .i64 (feaOf f).off, .int .i64 (feaOf f).m, .int .i64 (feaOf f).d, .int .i64 p])) := fun W => kindFea f p W
   have q1 := irF
   have q2 := idF
   by_cases hp : 0 ≤ patAt r.pats n
   · obtain rfl : ans = false := HQ.out.trans (by unfold whenIsB; rw [if_neg (show ¬ (2 : Int) = 0 by omega), if_pos hp])
     obtain ⟨e0, e1, e2, e3, ok, hpl⟩ := plain_tuple xc ⟨xc, xy, xs, xm, xd⟩
     have KPx : ∀ W, Below w.heap.size w W → CR 134 #[.agg #[.int .i64 xc, .int .i64 xy, .int .i64 xs, .int .i64 xm, .int .i64 xd]] W (.tuple #[.agg #[.int .i64 e0, .int .i64 e1, .int .i64 e2, .int .i64 e3], .bool ok]) := fun W hb => by rw [← hpl]; exact KPl ⟨xc, xy, xs, xm, xd⟩ W hb
     generalize patAt r.pats n = pt at *
     clear HQ HRD KPl HWH hpl
     go_wp2_with fail
     refine lat (KK _) fun x1 => ?_
     go_wp2_with fail
     refine lat (KPx _ (HBl.out x1)) fun x2 => ?_
     obtain ⟨x3, hx3, Z3⟩ := x2.fresh #[.int .i64 e0, .int .i64 e1, .int .i64 e2, .int .i64 e3] 161
     have HX3 := hideP hx3
     clear hx3
     go_upto_region 10 with fail
     rw [HX3.out]
     go_wp2_with fail
     refine (KA _ (HBl.out x3)).mono ?_
     rintro e w4 ⟨rfl, hb⟩
     have Z4 : Hid (Blk w4 x2.w.heap.size #[.int .i64 e0, .int .i64 e1, .int .i64 e2, .int .i64 e3] 161) := Z3.out.below hb Z3.out.lt
     obtain ⟨x4, rfl⟩ := x3.next hb
     clear hb HX3 Z3
     go_wp2
     go_ret
     exact ⟨rfl, HBl.out x4⟩
   obtain ⟨Y, M, D, he, hc, hY, hM, hD, hok, hday⟩ := HRD hp
   simp only at hc hY hM hD
   subst hY hM hD
   have KPx : ∀ W, Below w.heap.size w W → CR 134 #[.agg #[.int .i64 xc, .int .i64 xy, .int .i64 xs, .int .i64 xm, .int .i64 xd]] W (.tuple #[.agg #[.int .i64 xc, .int .i64 xs, .int .i64 xm, .int .i64 xd], .bool true]) := fun W hb => by rw [← plainR_yes (c := xc) (x := ⟨xc, xy, xs, xm, xd⟩) (by rw [hc]; exact hok)]; exact KPl ⟨xc, xy, xs, xm, xd⟩ W hb
   obtain ⟨R, hR⟩ : ∃ R, R = (feaDay xc xs (feaOf f).name (feaOf f).mv (feaOf f).off (feaOf f).m (feaOf f).d + p == dayOf xc xs xm xd) := ⟨_, rfl⟩
   have KM : ∀ W, Below w.heap.size w W → CR 382 #[.agg #[.string (feaOf f).name, .bool (feaOf f).mv, .int .i64 (feaOf f).off, .int .i64 (feaOf f).m, .int .i64 (feaOf f).d, .int .i64 p], .agg #[.int .i64 xc, .int .i64 xs, .int .i64 xm, .int .i64 xd]] W (.bool R) := fun W hb => by rw [hR]; exact feaIsDate _ _ _ _ _ p xc xs xm xd W (Nat.le_trans (feaOf_len f) (by decide)) (hT.later hb) (by have := feaDay_b xc xs (feaOf f).name (feaOf f).mv (feaOf f).off (feaOf f).m (feaOf f).d; omega) (by have := feaDay_b xc xs (feaOf f).name (feaOf f).mv (feaOf f).off (feaOf f).m (feaOf f).d; omega) p1 p2
   obtain rfl : ans = R := HQ.out.trans (by unfold whenIsB; rw [if_neg (show ¬ (2 : Int) = 0 by omega), if_neg hp, if_neg (show ¬ (2 : Int) = 1 by omega), he, ← hc, hR, show dayOf xc xs xm xd = n + (segN r n).off by rw [hc]; exact hday])
 rotate_left
 all_goals
  have hpn : patAt r.pats n < 0 := by omega
  generalize patAt r.pats n = pt at *
  clear HQ HRD KPl HWH hR he hc hok hday hp
  go_wp2_with fail
  refine lat (KK _) fun x1 => ?_
  go_wp2_with fail
  refine lat (KPx _ (HBl.out x1)) fun x2 => ?_
  obtain ⟨x3, hx3, Z3⟩ := x2.fresh #[.int .i64 xc, .int .i64 xs, .int .i64 xm, .int .i64 xd] 161
  have HX3 := hideP hx3
  clear hx3
  go_upto_region 10 with fail
  rw [HX3.out]
  go_wp2_with fail
  refine (KA _ (HBl.out x3)).mono ?_
  rintro e w4 ⟨rfl, hb⟩
  have Z4 : Hid (Blk w4 x2.w.heap.size #[.int .i64 xc, .int .i64 xs, .int .i64 xm, .int .i64 xd] 161) := Z3.out.below hb Z3.out.lt
  obtain ⟨x4, rfl⟩ := x3.next hb
  clear hb HX3 Z3
  have z0 : x4.w.cell? ⟨x2.w.heap.size, 0, none⟩ = some (.int .i64 xc) := Z4.out.cell 0 rfl
  have z1 : x4.w.cell? ⟨x2.w.heap.size, 1, none⟩ = some (.int .i64 xs) := Z4.out.cell 1 rfl
  have z2 : x4.w.cell? ⟨x2.w.heap.size, 2, none⟩ = some (.int .i64 xm) := Z4.out.cell 2 rfl
  have z3 : x4.w.cell? ⟨x2.w.heap.size, 3, none⟩ = some (.int .i64 xd) := Z4.out.cell 3 rfl
  go_wp2_with fail
  refine lat (KM _ (HBl.out x4)) fun x5 => ?_
  go_wp2
  go_ret
  exact ⟨rfl, HBl.out x5⟩

end Go.Proofs.YtpclaceefapppaaGreatDoor.ctr
