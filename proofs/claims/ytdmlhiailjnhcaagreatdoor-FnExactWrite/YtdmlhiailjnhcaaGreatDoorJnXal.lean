/- Contract of the program's DateOf: it answers its plain function at every argument, where its table holds its n; and what else the law reaches. -/
import Derived.Test.YtdmlhiailjnhcaaGreatDoorJnXaa
import Derived.Test.YtdmlhiailjnhcaaGreatDoorJnXad
import Derived.Deep.RegionWith
import Derived.Test.YtdmlhiailjnhcaaGreatDoorJnXaf
import Derived.Laws.AppendOwn
namespace Go.Proofs.YtdmlhiailjnhcaaGreatDoor.ctr
open Go.RowKit
theorem year_ex {c n : Int} (hc : c = 0 ∨ c = 1) (h1 : -1000 ≤ n) (h2 : n ≤ 1200000) : first c (yearOf c n) ≤ n ∧ n < first c (yearOf c n + 1) := by
 have step : ∀ (j : Nat) (y : Int), first c y ≤ n → 3301 - y ≤ j → ∃ z, first c z ≤ n ∧ n < first c (z + 1) := by
  intro j
  induction j with
  | zero =>
   intro y hy hj
   have := year_top hc hy h2
   omega
  | succ j ih =>
   intro y hy hj
   by_cases h : first c (y + 1) ≤ n
   · exact ih (y + 1) h (by omega)
   · exact ⟨y, hy, by omega⟩
 obtain ⟨z, hz1, hz2⟩ := step (3301 - n / 366).toNat _ (year_low hc h1 h2).1 (by omega)
 rw [yearOf_eq hc hz1 hz2]
 exact ⟨hz1, hz2⟩
theorem first_le {c y z : Int} (hc : c = 0 ∨ c = 1) (h : y ≤ z) : first c y ≤ first c z := by
 by_cases e : y = z
 · subst e; exact Int.le_refl _
 · exact Int.le_of_lt (first_lt hc (by omega))
theorem date_early {c n : Int} (hc : c = 0 ∨ c = 1) (h : n < first c 1) : dateOf c n = (0, 0, 0, 0, false) := by
 apply dateOf_no
 rintro ⟨_, y1, _, n1, n2⟩
 have := year_ex hc n1 n2
 have := first_le hc y1
 omega
theorem date_late {c n : Int} (hc : c = 0 ∨ c = 1) (h : first c 3001 ≤ n) : dateOf c n = (0, 0, 0, 0, false) := by
 apply dateOf_no
 rintro ⟨_, _, y2, n1, n2⟩
 have := year_ex hc n1 n2
 have := first_le hc (show yearOf c n + 1 ≤ 3001 by omega)
 omega
theorem year_in {c n : Int} (hc : c = 0 ∨ c = 1) (h1 : first c 1 ≤ n) (h2 : n < first c 3001) : -1000 ≤ n ∧ n ≤ 1200000 ∧ 1 ≤ yearOf c n ∧ yearOf c n ≤ 3000 := by
 have a1 : -1000 ≤ n ∧ n ≤ 1200000 := by
  rcases hc with rfl | rfl
  · rw [first_jul] at h1 h2; omega
  · rw [first_gre] at h1 h2; omega
 have e := year_ex hc a1.1 a1.2
 refine ⟨a1.1, a1.2, ?_, ?_⟩
 · by_cases h : 1 ≤ yearOf c n
   · exact h
   · have := first_le hc (show yearOf c n + 1 ≤ 1 by omega); omega
 · by_cases h : yearOf c n ≤ 3000
   · exact h
   · have := first_le hc (show 3001 ≤ yearOf c n by omega); omega
theorem wrapEq (x : Int) (h : -9223372036854775808 ≤ x ∧ x ≤ 9223372036854775807) : IntKind.i64.wrap x = x := by
 rw [IntKind.wrap_i64]
 omega
def Later.drewL {W : World} (x : Later W) : Later W := ⟨x.w.drew, x.below.drew⟩
def dayAt (b : Nat) (w : World) : Nat := (intOf ((w.cell? ⟨b, 3, none⟩).getD undef)).toNat
theorem dayAt_of {w : World} {b : Nat} {d : Int} (h : w.cell? ⟨b, 3, none⟩ = some (.int .i64 d)) : dayAt b w = d.toNat := by unfold dayAt; rw [h]; rfl
set_option maxHeartbeats 1000000 in
theorem implDateOf (c n : Int) (w : World) (hT : Tab w) : CR 142 #[.int .i64 c, .int .i64 n] w (dateR c n) := by
 by_cases hc : c = 0 ∨ c = 1
 case neg =>
  rw [dateR_no (dateOf_no (fun h => hc h.1))]
  have KC := fun W => implCalNo c (by omega) (by omega) W
  clear hc hT
  go_enter Tryz.func142, Tryz.ntmps142
  go_wp2_with (go_at_call 138; refine (KC _).mono ?_; rintro e w1 ⟨rfl, rfl⟩)
  go_returns
  refine ⟨rfl, ?_⟩
  go_grown
 have KC := fun W => implCal c hc W
 have E1 := fun W => implEve c 1 W hc (by omega) (by omega)
 have E2 := fun W => implEve c 3001 W hc (by omega) (by omega)
 have bb1 := first_bound hc (show -5 ≤ (1 : Int) by omega) (by omega)
 have bb2 := first_bound hc (show -5 ≤ (3001 : Int) by omega) (by omega)
 by_cases hlo : n < first c 1
 case pos =>
  rw [dateR_no (date_early hc hlo)]
  clear hc hT E2 bb2
  generalize calT c = T at *
  generalize first c 1 = F1 at *
  go_enter Tryz.func142, Tryz.ntmps142
  go_wp2_with (first | (go_at_call 138; refine (KC _).mono ?_; rintro e w1 ⟨rfl, rfl⟩) | (go_at_call 178; refine (E1 _).mono ?_; rintro e w1 ⟨rfl, rfl⟩))
  go_returns
  refine ⟨rfl, ?_⟩
  go_grown
 by_cases hhi : first c 3001 ≤ n
 case pos =>
  rw [dateR_no (date_late hc hhi)]
  clear hc hT
  generalize calT c = T at *
  generalize first c 1 = F1 at *
  generalize first c 3001 = F2 at *
  go_enter Tryz.func142, Tryz.ntmps142
  go_wp2_with (first | (go_at_call 138; refine (KC _).mono ?_; rintro e w1 ⟨rfl, rfl⟩) | (go_at_call_of 178 (1 : Int); refine (E1 _).mono ?_; rintro e w1 ⟨rfl, rfl⟩) | (go_at_call_of 178 (3001 : Int); refine (E2 _).mono ?_; rintro e w1 ⟨rfl, rfl⟩))
  go_returns
  refine ⟨rfl, ?_⟩
  go_grown
 obtain ⟨n1, n2, y1, y2⟩ := year_in hc (show first c 1 ≤ n by omega) (show n < first c 3001 by omega)
 obtain ⟨q1, q2⟩ := year_ex hc n1 n2
 have KY := fun W => implYear c n W hc (show first c 1 ≤ n by omega) n2
 obtain ⟨y, hy⟩ : ∃ y, yearOf c n = y := ⟨_, rfl⟩
 rw [hy] at KY y1 y2 q1 q2
 have KF := fun W => implEve c y W hc (by omega) (by omega)
 have b0 := first_bound hc (show -5 ≤ y by omega) (show y ≤ 4000 by omega)
 have hs := first_step hc y
 rw [hs] at q2
 obtain ⟨F, hF⟩ : ∃ F, first c y = F := ⟨_, rfl⟩
 rw [hF] at KF q1 q2 b0
 obtain ⟨V, hV⟩ : ∃ V, dateR c n = V := ⟨_, rfl⟩
 rw [hV]
 have HH : Hid ((c = 0 ∨ c = 1) ∧ yearOf c n = y ∧ first c y = F ∧ dateR c n = V) := ⟨hc, hy, hF, hV⟩
 have Q2 := hideP q2
 have HT := hideP hT
 generalize calT c = T at *
 generalize first c 1 = F1 at *
 generalize first c 3001 = F2 at *
 clear hc hy hF hs hV q2 hT
 go_enter Tryz.func142, Tryz.ntmps142
 go_wp2_with (first | (go_at_call 138; refine (KC _).mono ?_; rintro e w1 ⟨rfl, rfl⟩) | (go_at_call_of 178 (1 : Int); refine (E1 _).mono ?_; rintro e w1 ⟨rfl, rfl⟩) | (go_at_call_of 178 (3001 : Int); refine (E2 _).mono ?_; rintro e w1 ⟨rfl, rfl⟩) | (go_at_call 179; refine (KY _).mono ?_; rintro e w1 ⟨rfl, rfl⟩) | (go_at_call_of 178 y; refine (KF _).mono ?_; rintro e w1 ⟨rfl, rfl⟩))
 go_loopw [] (fun wr => ∃ k : Nat, k < 12 ∧ before c y k ≤ n - F ∧ Below w.heap.size w wr ∧ Blk wr w.heap.size z4 99 ∧ Blk wr (w.heap.size + 1) #[.int .i64 c, .int .i64 y, .int .i64 ((k : Int) + 1), .int .i64 (n - F + 1 - before c y k)] 99) (fun wr => dayAt (w.heap.size + 1) wr)
 case atStart =>
  refine ⟨0, by omega, by simp [before]; omega, ?_, ?_, ?_⟩
  · exact ((Below.refl _ _).alloc (Nat.le_refl _) _).alloc (by rw [World.size_alloc]; omega) _
  · exact (Blk.new w _ _).alloc _
  · have := Blk.new (w.alloc (.cells z4 99)) #[.int .i64 c, .int .i64 y, .int .i64 1, .int .i64 (n - (F - 1))] 99
    rw [World.size_alloc] at this
    rw [show n - F + 1 - before c y 0 = n - (F - 1) by simp [before]; omega]
    exact this
 case round =>
  obtain ⟨k, hk, hle, hb, hz, hd⟩ := hrel
  have KM : ∀ x : Later wr, CR 180 #[.int .i64 c, .int .i64 y, .int .i64 ((k : Int) + 1)] x.w (.int .i64 (monthDays c y ((k : Int) + 1))) := fun x => implMonthDays c y _ x.w ((HT.out.later hb).later x.below)
  have b1 := before_bound c y k
  have b2 := monthDays_le c y ((k : Int) + 1)
  have b3 := monthDays_ge (y := y) HH.out.1 (show 1 ≤ (k : Int) + 1 by omega) (show (k : Int) + 1 ≤ 12 by omega)
  have HN := hideP (before_next c y k)
  obtain ⟨md, em⟩ : ∃ md, monthDays c y ((k : Int) + 1) = md := ⟨_, rfl⟩
  rw [em] at KM b2 b3 HN
  have HE := hideP em
  clear em
  obtain ⟨B, eB⟩ : ∃ B, before c y k = B := ⟨_, rfl⟩
  have HBk := hideP eB
  rw [eB] at HN b1 hle hd
  clear eB
  obtain ⟨c0, c1, c2, c3⟩ := cells4 hd.later
  have f2 : ∀ x : Later wr, x.w.frozen? ⟨w.heap.size + 1, 2, none⟩ = false := fun x => (hd.later x).thaw 2
  have f3 : ∀ x : Later wr, x.w.frozen? ⟨w.heap.size + 1, 3, none⟩ = false := fun x => (hd.later x).thaw 3
  have HDA := hideP (dayAt_of (hd.cell 3 rfl))
  have HD := hideP hd
  have HZ := hideP hz
  have HB := hideP hb
  clear hd hz hb
  by_cases hgt : md < n - F + 1 - B
  · have hg : decide (md < n - F + 1 - B) = true := decide_eq_true hgt
    have hwr := wrapEq (n - F + 1 - B - md) (by omega)
    have HK : Hid (k + 1 < 12) := by
     unfold Hid
     by_cases hq : k + 1 < 12
     · exact hq
     · obtain rfl : k = 11 := by omega
       have := HN.out
       have := Q2.out
       simp only [Nat.reduceAdd] at *
       omega
    go_wp2_with fail
    refine wp_region_later (W := wr) (Below.refl _ _) (by kernel_rfl) (by kernel_rfl) ?_
    repeat (go_big_quiet_step ((go_at_call 180; exact calls_later (KM _))))
    refine wpQuiet_nil ?_
    intro _ hw'
    obtain ⟨x1, rfl⟩ := hw'
    go_wp2_with fail
    go_region_with (go_at_call 180; refine (KM x1.drewL).mono ?_; rintro e w1 ⟨rfl, hb1⟩; obtain ⟨x2, rfl⟩ := x1.drewL.next hb1; clear hb1)
    all_goals
     go_wp2_with fail
     refine ⟨⟨k + 1, HK.out, by rw [HN.out]; omega, below_store (below_store (HB.out.trans (x2.below.mono HB.out.size)) _ (by omega)) _ (by omega), ((HZ.out.later x2).other (by omega)).other (by omega), ?_⟩, ?_⟩
     · rw [show ((k + 1 : Nat) : Int) + 1 = (k : Int) + 1 + 1 by omega, HN.out, show n - F + 1 - (B + md) = n - F + 1 - B - md by omega]
       exact ((HD.out.later x2).set 3 _).set 2 _
     · rw [HDA.out, dayAt_of ((((HD.out.later x2).set 3 _).set 2 _).cell 3 rfl)]
       omega
  · have hg : decide (md < n - F + 1 - B) = false := decide_eq_false hgt
    have hmon : monthOf c y (n - first c y) = k := by rw [HH.out.2.2.1]; exact monthOf_eq (by rw [HBk.out]; exact hle) (by rw [HN.out]; omega)
    have eV := dateR_yes (dateOf_yes HH.out.1 n1 n2 HH.out.2.1 hmon y1 y2)
    rw [HH.out.2.2.1, HBk.out, HH.out.2.2.2, show n - F - B + 1 = n - F + 1 - B by omega] at eV
    have HV := hideP eV
    clear eV hmon
    obtain ⟨g0, g1, g2, g3⟩ := cells4 HZ.out.later
    have fz : ∀ (x : Later wr) (i : Nat), x.w.frozen? ⟨w.heap.size, i, none⟩ = false := fun x i => (HZ.out.later x).thaw i
    go_wp2_with fail
    refine wp_region_later (W := wr) (Below.refl _ _) (by kernel_rfl) (by kernel_rfl) ?_
    repeat (go_big_quiet_step ((go_at_call 180; exact calls_later (KM _))))
    refine wpQuiet_nil ?_
    intro _ hw'
    obtain ⟨x4, rfl⟩ := hw'
    go_wp2_with fail
    obtain ⟨W5, e5⟩ : ∃ W5, W5 = ((((x4.w.setCell ⟨w.heap.size, 0, none⟩ (.int .i64 c)).setCell ⟨w.heap.size, 1, none⟩ (.int .i64 y)).setCell ⟨w.heap.size, 2, none⟩ (.int .i64 ((k : Int) + 1))).setCell ⟨w.heap.size, 3, none⟩ (.int .i64 (n - F + 1 - B))) := ⟨_, rfl⟩
    have Z5 : Blk W5 w.heap.size #[.int .i64 c, .int .i64 y, .int .i64 ((k : Int) + 1), .int .i64 (n - F + 1 - B)] 99 := by rw [e5]; exact ((((HZ.out.later x4).set 0 _).set 1 _).set 2 _).set 3 _
    have B5 : Below w.heap.size w W5 := by
     rw [e5]
     have hw := HB.out.trans (x4.below.mono HB.out.size)
     exact below_store (below_store (below_store (below_store hw _ (Nat.le_refl _)) _ (Nat.le_refl _)) _ (Nat.le_refl _)) _ (Nat.le_refl _)
    rw [← e5]
    clear e5
    have r0 : W5.cell? ⟨w.heap.size, 0, none⟩ = some (.int .i64 c) := Z5.cell 0 rfl
    have r1 : W5.cell? ⟨w.heap.size, 1, none⟩ = some (.int .i64 y) := Z5.cell 1 rfl
    have r2 : W5.cell? ⟨w.heap.size, 2, none⟩ = some (.int .i64 ((k : Int) + 1)) := Z5.cell 2 rfl
    have r3 : W5.cell? ⟨w.heap.size, 3, none⟩ = some (.int .i64 (n - F + 1 - B)) := Z5.cell 3 rfl
    refine bodyPost_ret (by simp [results, Tryz.results142, go_sem, r0, r1, r2, r3]; try rfl) rfl ?_
    exact ⟨by rw [HV.out], B5⟩
theorem month_ex {c y n : Int} (h0 : 0 ≤ n) : ∀ j : Nat, n < before c y j → ∃ k, k < j ∧ before c y k ≤ n ∧ n < before c y (k + 1)
  | 0, h => by
   have hz : before c y 0 = 0 := rfl
   omega
  | j + 1, h => by
   by_cases hj : n < before c y j
   · obtain ⟨k, hk, h1, h2⟩ := month_ex h0 j hj
     exact ⟨k, by omega, h1, h2⟩
   · exact ⟨j, by omega, by omega, h⟩
theorem date_back {c n a y m d : Int} (h : dateOf c n = (a, y, m, d, true)) : a = c ∧ dateP c y m d ∧ dayOf c y m d = n := by
 by_cases hp : (c = 0 ∨ c = 1) ∧ 1 ≤ yearOf c n ∧ yearOf c n ≤ 3000 ∧ -1000 ≤ n ∧ n ≤ 1200000
 · obtain ⟨hc, h2, h3, h4, h5⟩ := hp
   obtain ⟨e1, e2⟩ := year_ex hc h4 h5
   have hs := first_step hc (yearOf c n)
   obtain ⟨k, hk, k1, k2⟩ := month_ex (c := c) (y := yearOf c n) (n := n - first c (yearOf c n)) (by omega) 12 (by omega)
   have hm := monthOf_eq k1 k2
   have hd := dateOf_yes hc h4 h5 rfl hm h2 h3
   rw [hd] at h
   simp only [Prod.mk.injEq] at h
   obtain ⟨rfl, rfl, rfl, rfl, _⟩ := h
   have hb := before_next c (yearOf c n) k
   have hP : dateP c (yearOf c n) ((k : Int) + 1) (n - first c (yearOf c n) - before c (yearOf c n) k + 1) := ⟨hc, h2, h3, by omega, by omega⟩
   refine ⟨rfl, hP, ?_⟩
   unfold dayOf
   rw [if_pos hP, show ((k : Int) + 1 - 1).toNat = k by omega]
   omega
 · rw [dateOf_no hp] at h
   simp at h
theorem day_back {c y m d : Int} (h : dateP c y m d) : dateOf c (dayOf c y m d) = (c, y, m, d, true) := by
 obtain ⟨hm1, hm2⟩ := dateP_month h
 obtain ⟨hc, hy1, hy2, hd1, hd2⟩ := h
 obtain ⟨k, hk⟩ := Int.eq_ofNat_of_zero_le (show 0 ≤ m - 1 by omega)
 have hm : m = (k : Int) + 1 := by omega
 subst hm
 have hP : dateP c y ((k : Int) + 1) d := ⟨hc, hy1, hy2, hd1, hd2⟩
 have hb := before_next c y k
 have hmono := before_mono c y (k + 1) (12 - (k + 1))
 rw [show k + 1 + (12 - (k + 1)) = 12 by omega] at hmono
 have h0 := (before_bound c y k).1
 have hs := first_step hc y
 have hD : dayOf c y ((k : Int) + 1) d = first c y + before c y k + d - 1 := by
  unfold dayOf
  rw [if_pos hP, show ((k : Int) + 1 - 1).toNat = k by omega]
 have hbd := dayOf_bound c y ((k : Int) + 1) d
 have hy3 : yearOf c (dayOf c y ((k : Int) + 1) d) = y := yearOf_eq hc (by omega) (by omega)
 have hmo : monthOf c y (dayOf c y ((k : Int) + 1) d - first c y) = k := monthOf_eq (by omega) (by omega)
 have hfb : first c (y + 1) ≤ 1200000 := by
  have h1 := first_le (c := c) (y := y + 1) (z := 3001) hc (by omega)
  have h2 : first c 3001 ≤ 1200000 := by
   rcases hc with rfl | rfl
   · rw [first_jul]; omega
   · rw [first_gre]; omega
  omega
 have hf1 : -1000 ≤ first c y := by
  have h1 := first_le (c := c) (y := 1) (z := y) hc (by omega)
  have h2 : -1000 ≤ first c 1 := by
   rcases hc with rfl | rfl
   · rw [first_jul]; omega
   · rw [first_gre]; omega
  omega
 rw [dateOf_yes hc (by omega) (by omega) hy3 hmo hy1 hy2]
 simp only [Prod.mk.injEq]
 refine ⟨trivial, trivial, trivial, ?_, trivial⟩
 omega
def markL (k : Int) : List UInt8 := if k = 0 then [107, 97, 108] else if k = 1 then [110, 111, 110] else [105, 100]
def countL (n : Int) : List UInt8 := if n = 1 then [] else if n = 2 then [112, 114, 105, 100, 32] else (putRoman n).data.toList ++ [32]
def twiceL (b : Bool) : List UInt8 := if b = true then [98, 105, 115, 32] else []
def romL (r : Rom) : List UInt8 := twiceL r.twice ++ countL r.count ++ markL r.mark ++ [32] ++ (monthText r.month).data.toList
def romanText (r : Rom) : ByteArray := if romB r = true then ⟨(romL r).toArray⟩ else ⟨#[]⟩
def bisB : ByteArray := ⟨#[98, 105, 115]⟩
def pridB : ByteArray := ⟨#[112, 114, 105, 100]⟩
def kalB : ByteArray := ⟨#[107, 97, 108]⟩
def nonB : ByteArray := ⟨#[110, 111, 110]⟩
def idB : ByteArray := ⟨#[105, 100]⟩
def countOf (a : ByteArray) : Int := if a = pridB then 2 else getRoman a
def markI (b : ByteArray) : Int := if b = kalB then 0 else if b = nonB then 1 else if b = idB then 2 else -1
def markS (b : ByteArray) : Int := if b = nonB then 1 else if b = idB then 2 else 0
def wordsR (mk : ByteArray → Int) (tw : Bool) : List ByteArray → Option Rom
  | [a, b, c] => some ⟨countOf a, mk b, monOf c, tw⟩
  | [b, c] => some ⟨1, mk b, monOf c, tw⟩
  | _ => none
def parseS (s : ByteArray) : Option Rom := if (cut s 32).getD 0 ⟨#[]⟩ = bisB then wordsR markS true ((cut s 32).drop 1) else wordsR markS false (cut s 32)
def bisP (s : ByteArray) : Bool := (s.data.toList.take 4) == [98, 105, 115, 32]
def restOf (s : ByteArray) : ByteArray := if bisP s = true then s.extract 4 s.size else s
def parseI (s : ByteArray) : Option Rom := wordsR markI (bisP s) (cut (restOf s) 32)
def backB (m d : Nat) : Bool := decide (dateP 0 4 m d → (parseS (romanText (romanOf 0 4 m d)) = some (romanOf 0 4 m d) ∧ parseI (romanText (romanOf 0 4 m d)) = some (romanOf 0 4 m d) ∧ (romanText (romanOf 0 4 m d)).size ≠ 0 ∧ (romanText (romanOf 0 4 m d)).size ≤ 30))
theorem back_all : ∀ m : Fin 13, ∀ d : Fin 32, backB m.val d.val = true := by decide +kernel
theorem text_all {r : Rom} (h : romB r = true) : parseS (romanText r) = some r ∧ parseI (romanText r) = some r ∧ (romanText r).size ≠ 0 ∧ (romanText r).size ≤ 30 := by
 obtain ⟨hd, hr⟩ := dayR_is (show dayR 0 4 r = true from h)
 obtain ⟨m1, m2⟩ := dateP_month hd
 obtain ⟨d1, d2⟩ := dateP_day hd
 generalize invM r = m at *
 generalize invD 0 4 r = d at *
 obtain ⟨m, rfl⟩ := Int.eq_ofNat_of_zero_le (show 0 ≤ m by omega)
 obtain ⟨d, rfl⟩ := Int.eq_ofNat_of_zero_le (show 0 ≤ d by omega)
 have := back_all ⟨m, by omega⟩ ⟨d, by omega⟩
 unfold backB at this
 have k := of_decide_eq_true this hd
 rw [hr] at k
 exact k
theorem text_no {r : Rom} (h : romB r = false) : romanText r = ⟨#[]⟩ := by unfold romanText; rw [h]; rfl
theorem text_yes {r : Rom} (h : romB r = true) : romanText r = ⟨(romL r).toArray⟩ := by unfold romanText; rw [if_pos h]
theorem text_size (r : Rom) : (romanText r).size ≤ 30 := by
 cases hb : romB r
 · rw [text_no hb]
   exact Nat.zero_le _
 · exact (text_all hb).2.2.2
def StrRow (W : World) (v : Value) (xs : List ByteArray) : Prop :=
 ∃ a cap, v = .slice a xs.length cap ∧ (xs = [] ∨ ∃ g, a = some ⟨g, 0, none⟩ ∧ ∀ j, j < xs.length → W.cell? ⟨g, j, none⟩ = some (.string (xs.getD j ⟨#[]⟩)))
theorem StrRow.at {W : World} {v : Value} {xs : List ByteArray} (h : StrRow W v xs) : ∃ a cap, v = .slice a xs.length cap ∧ ∀ k, k < xs.length → ∃ g, a = some ⟨g, 0, none⟩ ∧ W.cell? ⟨g, k, none⟩ = some (.string (xs.getD k ⟨#[]⟩)) := by
 obtain ⟨a, cap, hv, hc⟩ := h
 refine ⟨a, cap, hv, fun k hk => ?_⟩
 rcases hc with rfl | ⟨g, ha, hc⟩
 · simp at hk
 · exact ⟨g, ha, hc k hk⟩
def OwnRow (W : World) (g n : Nat) : Prop := ∀ j, j < n → (∃ u, W.cell? ⟨g, j, none⟩ = some u) ∧ W.frozen? ⟨g, j, none⟩ = false
def StrAt (W : World) (g : Nat) (xs : List ByteArray) : Prop := ∀ j, j < xs.length → W.cell? ⟨g, j, none⟩ = some (.string (xs.getD j ⟨#[]⟩))
theorem StrAt.row {W : World} {g cap : Nat} {xs : List ByteArray} (h : StrAt W g xs) : StrRow W (.slice (some ⟨g, 0, none⟩) xs.length cap) xs := ⟨_, _, rfl, .inr ⟨g, rfl, h⟩⟩
theorem StrAt.below {W W' : World} {g : Nat} {xs : List ByteArray} (h : StrAt W g xs) {B : Nat} (hb : Below B W W') (hg : g < B) : StrAt W' g xs := fun j hj => (hb.cell (p := ⟨g, j, none⟩) hg).trans (h j hj)
theorem StrAt.grown {W W' : World} {g r : Nat} {xs : List ByteArray} (h : StrAt W g xs) (hb : W.grownBy W' (some r)) (hg : g < W.heap.size) (hr : g ≠ r) : StrAt W' g xs := fun j hj =>
 (World.cell?_of_block (hb.block g hg (by intro e; exact hr (Option.some.inj e)))).trans (h j hj)
theorem own_row {W : World} {base : Nat} {v : Value} {xs : List ByteArray} (h : W.ownsRow base 9 1 v xs.length (xs.map Value.string)) (hx : xs ≠ []) :
    ∃ g cap, v = .slice (some ⟨g, 0, none⟩) xs.length cap ∧ base ≤ g ∧ g < W.heap.size ∧ StrAt W g xs ∧ OwnRow W g xs.length := by
  rcases h.2 with ⟨_, h0⟩ | ⟨g, cap, cur, hv, hb, hh, hcap, _, hsz, htake⟩
  · exact absurd (List.length_eq_zero_iff.1 h0) hx
  · subst hv
    have hlt : g < W.heap.size := (Array.getElem?_eq_some_iff.1 hh).1
    have hcell : ∀ j, j < xs.length → W.cell? ⟨g, j, none⟩ = some (.string (xs.getD j ⟨#[]⟩)) := fun j hj => by
     have := h.cellAt j (by omega)
     rw [this]
     simp [List.getD, hj]
    refine ⟨g, cap, rfl, hb, hlt, hcell, fun j hj => ⟨⟨_, hcell j hj⟩, ?_⟩⟩
    simp [World.frozen?, hh]
theorem cut_ne (s : ByteArray) (g : Int) : cut s g ≠ [] := by unfold cut; simp
end Go.Proofs.YtdmlhiailjnhcaaGreatDoor.ctr
