/- Plain laws of the years of reigns, of no program: how often the day has come that has the month and the day of the first one, by how much the year of a style is above the first one's; that these years go up one by one. -/
import Derived.Test.YtcdcniniafejbaaGreatDoorStyPlain2
import Derived.Test.YtcdcniniafejbaaGreatDoorStySpec
namespace Go.Proofs.YtcdcniniafejbaaGreatDoor.ctr
open Go.RowKit

theorem md_near {c : Int} (hc : c = 0 ∨ c = 1) (y z m : Int) : monthDays c y m ≤ monthDays c z m + 1 ∧ (m ≠ 2 → monthDays c y m = monthDays c z m) := by
  by_cases hm : 1 ≤ m ∧ m ≤ 12
  · by_cases h2 : m = 2
    · subst h2
      refine ⟨?_, fun h => absurd rfl h⟩
      have := monthDays_ge (y := z) hc (m := 2) (by omega) (by omega)
      unfold monthDays at *
      rw [if_pos ⟨hc, by omega, by omega⟩] at *
      split
      · omega
      · have : tab12.getD (2 - 1 : Int).toNat 0 = 28 := rfl
        omega
    · have e : monthDays c y m = monthDays c z m := by
        rw [monthDays_plain hc hm.1 hm.2 (fun h => h2 h.1), monthDays_plain hc hm.1 hm.2 (fun h => h2 h.1)]
      exact ⟨by omega, fun _ => e⟩
  · have e (y) : monthDays c y m = 0 := monthDays_no (fun h => hm h.2)
    rw [e, e]
    exact ⟨by omega, fun _ => rfl⟩
/-- The day that has the month and the day of a date, in any year. -/
theorem line_ret {c y Y m d : Int} (hc : c = 0 ∨ c = 1) (h1 : 1 ≤ m) (h2 : m ≤ 12) (d1 : 1 ≤ d) (d2 : d ≤ monthDays c Y m) : first c y ≤ lineD c y m d ∧ lineD c y m d < first c (y + 1) := by
  have hb := before_bound c y (m - 1).toNat
  have hn := md_near hc Y y m
  have hs := first_step hc y
  have ha := before_at (c := c) (y := y) h1
  by_cases hm : m = 12
  · have := hn.2 (by omega)
    subst hm
    have e : (12 : Int).toNat = 12 := rfl
    rw [e] at ha
    unfold lineD
    omega
  · have k := before_le (c := c) (y := y) h1 (show m < 12 by omega)
    have a2 := before_at (c := c) (y := y) (show 1 ≤ (12 : Int) by omega)
    have e : (12 : Int).toNat = 12 := rfl
    rw [e] at a2
    have := md12 (y := y) hc
    unfold lineD
    omega

/-- The year of a reign by the day on which it began. -/
noncomputable def byDay (c f n : Int) : Int := (dateOf c n).2.1 - (dateOf c f).2.1 + (if lineD c (dateOf c n).2.1 (dateOf c f).2.2.1 (dateOf c f).2.2.2.1 ≤ n then 1 else 0)
theorem byDay_eq {c f n Y0 m d Y M D : Int} (hf : dateOf c f = (c, Y0, m, d, true)) (hn : dateOf c n = (c, Y, M, D, true)) : byDay c f n = Y - Y0 + (if lineD c Y m d ≤ n then 1 else 0) := by
  unfold byDay
  rw [hf, hn]
theorem year_le {c Y0 Y f n : Int} (hc : c = 0 ∨ c = 1) (h : f ≤ n) (h1 : first c Y0 ≤ f) (h2 : n < first c (Y + 1)) : Y0 ≤ Y := by
  by_cases k : Y0 ≤ Y
  · exact k
  · have := first_le' hc (show Y + 1 ≤ Y0 by omega)
    omega
theorem date_parts {c n Y m d : Int} (h : dateOf c n = (c, Y, m, d, true)) : (c = 0 ∨ c = 1) ∧ 1 ≤ Y ∧ Y ≤ 3000 ∧ 1 ≤ m ∧ m ≤ 12 ∧ 1 ≤ d ∧ d ≤ monthDays c Y m ∧ d ≤ 31 ∧ first c Y ≤ n ∧ n < first c (Y + 1) ∧ lineD c Y m d = n := by
  obtain ⟨_, hd, hn⟩ := date_back h
  have hl := line_in hd.1 (dateP_month hd).1 (dateP_month hd).2 hd.2.2.2.1 hd.2.2.2.2
  rw [lineD_dayOf hd] at hn
  rw [hn] at hl
  exact ⟨hd.1, hd.2.1, hd.2.2.1, (dateP_month hd).1, (dateP_month hd).2, hd.2.2.2.1, hd.2.2.2.2, (dateP_day hd).2, hl.1, hl.2, hn⟩
theorem byDay_iff {c f n Y0 m d Y M D : Int} (hf : dateOf c f = (c, Y0, m, d, true)) (hn : dateOf c n = (c, Y, M, D, true)) (_ : f ≤ n) (k : Int) (_ : 1 ≤ k) : lineD c (Y0 + k) m d ≤ n ↔ k < byDay c f n := by
  rw [byDay_eq hf hn]
  obtain ⟨hc, _, _, m1, m2, d1, d2, _, f1, f2, _⟩ := date_parts hf
  obtain ⟨_, _, _, _, _, _, _, _, n1, n2, _⟩ := date_parts hn
  have hr := line_ret (y := Y0 + k) hc m1 m2 d1 d2
  by_cases a : Y0 + k < Y
  · have := first_le' hc (show Y0 + k + 1 ≤ Y by omega)
    split <;> omega
  · by_cases b : Y < Y0 + k
    · have := first_le' hc (show Y + 1 ≤ Y0 + k by omega)
      split <;> omega
    · obtain rfl : Y = Y0 + k := by omega
      split <;> omega
theorem byDay_bound {c f n Y0 m d Y M D : Int} (hf : dateOf c f = (c, Y0, m, d, true)) (hn : dateOf c n = (c, Y, M, D, true)) (hfn : f ≤ n) : 1 ≤ byDay c f n ∧ byDay c f n ≤ 3000 := by
  rw [byDay_eq hf hn]
  obtain ⟨hc, y1, _, m1, m2, d1, d2, _, f1, f2, hl⟩ := date_parts hf
  obtain ⟨_, _, y2, _, _, _, _, _, n1, n2, _⟩ := date_parts hn
  have := year_le hc hfn f1 n2
  by_cases a : Y0 = Y
  · subst a
    rw [hl, if_pos hfn]
    omega
  · split <;> omega
theorem byDay_mono {c f n n' Y0 m d Y M D Y' M' D' : Int} (hf : dateOf c f = (c, Y0, m, d, true)) (hn : dateOf c n = (c, Y, M, D, true)) (hn' : dateOf c n' = (c, Y', M', D', true)) (hfn : f ≤ n) (h : n ≤ n') : byDay c f n ≤ byDay c f n' := by
  have b := byDay_bound hf hn' (show f ≤ n' by omega)
  have i1 := byDay_iff hf hn hfn (byDay c f n') b.1
  have i2 := byDay_iff hf hn' (show f ≤ n' by omega) (byDay c f n') b.1
  omega
theorem byDay_step {c f n Y0 m d Y M D Y' M' D' : Int} (hf : dateOf c f = (c, Y0, m, d, true)) (hn : dateOf c n = (c, Y, M, D, true)) (hn' : dateOf c (n - 1) = (c, Y', M', D', true)) (hfn : f ≤ n - 1) : byDay c f n - 1 ≤ byDay c f (n - 1) := by
  have b := byDay_bound hf hn' hfn
  have hc := (date_parts hf).1
  have i1 := byDay_iff hf hn (show f ≤ n by omega) (byDay c f (n - 1) + 1) (by omega)
  have i2 := byDay_iff hf hn' hfn (byDay c f (n - 1)) b.1
  have l := line_364 hc (Y0 + byDay c f (n - 1)) m d
  rw [show Y0 + byDay c f (n - 1) + 1 = Y0 + (byDay c f (n - 1) + 1) by omega] at l
  omega

/-- A day between two that have dates has one. -/
theorem date_between {c a n b Y0 m0 d0 Y1 m1 d1 : Int} (ha : dateOf c a = (c, Y0, m0, d0, true)) (hb : dateOf c b = (c, Y1, m1, d1, true)) (h1 : a ≤ n) (h2 : n ≤ b) : ∃ Y m d, dateOf c n = (c, Y, m, d, true) := by
  obtain ⟨hc, y1, _, _, _, _, _, _, f1, _, _⟩ := date_parts ha
  obtain ⟨_, _, y2, _, _, _, _, _, _, f2, _⟩ := date_parts hb
  have g1 := first_le' hc y1
  have g2 := first_le' hc (show Y1 + 1 ≤ 3001 by omega)
  obtain ⟨n1, n2, z1, z2⟩ := year_in hc (show first c 1 ≤ n by omega) (show n < first c 3001 by omega)
  exact ⟨_, _, _, dateOf_yes hc n1 n2 rfl rfl z1 z2⟩
theorem start_mono {c s y z : Int} (hc : c = 0 ∨ c = 1) (hs : styleP s) (h1 : 1 ≤ y) (h : y ≤ z) (h2 : z ≤ 3900) : start c s y ≤ start c s z := by
  have mono : ∀ k : Nat, y + k ≤ 3900 → start c s y ≤ start c s (y + k) := fun k => by
    induction k with
    | zero => intro _; simp
    | succ k ih =>
      intro h'
      have a := ih (by omega)
      have b := start_lt (y := y + k) hc hs (by omega) (by omega)
      rw [show y + ((k + 1 : Nat) : Int) = y + k + 1 by omega]
      omega
  have m := mono (z - y).toNat (by omega)
  rw [show y + ((z - y).toNat : Int) = z by omega] at m
  exact m
theorem sty_parts {c s n y : Int} (h : styYear c s n = (y, true)) : (∃ Y m d, dateOf c n = (c, Y, m, d, true)) ∧ (c = 0 ∨ c = 1) ∧ styleP s ∧ 1 ≤ y ∧ y ≤ 3000 ∧ start c s y ≤ n ∧ n < start c s (y + 1) := by
  rcases date_cases c n with hd | ⟨Y, m, d, hd, hc, _⟩
  · rw [sty_none hd] at h
    simp at h
  · obtain ⟨hs, y1, y2, g1, g2⟩ := (sty_iff hc hd).1 h
    exact ⟨⟨Y, m, d, hd⟩, hc, hs, y1, y2, g1, g2⟩
theorem sty_mono {c s n n' y y' : Int} (h : styYear c s n = (y, true)) (h' : styYear c s n' = (y', true)) (hn : n ≤ n') : y ≤ y' := by
  obtain ⟨_, hc, hs, y1, y2, g1, g2⟩ := sty_parts h
  obtain ⟨_, _, _, z1, z2, k1, k2⟩ := sty_parts h'
  by_cases a : y ≤ y'
  · exact a
  · have := start_mono hc hs (show 1 ≤ y' + 1 by omega) (show y' + 1 ≤ y by omega) (by omega)
    omega
theorem sty_step {c s n y y' : Int} (h : styYear c s n = (y, true)) (h' : styYear c s (n - 1) = (y', true)) : y - 1 ≤ y' := by
  obtain ⟨_, hc, hs, y1, y2, g1, g2⟩ := sty_parts h
  obtain ⟨_, _, _, z1, z2, k1, k2⟩ := sty_parts h'
  by_cases a : y - 1 ≤ y'
  · exact a
  · have := start_mono hc hs (show 1 ≤ y' + 1 + 1 by omega) (show y' + 1 + 1 ≤ y by omega) (by omega)
    have := start_lt (y := y' + 1) hc hs (by omega) (by omega)
    omega
theorem sty_between {c s a n b y y' : Int} (ha : styYear c s a = (y, true)) (hb : styYear c s b = (y', true)) (h1 : a ≤ n) (h2 : n ≤ b) : ∃ z, styYear c s n = (z, true) := by
  obtain ⟨⟨_, _, _, da⟩, hc, hs, y1, y2, g1, g2⟩ := sty_parts ha
  obtain ⟨⟨_, _, _, db⟩, _, _, z1, z2, k1, k2⟩ := sty_parts hb
  obtain ⟨Y, m, d, hd⟩ := date_between da db h1 h2
  obtain ⟨_, Y1, Y2, _, _, _, _, _, f1, f2, _⟩ := date_parts hd
  have b1 := start_mono hc hs (show (1 : Int) ≤ 1 by omega) y1 (by omega)
  have b2 := start_mono hc hs (show 1 ≤ y' + 1 by omega) (show y' + 1 ≤ 3001 by omega) (by omega)
  refine ⟨rawYear c s Y n, sty_yes hd hs ?_ ?_⟩
  · unfold rawYear
    split
    · by_cases e : Y = 1
      · subst e; omega
      · omega
    · split <;> omega
  · unfold rawYear
    split
    · omega
    · split
      · omega
      · by_cases e : Y = 3000
        · subst e; simp only [Int.reduceAdd] at *; omega
        · omega

def datedP (c n : Int) : Prop := (dateOf c n).2.2.2.2 = true
theorem dated_iff {c n : Int} : datedP c n ↔ ∃ Y m d, dateOf c n = (c, Y, m, d, true) := by
  unfold datedP
  rcases date_cases c n with h | ⟨Y, m, d, h, _⟩
  · rw [h]
    simp
  · rw [h]
    exact ⟨fun _ => ⟨Y, m, d, rfl⟩, fun _ => rfl⟩
/-- The year of a reign in which a day of it is. -/
noncomputable def byStyle (c s f n : Int) : Int := if (styYear c s f).2 = true ∧ (styYear c s n).2 = true then (styYear c s n).1 - (styYear c s f).1 + 1 else 0
def reignP (c s f t n : Int) : Prop := f ≤ n ∧ n ≤ t ∧ styleP s ∧ datedP c f ∧ datedP c n
noncomputable instance (c s f t n : Int) : Decidable (reignP c s f t n) := Classical.propDecidable _
noncomputable def reignYear (c s ru f t n : Int) : Int :=
  if reignP c s f t n then (if ru = 0 then byDay c f n else if ru = 1 then byStyle c s f n else 0) else 0
theorem ry_no {c s ru f t n : Int} (h : ¬ reignP c s f t n) : reignYear c s ru f t n = 0 := by unfold reignYear; rw [if_neg h]
theorem ry_day {c s f t n : Int} (h : reignP c s f t n) : reignYear c s 0 f t n = byDay c f n := by unfold reignYear; rw [if_pos h, if_pos rfl]
theorem ry_sty {c s f t n : Int} (h : reignP c s f t n) : reignYear c s 1 f t n = byStyle c s f n := by unfold reignYear; rw [if_pos h, if_neg (by omega), if_pos rfl]
theorem ry_rule {c s ru f t n : Int} (h0 : ru ≠ 0) (h1 : ru ≠ 1) : reignYear c s ru f t n = 0 := by unfold reignYear; rw [if_neg h0, if_neg h1]; split <;> rfl
theorem sty_all (c s n : Int) : styYear c s n = (0, false) ∨ ∃ y, styYear c s n = (y, true) := by
  rcases h : styYear c s n with ⟨y, b⟩
  cases b
  · left
    unfold styYear at h
    split at h
    · simp at h
    · exact h.symm
  · exact .inr ⟨y, rfl⟩
theorem bs_no1 {c s f n : Int} (h : styYear c s f = (0, false)) : byStyle c s f n = 0 := by unfold byStyle; rw [if_neg (by rw [h]; simp)]
theorem bs_no2 {c s f n : Int} (h : styYear c s n = (0, false)) : byStyle c s f n = 0 := by unfold byStyle; rw [if_neg (by rw [h]; simp)]
theorem bs_yes {c s f n x y : Int} (h : styYear c s f = (x, true)) (h' : styYear c s n = (y, true)) : byStyle c s f n = y - x + 1 := by unfold byStyle; rw [h, h']; exact if_pos ⟨rfl, rfl⟩

/-- What is told of a year that is not 0. -/
theorem ry_some {c s ru f t n : Int} (h : reignYear c s ru f t n ≠ 0) : reignP c s f t n ∧ (ru = 0 ∨ ru = 1 ∧ ∃ x y, styYear c s f = (x, true) ∧ styYear c s n = (y, true)) := by
  by_cases hp : reignP c s f t n
  · refine ⟨hp, ?_⟩
    by_cases h0 : ru = 0
    · exact .inl h0
    · by_cases h1 : ru = 1
      · subst h1
        refine .inr ⟨rfl, ?_⟩
        rw [ry_sty hp] at h
        rcases sty_all c s f with a | ⟨x, a⟩
        · exact absurd (bs_no1 a) h
        · rcases sty_all c s n with b | ⟨y, b⟩
          · exact absurd (bs_no2 b) h
          · exact ⟨x, y, a, b⟩
      · exact absurd (ry_rule h0 h1) h
  · exact absurd (ry_no hp) h
theorem ry_bound {c s ru f t n : Int} : 0 ≤ reignYear c s ru f t n ∧ reignYear c s ru f t n ≤ 3000 := by
  by_cases h : reignYear c s ru f t n = 0
  · rw [h]; omega
  · obtain ⟨hp, rfl | ⟨rfl, x, y, hx, hy⟩⟩ := ry_some h
    · rw [ry_day hp]
      obtain ⟨_, _, _, hf⟩ := dated_iff.1 hp.2.2.2.1
      obtain ⟨_, _, _, hn⟩ := dated_iff.1 hp.2.2.2.2
      have := byDay_bound hf hn hp.1
      omega
    · rw [ry_sty hp, bs_yes hx hy]
      have := sty_mono hx hy hp.1
      have := sty_parts hx
      have := sty_parts hy
      omega
theorem ry_first {c s ru f t n : Int} (h : reignYear c s ru f t n ≠ 0) : reignYear c s ru f t f = 1 := by
  obtain ⟨hp, hr⟩ := ry_some h
  have hq : reignP c s f t f := ⟨by omega, by have := hp.1; have := hp.2.1; omega, hp.2.2.1, hp.2.2.2.1, hp.2.2.2.1⟩
  rcases hr with rfl | ⟨rfl, x, y, hx, hy⟩
  · rw [ry_day hq]
    obtain ⟨_, _, _, hf⟩ := dated_iff.1 hp.2.2.2.1
    rw [byDay_eq hf hf, (date_parts hf).2.2.2.2.2.2.2.2.2.2, if_pos (by omega)]
    omega
  · rw [ry_sty hq, bs_yes hx hx]
    omega
theorem ry_step {c s ru f t n : Int} (h : reignYear c s ru f t n ≠ 0) (hn : n ≠ f) : reignYear c s ru f t n - 1 ≤ reignYear c s ru f t (n - 1) := by
  obtain ⟨hp, hr⟩ := ry_some h
  obtain ⟨_, _, _, hf⟩ := dated_iff.1 hp.2.2.2.1
  obtain ⟨_, _, _, hd⟩ := dated_iff.1 hp.2.2.2.2
  have g : f ≤ n - 1 := by have := hp.1; omega
  obtain ⟨_, _, _, he⟩ := date_between hf hd g (show n - 1 ≤ n by omega)
  have hq : reignP c s f t (n - 1) := ⟨g, by have := hp.2.1; omega, hp.2.2.1, hp.2.2.2.1, dated_iff.2 ⟨_, _, _, he⟩⟩
  rcases hr with rfl | ⟨rfl, x, y, hx, hy⟩
  · rw [ry_day hp, ry_day hq]
    exact byDay_step hf hd he g
  · obtain ⟨z, hz⟩ := sty_between hx hy g (show n - 1 ≤ n by omega)
    rw [ry_sty hp, ry_sty hq, bs_yes hx hy, bs_yes hx hz]
    have := sty_step hy hz
    omega
/-- Between two days of one year all are of it. -/
theorem ry_between {c s ru f t a n b k : Int} (hk : k ≠ 0) (ha : reignYear c s ru f t a = k) (hb : reignYear c s ru f t b = k) (h1 : a ≤ n) (h2 : n ≤ b) : reignYear c s ru f t n = k := by
  obtain ⟨hp, hr⟩ := ry_some (show reignYear c s ru f t a ≠ 0 by omega)
  obtain ⟨hq, hr'⟩ := ry_some (show reignYear c s ru f t b ≠ 0 by omega)
  obtain ⟨_, _, _, hf⟩ := dated_iff.1 hp.2.2.2.1
  obtain ⟨_, _, _, da⟩ := dated_iff.1 hp.2.2.2.2
  obtain ⟨_, _, _, db⟩ := dated_iff.1 hq.2.2.2.2
  obtain ⟨_, _, _, dn⟩ := date_between da db h1 h2
  have g1 := hp.1
  have g2 := hq.2.1
  have hm : reignP c s f t n := ⟨by omega, by omega, hp.2.2.1, hp.2.2.2.1, dated_iff.2 ⟨_, _, _, dn⟩⟩
  rcases hr with rfl | ⟨rfl, x, y, hx, hy⟩
  · rw [ry_day hp] at ha
    rw [ry_day hq] at hb
    rw [ry_day hm]
    have := byDay_mono hf da dn g1 h1
    have := byDay_mono hf dn db (by omega) h2
    omega
  · rcases hr' with h | ⟨_, x', y', hx', hy'⟩
    · omega
    obtain ⟨z, hz⟩ := sty_between hy hy' h1 h2
    rw [ry_sty hp, bs_yes hx hy] at ha
    rw [ry_sty hq, bs_yes hx hy'] at hb
    rw [ry_sty hm, bs_yes hx hz]
    have := sty_mono hy hz h1
    have := sty_mono hz hy' h2
    omega
end Go.Proofs.YtcdcniniafejbaaGreatDoor.ctr
