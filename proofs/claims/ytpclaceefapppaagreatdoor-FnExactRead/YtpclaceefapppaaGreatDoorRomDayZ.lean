/- Contract of the program's DayOfRoman: it answers its plain function, where the table of months holds its numbers. -/
import Derived.Test.YtpclaceefapppaaGreatDoorJnZad
set_option maxRecDepth 100000
set_option maxHeartbeats 4000000
namespace Go.Proofs.YtpclaceefapppaaGreatDoor.ctr
open Go.RowKit
abbrev dayV (q : Int × Int × Int × Int) : Value := .agg #[.int .i64 q.1, .int .i64 q.2.1, .int .i64 q.2.2.1, .int .i64 q.2.2.2]
theorem cand_is {c y m d : Int} {r : Rom} (h : isDay c y r m d) : 1 ≤ r.count ∧ r.count ≤ 19 ∧ 1 ≤ r.month ∧ r.month ≤ 12 ∧
    ((r.mark = 0 ∧ 1 < r.count ∧ m = monAhead r.month ∧ (d = monthDays c y (monAhead r.month) + 2 - r.count ∨ d = monthDays c y (monAhead r.month) + 2 - r.count - 1)) ∨ (¬ (r.mark = 0 ∧ 1 < r.count) ∧ m = r.month ∧ d = markN r.month r.mark + 1 - r.count)) := by
  obtain ⟨hd, rfl⟩ := h
  have hm := dateP_month hd
  have hdd := dateP_day hd
  have hn := nones_in hm.1 hm.2
  have hn7 := nones_b m
  have hi := ides_in hm.1 hm.2
  have hc := hd.1
  have hmd := hd.2.2.2.2
  have hmd31 := monthDays_le c y m
  unfold romanOf
  rw [if_pos hd]
  unfold romanIn
  by_cases h1 : d = 1
  · rw [if_pos h1]
    refine ⟨by show (1 : Int) ≤ 1; omega, by show (1 : Int) ≤ 19; omega, hm.1, hm.2, .inr ⟨fun h => by have : (1 : Int) < 1 := h.2; omega, rfl, ?_⟩⟩
    show d = markN m 0 + 1 - 1
    have : markN m 0 = 1 := rfl
    omega
  rw [if_neg h1]
  by_cases h2 : d ≤ nones m
  · rw [if_pos h2]
    refine ⟨by show 1 ≤ nones m - d + 1; omega, by show nones m - d + 1 ≤ 19; omega, hm.1, hm.2, .inr ⟨fun h => by have : (1 : Int) = 0 := h.1; omega, rfl, ?_⟩⟩
    show d = markN m 1 + 1 - (nones m - d + 1)
    have : markN m 1 = nones m := rfl
    omega
  rw [if_neg h2]
  by_cases h3 : d ≤ ides m
  · rw [if_pos h3]
    refine ⟨by show 1 ≤ ides m - d + 1; omega, by show ides m - d + 1 ≤ 19; omega, hm.1, hm.2, .inr ⟨fun h => by have : (2 : Int) = 0 := h.1; omega, rfl, ?_⟩⟩
    show d = markN m 2 + 1 - (ides m - d + 1)
    have : markN m 2 = ides m := rfl
    omega
  rw [if_neg h3]
  have hA : monAhead (m % 12 + 1) = m := by unfold monAhead; split <;> omega
  have hcd : countDays c y m d = monthDays c y m ∨ (countDays c y m d = monthDays c y m - 1 ∧ d ≤ 24) := by
   unfold countDays
   by_cases e : m = 2 ∧ d ≤ 24
   · rw [if_pos e]
     obtain ⟨rfl, h24⟩ := e
     by_cases hl : leapP c y
     · rw [monthDays_leap hc hl]
       exact .inr ⟨rfl, h24⟩
     · left
       have h1 : (1 : Int) ≤ 2 := by omega
       have h2 : (2 : Int) ≤ 12 := by omega
       exact (monthDays_plain (m := 2) hc h1 h2 (fun h => hl h.2)).symm
   · rw [if_neg e]
     exact .inl rfl
  have hge : monthDays c y m ≤ 31 := hmd31.2
  refine ⟨by show 1 ≤ countDays c y m d - d + 2; rcases hcd with h | ⟨h, h'⟩ <;> (have := monthDays_ge hc hm.1 hm.2 (y := y); omega), by show countDays c y m d - d + 2 ≤ 19; rcases hcd with h | ⟨h, h'⟩ <;> omega, by show 1 ≤ m % 12 + 1; omega, by show m % 12 + 1 ≤ 12; omega, .inl ⟨rfl, by show 1 < countDays c y m d - d + 2; rcases hcd with h | ⟨h, h'⟩ <;> (have := monthDays_ge hc hm.1 hm.2 (y := y); omega), hA.symm, ?_⟩⟩
  show d = monthDays c y (monAhead (m % 12 + 1)) + 2 - (countDays c y m d - d + 2) ∨ d = monthDays c y (monAhead (m % 12 + 1)) + 2 - (countDays c y m d - d + 2) - 1
  rw [hA]
  rcases hcd with h | ⟨h, h'⟩
  · left; omega
  · right; omega
structure DSt (w : World) (cn mk mo : Int) (tw : Bool) (c y m x : Int) (W : World) : Prop where
 below : Below w.heap.size w W
 rom : Blk W w.heap.size #[.int .i64 cn, .int .i64 mk, .int .i64 mo, .bool tw] 54
 res : Blk W (w.heap.size + 1) #[.int .i64 0, .int .i64 0, .int .i64 0, .int .i64 0] 161
 dat : Blk W (w.heap.size + 2) #[.int .i64 c, .int .i64 y, .int .i64 m, .int .i64 x] 161
theorem DSt.later {w : World} {cn mk mo : Int} {tw : Bool} {c y m x : Int} {W W' : World} (h : DSt w cn mk mo tw c y m x W) (hb : Below W.heap.size W W') : DSt w cn mk mo tw c y m x W' :=
 ⟨h.below.trans (hb.mono h.below.size), h.rom.below hb h.rom.lt, h.res.below hb h.res.lt, h.dat.below hb h.dat.lt⟩
theorem DSt.month {w : World} {cn mk mo : Int} {tw : Bool} {c y m x : Int} {W : World} (h : DSt w cn mk mo tw c y m x W) (m' : Int) : DSt w cn mk mo tw c y m' x (W.setCell ⟨w.heap.size + 2, 2, none⟩ (.int .i64 m')) :=
 ⟨h.below.setCell (p := ⟨w.heap.size + 2, 2, none⟩) (show w.heap.size ≤ w.heap.size + 2 by omega) _, h.rom.other (by omega), h.res.other (by omega), h.dat.set 2 _⟩
theorem DSt.day {w : World} {cn mk mo : Int} {tw : Bool} {c y m x : Int} {W : World} (h : DSt w cn mk mo tw c y m x W) (x' : Int) : DSt w cn mk mo tw c y m x' (W.setCell ⟨w.heap.size + 2, 3, none⟩ (.int .i64 x')) :=
 ⟨h.below.setCell (p := ⟨w.heap.size + 2, 3, none⟩) (show w.heap.size ≤ w.heap.size + 2 by omega) _, h.rom.other (by omega), h.res.other (by omega), h.dat.set 3 _⟩
theorem implDayOfRoman (c y : Int) (r : Rom) (w : World) (hT : Tab w) : CR 283 #[.int .i64 c, .int .i64 y, romV r] w (dayV (dayOfRoman c y r)) := by
 obtain ⟨cn, mk, mo, tw⟩ := r
 obtain ⟨W0, hW0, hD, hR, hBl⟩ := two_box w #[.int .i64 cn, .int .i64 mk, .int .i64 mo, .bool tw] #[.int .i64 0, .int .i64 0, .int .i64 0, .int .i64 0] 54 161
 have hsz : W0.heap.size = w.heap.size + 2 := by rw [hW0, box_size, box_size]
 have KD : ∀ W, CS 296 #[.int .i64 mo, .int .i64 mk] W (.int .i64 (markN mo mk)) := implMarkDay mo mk
 have hmb := markN_b mo mk
 have HW0 := hideP hW0
 have HBl := hideP hBl
 have HR := hideP hR
 have HD := hideP hD
 have HT := hideP hT
 clear hW0 hBl hD hR hT
 have HL : Hid (∀ X o, X = W0.drew ∨ X = W0.drew.alloc o → ∃ x : Later W0, X = x.w) := by
  rintro X o (rfl | rfl)
  · exact ⟨⟨_, (Below.refl _ _).drew⟩, rfl⟩
  · exact ⟨⟨_, (Below.refl W0.heap.size W0).drew.alloc (Nat.le_refl _) _⟩, rfl⟩
 generalize hmk : markN mo mk = st at *
 have HMK := hideP hmk
 clear hmk
 go_enter Tryz.func283, Tryz.ntmps283
 go_wp2_with fail
 rw [← HW0.out]
 refine wp_region_any (by kernel_rfl) ?_
 change wpAny _ _ _ _ (1 + (14 + 1)) _ _ W0.drew
 refine any_alloc 14 1 7 (W1 := W0.drew.alloc (dateO 0 0 0 0)) (p := .pointer (some ⟨w.heap.size + 2, 0, none⟩)) (A := ?A) (by decide) rfl rfl rfl (by kernel_rfl) (by kernel_rfl) (by kernel_rfl) (by kernel_rfl) ?al ?q ?rest
 case q =>
  intro X hX
  obtain ⟨x0, hx0⟩ := HL.out X _ hX
  have k0 : ∀ x : Only X, x.w.cell? ⟨w.heap.size, 0, none⟩ = some (.int .i64 cn) := Only.at (by rw [hx0]; exact (HD.out x0).cell 0 rfl)
  have k1 : ∀ x : Only X, x.w.cell? ⟨w.heap.size, 1, none⟩ = some (.int .i64 mk) := Only.at (by rw [hx0]; exact (HD.out x0).cell 1 rfl)
  have k2 : ∀ x : Only X, x.w.cell? ⟨w.heap.size, 2, none⟩ = some (.int .i64 mo) := Only.at (by rw [hx0]; exact (HD.out x0).cell 2 rfl)
  have k3 : ∀ x : Only X, x.w.cell? ⟨w.heap.size, 3, none⟩ = some (.bool tw) := Only.at (by rw [hx0]; exact (HD.out x0).cell 3 rfl)
  clear hX hx0
  simp only [List.take_succ_cons, List.take_zero]
  repeat (go_big_quiet_step (first | (go_at_call 296; exact calls_only (KD _))))
  refine wpQuiet_nil ?_
  rfl
 case al =>
  intro a K h
  refine wpOp_step rfl ?_
  intro K' hK
  go_simp
  exact hK _ _ h
 case rest =>
  refine wpAny_ready (rs := [15]) (by kernel_rfl) (by simp) ?_
  refine AllReady.cons rfl (fun K hK => ?_) AllReady.nil
  go_simp
  refine hK _ _ ?_
  clear hK K
  refine wpAny_done (by kernel_rfl) ?_ _
  obtain ⟨d0, hd0⟩ : ∃ d0, d0 = wrap64 (st + 1 - cn) := ⟨_, rfl⟩
  rw [← hd0]
  obtain ⟨W2, hW2⟩ : ∃ W2, W2 = (W0.alloc (dateO c y mo d0)).drew := ⟨_, rfl⟩
  have S2 : Hid (DSt w cn mk mo tw c y mo d0 W2) := by
   rw [hW2]
   obtain ⟨x, hx⟩ := HL.out _ (dateO c y mo d0) (.inr rfl)
   have hx' : (W0.alloc (dateO c y mo d0)).drew = x.w := hx
   refine ⟨by rw [hx']; exact HBl.out x, by rw [hx']; exact HD.out x, by rw [hx']; exact HR.out x, ?_⟩
   have h := Blk.new W0 #[.int .i64 c, .int .i64 y, .int .i64 mo, .int .i64 d0] 161
   rw [hsz] at h
   exact h.drew
  rw [← hW2]
  clear hW2 HL HR HD HBl HW0 KD hmb
  have hst := markN_b mo mk
  rw [HMK.out] at hst
  have hst := markN_b mo mk
  rw [HMK.out] at hst
  by_cases hmk : mk = 0 ∧ 1 < cn
  · obtain ⟨rfl, hcn⟩ := hmk
    have hst1 : st = 1 := HMK.out.symm
    have g1 : decide (1 < cn) = true := decide_eq_true hcn
    have u0 := S2.out.rom.cell 0 rfl
    have u1 := S2.out.rom.cell 1 rfl
    have u2 := S2.out.rom.cell 2 rfl
    have v2 := S2.out.dat.cell 2 rfl
    have t2 := S2.out.dat.thaw 2
    have KA := implMonthAhead mo
    have hmd := monthDays_le c y (monAheadW mo)
    obtain ⟨x0, hx0⟩ : ∃ x0, x0 = wrap64 (d0 + monthDays c y (monAheadW mo)) := ⟨_, rfl⟩
    have HQ : Hid (∀ m d, isDay c y ⟨cn, 0, mo, tw⟩ m d → m = monAheadW mo ∧ (d = x0 ∨ d = wrap64 (x0 - 1))) := fun m d h => by
     have hdd := dateP_day h.1
     obtain ⟨c1, c2, c3, c4, h5⟩ := cand_is h
     have c1' : 1 ≤ cn := c1
     have c2' : cn ≤ 19 := c2
     have c3' : 1 ≤ mo := c3
     have c4' : mo ≤ 12 := c4
     have hA : monAheadW mo = monAhead mo := by
      unfold monAheadW monAhead
      split
      · rfl
      · unfold wrap64; omega
     rw [hA] at hx0 hmd ⊢
     rcases h5 with ⟨_, _, hm, hd⟩ | ⟨hn, _⟩
     · refine ⟨hm, ?_⟩
       have hd' : d = monthDays c y (monAhead mo) + 2 - cn ∨ d = monthDays c y (monAhead mo) + 2 - cn - 1 := hd
       have e0 : d0 = 2 - cn := by rw [hd0, hst1]; unfold wrap64; omega
       have ex : x0 = monthDays c y (monAhead mo) + 2 - cn := by rw [hx0, e0]; unfold wrap64; omega
       rcases hd' with e | e
       · left; omega
       · right; rw [ex]; unfold wrap64; omega
     · exact absurd ⟨rfl, hcn⟩ hn
    have HX0 := hideP hx0
    clear hd0 hx0 HMK hst hst1
    generalize hma : monAheadW mo = ma at *
    clear hma
    have KM : ∀ W, Tab W → CR 194 #[.int .i64 c, .int .i64 y, .int .i64 ma] W (.int .i64 (monthDays c y ma)) := fun W h => implMonthDays c y ma W h
    generalize monthDays c y ma = md at *
    go_wp2_with fail
    refine (KA _).mono ?_
    rintro e w3 ⟨rfl, hw3⟩
    rw [hw3]
    clear hw3 w3
    go_wp2_with fail
    have S3 := hideP (S2.out.month ma)
    generalize W2.setCell ⟨w.heap.size + 2, 2, none⟩ (.int .i64 ma) = W3 at *
    have p2 : ∀ z : Later W3, z.w.cell? ⟨w.heap.size + 2, 2, none⟩ = some (.int .i64 ma) := fun z => (S3.out.later z.below).dat.cell 2 rfl
    have p3 : ∀ z : Later W3, z.w.cell? ⟨w.heap.size + 2, 3, none⟩ = some (.int .i64 d0) := fun z => (S3.out.later z.below).dat.cell 3 rfl
    have KM' : ∀ z : Later W3, CR 194 #[.int .i64 c, .int .i64 y, .int .i64 ma] z.w (.int .i64 md) := fun z => KM z.w (HT.out.later (S3.out.later z.below).below)
    clear S2 u0 u1 u2 v2 t2 KM KA
    obtain ⟨xd, hxd⟩ : ∃ xd : Later W3, W3.drew = xd.w := ⟨⟨W3.drew, (Below.refl _ _).drew⟩, rfl⟩
    refine wp_region_any (by kernel_rfl) ?_
    change wpAny _ _ _ _ (1 + 9) _ _ _
    refine any_prefixA (C := fun w' => ∃ x : Later W3, w' = x.w) 9 1 (by decide) (by kernel_rfl) (by kernel_rfl) (by kernel_rfl) (by kernel_rfl) ⟨xd, hxd⟩ ?_
    simp only [List.take_succ_cons, List.take_zero]
    clear hxd xd
    repeat (go_big_quiet_step (first | (go_at_call 194; exact calls_later (KM' _))))
    refine quietE fun x4 => ?_
    have s3 := p3 x4
    have f3 := (S3.out.later x4.below).dat.thaw 3
    refine wpAny_ready (rs := [9]) (by kernel_rfl) (by simp) ?_
    refine AllReady.cons rfl (fun K hK => ?_) AllReady.nil
    go_simp
    refine hK _ _ ?_
    clear hK K
    refine wpAny_done (by kernel_rfl) ?_ _
    rw [← HX0.out]
    have SL := hideP ((S3.out.later x4.below).day x0)
    generalize x4.w.setCell ⟨w.heap.size + 2, 3, none⟩ (.int .i64 x0) = WL at *
    clear S3 p2 p3 KM' s3 f3 HX0 hmd
    go_wp2_with fail
    go_loopw [43] (fun i wr => ∃ (k : Nat) (x : Int), k ≤ 2 ∧ i = .int .i64 (k : Int) ∧ DSt w cn 0 mo tw c y ma x wr ∧ Hid ((k = 0 ∧ x = x0) ∨ (k = 1 ∧ x = wrap64 (x0 - 1) ∧ ¬ isDay c y ⟨cn, 0, mo, tw⟩ ma x0) ∨ (k = 2 ∧ ¬ isDay c y ⟨cn, 0, mo, tw⟩ ma x0 ∧ ¬ isDay c y ⟨cn, 0, mo, tw⟩ ma (wrap64 (x0 - 1))))) (fun i _ => 2 - (intOf i).toNat)
    case atStart => exact ⟨0, x0, by omega, rfl, SL.out, .inl ⟨rfl, rfl⟩⟩
    case round =>
     obtain ⟨k, x, hk, rfl, hS, HK⟩ := hrel
     have S := hideP hS
     clear hS SL
     by_cases hlt : k < 2
     · have hno : ∀ h : ¬ isDay c y ⟨cn, 0, mo, tw⟩ ma x, Hid ((k + 1 = 0 ∧ wrap64 (x - 1) = x0) ∨ (k + 1 = 1 ∧ wrap64 (x - 1) = wrap64 (x0 - 1) ∧ ¬ isDay c y ⟨cn, 0, mo, tw⟩ ma x0) ∨ (k + 1 = 2 ∧ ¬ isDay c y ⟨cn, 0, mo, tw⟩ ma x0 ∧ ¬ isDay c y ⟨cn, 0, mo, tw⟩ ma (wrap64 (x0 - 1)))) := fun h => by
        rcases HK.out with ⟨rfl, rfl⟩ | ⟨rfl, rfl, h0⟩ | ⟨rfl, _⟩
        · exact .inr (.inl ⟨rfl, rfl, h⟩)
        · exact .inr (.inr ⟨rfl, h0, h⟩)
        · omega
       have HNO := hideP hno
       clear hno HK HQ
       obtain ⟨u0, u1, u2, u3⟩ := cells4 (fun z : Later wr => (S.out.later z.below).rom)
       obtain ⟨v0, v1, v2, v3⟩ := cells4 (fun z : Later wr => (S.out.later z.below).dat)
       have KO : ∀ z : Later wr, CR 252 #[.agg #[.int .i64 c, .int .i64 y, .int .i64 ma, .int .i64 x]] z.w (.bool (dateOk c y ma x)) := fun z => implDateOk c y ma x z.w (HT.out.later (S.out.later z.below).below)
       have KR : ∀ z : Later wr, CR 270 #[.agg #[.int .i64 c, .int .i64 y, .int .i64 ma, .int .i64 x]] z.w (romV (romanOf c y ma x)) := fun z => implRomanOf c y ma x z.w (HT.out.later (S.out.later z.below).below)
       by_cases hok : dateP c y ma x
       case neg =>
        have HN := hideP (HNO.out (fun h => hok h.1)).out
        rw [dateOk_false hok] at KO
        clear hok KR HNO
        go_wp2_with fail
        refine wp_region_later (W := wr) (Below.refl _ _) (by kernel_rfl) (by kernel_rfl) ?_
        repeat (go_big_quiet_step (first | (go_at_call 252; exact calls_later (KO _)) | (go_at_call 270; exact calls_later (KR _))))
        refine quietE fun x5 => ?_
        have s3 := v3 x5
        have f3 := (S.out.later x5.below).dat.thaw 3
        go_wp2
        exact ⟨⟨k + 1, wrap64 (x - 1), by omega, by go_num, (S.out.later x5.below).day _, HN.out⟩, by simp [intOf]; omega⟩
       rw [dateOk_true hok] at KO
       by_cases hr : romanOf c y ma x = ⟨cn, 0, mo, tw⟩
       · have HV := hideP (romDay_yes (show isDay c y ⟨cn, 0, mo, tw⟩ ma x from ⟨hok, hr⟩))
         rw [hr] at KR
         clear hok hr HNO
         go_wp2_with fail
         refine wp_region_later (W := wr) (Below.refl _ _) (by kernel_rfl) (by kernel_rfl) ?_
         repeat (go_big_quiet_step (first | (go_at_call 252; exact calls_later (KO _)) | (go_at_call 270; exact calls_later (KR _))))
         refine quietE fun x5 => ?_
         have s0 := v0 x5
         have s1 := v1 x5
         have s2 := v2 x5
         have s3 := v3 x5
         have q0 := (S.out.later x5.below).res.cell 0 rfl
         have q1 := (S.out.later x5.below).res.cell 1 rfl
         have q2 := (S.out.later x5.below).res.cell 2 rfl
         have q3 := (S.out.later x5.below).res.cell 3 rfl
         have f0 := (S.out.later x5.below).res.thaw 0
         have f1 := (S.out.later x5.below).res.thaw 1
         have f2 := (S.out.later x5.below).res.thaw 2
         have f3 := (S.out.later x5.below).res.thaw 3
         go_wp2_with fail
         rw [put4_eq]
         have Z := put4_blk (v0 := .int .i64 c) (v1 := .int .i64 y) (v2 := .int .i64 ma) (v3 := .int .i64 x) (S.out.later x5.below).res
         have z0 := Z.cell 0 rfl
         have z1 := Z.cell 1 rfl
         have z2 := Z.cell 2 rfl
         have z3 := Z.cell 3 rfl
         exact bodyPost_ret (by simp [results, Tryz.results283, go_sem, z0, z1, z2, z3]; try rfl) rfl ⟨by rw [HV.out], put4_below (S.out.later x5.below).below (by omega)⟩
       have HN := hideP (HNO.out (fun h => hr h.2)).out
       generalize romanOf c y ma x = ro at *
       obtain ⟨a0, a1, a2, a3⟩ := ro
       have hne : (a0 == cn) = false ∨ (a1 == 0) = false ∨ (a2 == mo) = false ∨ (a3 == tw) = false := by
        by_cases e0 : a0 = cn
        · by_cases e1 : a1 = 0
          · by_cases e2 : a2 = mo
            · by_cases e3 : a3 = tw
              · exact absurd (by rw [e0, e1, e2, e3]) hr
              · exact .inr (.inr (.inr (by simp [e3])))
            · exact .inr (.inr (.inl (by simp [e2])))
          · exact .inr (.inl (by simp [e1]))
        · exact .inl (by simp [e0])
       clear hr hok HNO
       rcases hne with he | he | he | he
       all_goals
        skip
        go_wp2_with fail
        refine wp_region_later (W := wr) (Below.refl _ _) (by kernel_rfl) (by kernel_rfl) ?_
        repeat (go_big_quiet_step (first | (go_at_call 252; exact calls_later (KO _)) | (go_at_call 270; exact calls_later (KR _))))
        refine quietE fun x5 => ?_
        have s3 := v3 x5
        have f3 := (S.out.later x5.below).dat.thaw 3
        go_wp2
        exact ⟨⟨k + 1, wrap64 (x - 1), by omega, by go_num, (S.out.later x5.below).day _, HN.out⟩, by simp [intOf]; omega⟩
     · have hk2 : k = 2 := by omega
       subst hk2
       have HV : Hid (dayOfRoman c y ⟨cn, 0, mo, tw⟩ = (0, 0, 0, 0)) := romDay_no fun m d h => by
        obtain ⟨rfl, hd⟩ := HQ.out m d h
        rcases HK.out with ⟨h0, _⟩ | ⟨h0, _⟩ | ⟨_, h1, h2⟩
        · omega
        · omega
        · rcases hd with rfl | rfl
          · exact h1 h
          · exact h2 h
       clear HK HQ
       have q0 := S.out.res.cell 0 rfl
       have q1 := S.out.res.cell 1 rfl
       have q2 := S.out.res.cell 2 rfl
       have q3 := S.out.res.cell 3 rfl
       have f0 := S.out.res.thaw 0
       have f1 := S.out.res.thaw 1
       have f2 := S.out.res.thaw 2
       have f3 := S.out.res.thaw 3
       go_wp2_with fail
       rw [put4_eq]
       have Z := put4_blk (v0 := .int .i64 0) (v1 := .int .i64 0) (v2 := .int .i64 0) (v3 := .int .i64 0) S.out.res
       have z0 := Z.cell 0 rfl
       have z1 := Z.cell 1 rfl
       have z2 := Z.cell 2 rfl
       have z3 := Z.cell 3 rfl
       exact bodyPost_ret (by simp [results, Tryz.results283, go_sem, z0, z1, z2, z3]; try rfl) rfl ⟨by rw [HV.out], put4_below S.out.below (by omega)⟩
  · have HQ : Hid (∀ m d, isDay c y ⟨cn, mk, mo, tw⟩ m d → m = mo ∧ (d = d0 ∨ d = wrap64 (d0 - 1))) := fun m d h => by
     have hdd := dateP_day h.1
     obtain ⟨c1, c2, c3, c4, h5⟩ := cand_is h
     have c1' : 1 ≤ cn := c1
     have c2' : cn ≤ 19 := c2
     rcases h5 with ⟨h0, h1, _⟩ | ⟨_, hm, hd⟩
     · exact absurd ⟨h0, h1⟩ hmk
     · refine ⟨hm, .inl ?_⟩
       have hd' : d = markN mo mk + 1 - cn := hd
       rw [HMK.out] at hd'
       rw [hd0]
       unfold wrap64
       omega
    clear hd0 HMK hst
    have SL := hideP S2.out
    have u0 := S2.out.rom.cell 0 rfl
    have u1 := S2.out.rom.cell 1 rfl
    clear S2
    by_cases h0 : mk = 0
    focus
      have e0 : (mk == 0) = true := by simp [h0]
      have g1 : decide (1 < cn) = false := decide_eq_false (fun h => hmk ⟨h0, h⟩)
    rotate_left
    focus
      have e0 : (mk == 0) = false := by simp [h0]
    rotate_left
    all_goals
     clear h0 hmk
     go_wp2_with fail
     go_loopw [43] (fun i wr => ∃ (k : Nat) (x : Int), k ≤ 2 ∧ i = .int .i64 (k : Int) ∧ DSt w cn mk mo tw c y mo x wr ∧ Hid ((k = 0 ∧ x = d0) ∨ (k = 1 ∧ x = wrap64 (d0 - 1) ∧ ¬ isDay c y ⟨cn, mk, mo, tw⟩ mo d0) ∨ (k = 2 ∧ ¬ isDay c y ⟨cn, mk, mo, tw⟩ mo d0 ∧ ¬ isDay c y ⟨cn, mk, mo, tw⟩ mo (wrap64 (d0 - 1))))) (fun i _ => 2 - (intOf i).toNat)
     case atStart => exact ⟨0, d0, by omega, rfl, SL.out, .inl ⟨rfl, rfl⟩⟩
     case round =>
      obtain ⟨k, x, hk, rfl, hS, HK⟩ := hrel
      have S := hideP hS
      clear hS SL
      by_cases hlt : k < 2
      · have hno : ∀ h : ¬ isDay c y ⟨cn, mk, mo, tw⟩ mo x, Hid ((k + 1 = 0 ∧ wrap64 (x - 1) = d0) ∨ (k + 1 = 1 ∧ wrap64 (x - 1) = wrap64 (d0 - 1) ∧ ¬ isDay c y ⟨cn, mk, mo, tw⟩ mo d0) ∨ (k + 1 = 2 ∧ ¬ isDay c y ⟨cn, mk, mo, tw⟩ mo d0 ∧ ¬ isDay c y ⟨cn, mk, mo, tw⟩ mo (wrap64 (d0 - 1)))) := fun h => by
         rcases HK.out with ⟨rfl, rfl⟩ | ⟨rfl, rfl, h0⟩ | ⟨rfl, _⟩
         · exact .inr (.inl ⟨rfl, rfl, h⟩)
         · exact .inr (.inr ⟨rfl, h0, h⟩)
         · omega
        have HNO := hideP hno
        clear hno HK HQ
        obtain ⟨u0, u1, u2, u3⟩ := cells4 (fun z : Later wr => (S.out.later z.below).rom)
        obtain ⟨v0, v1, v2, v3⟩ := cells4 (fun z : Later wr => (S.out.later z.below).dat)
        have KO : ∀ z : Later wr, CR 252 #[.agg #[.int .i64 c, .int .i64 y, .int .i64 mo, .int .i64 x]] z.w (.bool (dateOk c y mo x)) := fun z => implDateOk c y mo x z.w (HT.out.later (S.out.later z.below).below)
        have KR : ∀ z : Later wr, CR 270 #[.agg #[.int .i64 c, .int .i64 y, .int .i64 mo, .int .i64 x]] z.w (romV (romanOf c y mo x)) := fun z => implRomanOf c y mo x z.w (HT.out.later (S.out.later z.below).below)
        by_cases hok : dateP c y mo x
        case neg =>
         have HN := hideP (HNO.out (fun h => hok h.1)).out
         rw [dateOk_false hok] at KO
         clear hok KR HNO
         go_wp2_with fail
         refine wp_region_later (W := wr) (Below.refl _ _) (by kernel_rfl) (by kernel_rfl) ?_
         repeat (go_big_quiet_step (first | (go_at_call 252; exact calls_later (KO _)) | (go_at_call 270; exact calls_later (KR _))))
         refine quietE fun x5 => ?_
         have s3 := v3 x5
         have f3 := (S.out.later x5.below).dat.thaw 3
         go_wp2
         exact ⟨⟨k + 1, wrap64 (x - 1), by omega, by go_num, (S.out.later x5.below).day _, HN.out⟩, by simp [intOf]; omega⟩
        rw [dateOk_true hok] at KO
        by_cases hr : romanOf c y mo x = ⟨cn, mk, mo, tw⟩
        · have HV := hideP (romDay_yes (show isDay c y ⟨cn, mk, mo, tw⟩ mo x from ⟨hok, hr⟩))
          rw [hr] at KR
          clear hok hr HNO
          go_wp2_with fail
          refine wp_region_later (W := wr) (Below.refl _ _) (by kernel_rfl) (by kernel_rfl) ?_
          repeat (go_big_quiet_step (first | (go_at_call 252; exact calls_later (KO _)) | (go_at_call 270; exact calls_later (KR _))))
          refine quietE fun x5 => ?_
          have s0 := v0 x5
          have s1 := v1 x5
          have s2 := v2 x5
          have s3 := v3 x5
          have q0 := (S.out.later x5.below).res.cell 0 rfl
          have q1 := (S.out.later x5.below).res.cell 1 rfl
          have q2 := (S.out.later x5.below).res.cell 2 rfl
          have q3 := (S.out.later x5.below).res.cell 3 rfl
          have f0 := (S.out.later x5.below).res.thaw 0
          have f1 := (S.out.later x5.below).res.thaw 1
          have f2 := (S.out.later x5.below).res.thaw 2
          have f3 := (S.out.later x5.below).res.thaw 3
          go_wp2_with fail
          rw [put4_eq]
          have Z := put4_blk (v0 := .int .i64 c) (v1 := .int .i64 y) (v2 := .int .i64 mo) (v3 := .int .i64 x) (S.out.later x5.below).res
          have z0 := Z.cell 0 rfl
          have z1 := Z.cell 1 rfl
          have z2 := Z.cell 2 rfl
          have z3 := Z.cell 3 rfl
          exact bodyPost_ret (by simp [results, Tryz.results283, go_sem, z0, z1, z2, z3]; try rfl) rfl ⟨by rw [HV.out], put4_below (S.out.later x5.below).below (by omega)⟩
        have HN := hideP (HNO.out (fun h => hr h.2)).out
        generalize romanOf c y mo x = ro at *
        obtain ⟨a0, a1, a2, a3⟩ := ro
        have hne : (a0 == cn) = false ∨ (a1 == mk) = false ∨ (a2 == mo) = false ∨ (a3 == tw) = false := by
         by_cases e0 : a0 = cn
         · by_cases e1 : a1 = mk
           · by_cases e2 : a2 = mo
             · by_cases e3 : a3 = tw
               · exact absurd (by rw [e0, e1, e2, e3]) hr
               · exact .inr (.inr (.inr (by simp [e3])))
             · exact .inr (.inr (.inl (by simp [e2])))
           · exact .inr (.inl (by simp [e1]))
         · exact .inl (by simp [e0])
        clear hr hok HNO
        rcases hne with he | he | he | he
        all_goals
         skip
         go_wp2_with fail
         refine wp_region_later (W := wr) (Below.refl _ _) (by kernel_rfl) (by kernel_rfl) ?_
         repeat (go_big_quiet_step (first | (go_at_call 252; exact calls_later (KO _)) | (go_at_call 270; exact calls_later (KR _))))
         refine quietE fun x5 => ?_
         have s3 := v3 x5
         have f3 := (S.out.later x5.below).dat.thaw 3
         go_wp2
         exact ⟨⟨k + 1, wrap64 (x - 1), by omega, by go_num, (S.out.later x5.below).day _, HN.out⟩, by simp [intOf]; omega⟩
      · have hk2 : k = 2 := by omega
        subst hk2
        have HV : Hid (dayOfRoman c y ⟨cn, mk, mo, tw⟩ = (0, 0, 0, 0)) := romDay_no fun m d h => by
         obtain ⟨rfl, hd⟩ := HQ.out m d h
         rcases HK.out with ⟨h0, _⟩ | ⟨h0, _⟩ | ⟨_, h1, h2⟩
         · omega
         · omega
         · rcases hd with rfl | rfl
           · exact h1 h
           · exact h2 h
        clear HK HQ
        have q0 := S.out.res.cell 0 rfl
        have q1 := S.out.res.cell 1 rfl
        have q2 := S.out.res.cell 2 rfl
        have q3 := S.out.res.cell 3 rfl
        have f0 := S.out.res.thaw 0
        have f1 := S.out.res.thaw 1
        have f2 := S.out.res.thaw 2
        have f3 := S.out.res.thaw 3
        go_wp2_with fail
        rw [put4_eq]
        have Z := put4_blk (v0 := .int .i64 0) (v1 := .int .i64 0) (v2 := .int .i64 0) (v3 := .int .i64 0) S.out.res
        have z0 := Z.cell 0 rfl
        have z1 := Z.cell 1 rfl
        have z2 := Z.cell 2 rfl
        have z3 := Z.cell 3 rfl
        exact bodyPost_ret (by simp [results, Tryz.results283, go_sem, z0, z1, z2, z3]; try rfl) rfl ⟨by rw [HV.out], put4_below S.out.below (by omega)⟩
end Go.Proofs.YtpclaceefapppaaGreatDoor.ctr
