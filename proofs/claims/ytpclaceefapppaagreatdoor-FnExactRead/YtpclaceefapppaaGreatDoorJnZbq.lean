/- The program's dayIn of each kind, whenDays and patchedDays: the days that a saying may lead to; and what else the law reaches. -/
import Derived.Test.YtpclaceefapppaaGreatDoorJnZad
import Derived.Test.YtpclaceefapppaaGreatDoorJnZbm
import Derived.Test.YtpclaceefapppaaGreatDoorWhnKndZ
import Derived.Test.YtpclaceefapppaaGreatDoorJnZbg
import Derived.Test.YtpclaceefapppaaGreatDoorRomDayZ
import Derived.Test.YtpclaceefapppaaGreatDoorJnZam
import Derived.PlainAid
import Derived.Lib.SlicesCompact
set_option maxRecDepth 100000
set_option maxHeartbeats 24000000
namespace Go.Proofs.YtpclaceefapppaaGreatDoor.ctr
open Go.RowKit
theorem dayDayIn (m d c y : Int) (w : World) (hT : Tab w) : CR 375 #[.agg #[.int .i64 m, .int .i64 d], .int .i64 c, .int .i64 y] w (.int .i64 (dayOf c y m d)) := by
 obtain ⟨W0, hW0, hC, hBl⟩ := box_any w #[.int .i64 m, .int .i64 d] 218
 obtain ⟨c0, c1⟩ := cells2 hC
 have K : ∀ x : Later W0, CR 301 #[.agg #[.int .i64 c, .int .i64 y, .int .i64 m, .int .i64 d]] x.w (.int .i64 (dayOf c y m d)) := fun x => implDayOf c y m d x.w (hT.later (hBl x))
 have HW0 := hideP hW0
 have HBl := hideP hBl
 clear hW0 hC hBl hT
 generalize dayOf c y m d = fd at *
 go_enter Tryz.func375, Tryz.ntmps375
 go_wp2_with fail
 rw [← HW0.out]
 refine latO (K ⟨W0, Below.refl _ _⟩) fun x1 => ?_
 go_wp2
 go_ret
 exact ⟨rfl, HBl.out x1⟩
theorem romDayIn (a b c : Int) (t : Bool) (cc y : Int) (w : World) (hT : Tab w) : CR 378 #[.agg #[.int .i64 a, .int .i64 b, .int .i64 c, .bool t], .int .i64 cc, .int .i64 y] w (.int .i64 (dayOf (dayOfRoman cc y ⟨a, b, c, t⟩).1 (dayOfRoman cc y ⟨a, b, c, t⟩).2.1 (dayOfRoman cc y ⟨a, b, c, t⟩).2.2.1 (dayOfRoman cc y ⟨a, b, c, t⟩).2.2.2)) := by
 obtain ⟨W0, hW0, hC, hBl⟩ := box_any w #[.int .i64 a, .int .i64 b, .int .i64 c, .bool t] 220
 obtain ⟨c0, c1, c2, c3⟩ := cells4 hC
 obtain ⟨q0, q1, q2, q3, hq⟩ : ∃ q0 q1 q2 q3, dayOfRoman cc y ⟨a, b, c, t⟩ = (q0, q1, q2, q3) := ⟨_, _, _, _, rfl⟩
 have K1 : ∀ x : Later W0, CR 283 #[.int .i64 cc, .int .i64 y, .agg #[.int .i64 a, .int .i64 b, .int .i64 c, .bool t]] x.w (.agg #[.int .i64 q0, .int .i64 q1, .int .i64 q2, .int .i64 q3]) := fun x => by
  have k := implDayOfRoman cc y ⟨a, b, c, t⟩ x.w (hT.later (hBl x))
  rw [hq] at k
  exact k
 rw [hq]
 dsimp only
 have K : ∀ x : Later W0, CR 301 #[.agg #[.int .i64 q0, .int .i64 q1, .int .i64 q2, .int .i64 q3]] x.w (.int .i64 (dayOf q0 q1 q2 q3)) := fun x => implDayOf q0 q1 q2 q3 x.w (hT.later (hBl x))
 have HW0 := hideP hW0
 have HBl := hideP hBl
 clear hW0 hC hBl hT hq
 generalize dayOf q0 q1 q2 q3 = fd at *
 go_enter Tryz.func378, Tryz.ntmps378
 go_wp2_with fail
 rw [← HW0.out]
 refine latO (K1 ⟨W0, Below.refl _ _⟩) fun x1 => ?_
 go_wp2_with fail
 refine lat (K x1) fun x2 => ?_
 go_wp2
 go_ret
 exact ⟨rfl, HBl.out x2⟩
theorem dIn_b (wh : Whn) (c y : Int) (h1 : 0 ≤ wh.plus) (h2 : wh.plus ≤ 99) : -10000 ≤ dIn wh c y ∧ dIn wh c y ≤ 4000000 := by
 unfold dIn
 split
 · have := dayOf_bound c y wh.mon wh.day
   omega
 · split
   · have := dayOf_bound (dayOfRoman c y wh.rom).1 (dayOfRoman c y wh.rom).2.1 (dayOfRoman c y wh.rom).2.2.1 (dayOfRoman c y wh.rom).2.2.2
     omega
   · have := feaDay_b c y (feaOf wh.feast).name (feaOf wh.feast).mv (feaOf wh.feast).off (feaOf wh.feast).m (feaOf wh.feast).d
     omega
theorem idx3w (a b e : Int) (k : Nat) (h : k < 3) (w : World) : (Instr.index 152 (.agg #[.int .i64 a, .int .i64 b, .int .i64 e]) (.int .i64 (k : Int))).run Tryz.prog w = .ok (.int .i64 ([a, b, e].getD k 0)) w := by
 have : k = 0 ∨ k = 1 ∨ k = 2 := by omega
 rcases this with rfl | rfl | rfl <;> rfl
theorem three_at (y : Int) (k : Nat) (h : k < 3) : [y - 1, y, y + 1].getD k 0 = y - 1 + (k : Int) := by
 have : k = 0 ∨ k = 1 ∨ k = 2 := by omega
 rcases this with rfl | rfl | rfl
 · show y - 1 = _; omega
 · show y = _; omega
 · show y + 1 = _; omega
theorem own_ne1 {w : World} {base e size : Nat} {v : Value} {n : Nat} {xs : List Value} {b : Nat} {vs : Array Value} {t : TypeId} (h : w.ownsRow base e size v n xs) (hb : Blk w b vs t) (hte : t ≠ e) : some b ≠ v.ownBlock := by
 intro he
 rcases h.2 with ⟨rfl, _⟩ | ⟨g, cap, cur, rfl, _, hh, _⟩
 · cases he
 · have hg : b = g := by simpa [Value.ownBlock] using he
   subst hg
   unfold Blk at hb
   rw [hb] at hh
   simp at hh
   exact hte hh.2
theorem Blk.gr1 {w w' : World} {b : Nat} {vs : Array Value} {t : TypeId} {row : Option Nat} (h : Blk w b vs t) (g : w.grownBy w' row) (hn : some b ≠ row) : Blk w' b vs t := (g.block b h.lt hn).trans h
theorem implWhenDays (v : Value) (r : Rgm) (s : Say) (w : World) (h : GRow w v r) (hr : regimeB r = true) (hs : sayB s = true) (hT : Tab w) : Calls Tryz.prog 80 #[v, sayV s] w fun e w' => ∃ o, e = .returned o ∧ ∃ xs, ISt w o xs w' ∧ WD r s r.segs.length 0 xs := by
 obtain ⟨y1, y2⟩ := say_year hs
 obtain ⟨⟨k, m, d, ⟨a, b, c, t⟩, f, p⟩, y, so, ca⟩ := s
 have hw : whnB ⟨k, m, d, ⟨a, b, c, t⟩, f, p⟩ = true := by unfold sayB at hs; simp only [Bool.and_eq_true] at hs; exact hs.1
 obtain ⟨Wh, hWh⟩ : ∃ Wh : Whn, Wh = ⟨k, m, d, ⟨a, b, c, t⟩, f, p⟩ := ⟨_, rfl⟩
 obtain ⟨Sy, hSy⟩ : ∃ Sy : Say, Sy = ⟨⟨k, m, d, ⟨a, b, c, t⟩, f, p⟩, y, so, ca⟩ := ⟨_, rfl⟩
 rw [show WD r ⟨⟨k, m, d, ⟨a, b, c, t⟩, f, p⟩, y, so, ca⟩ = WD r Sy by rw [hSy]]
 have hp : 0 ≤ p ∧ p ≤ 99 := by
  rcases whn_cases hw with ⟨_, _, _, _, _, _, rfl, _⟩ | ⟨_, _, _, _, rfl, _⟩ | ⟨_, _, _, _, _, _, _, _, p1, p2⟩
  · exact ⟨by decide, by decide⟩
  · exact ⟨by decide, by decide⟩
  · exact ⟨p1, p2⟩
 obtain ⟨i0, hi, hz0, hz1, hz2⟩ := info_parts info_int
 have hlen := right_segs hr
 obtain ⟨v1, v2, v3, rfl, _, x1, x2, x3⟩ := h
 obtain ⟨a1, c1, rfl, _, hc1, hcS⟩ := x1
 obtain ⟨gs, rfl, _⟩ := hcS 0 (by omega)
 obtain ⟨W0, hW0, hD, hR, hBl⟩ := two_box w #[.string r.name, .int .i64 r.fr, .int .i64 r.to, .slice (some ⟨gs, 0, none⟩) r.segs.length c1, v2, v3, .int .i64 r.rule] #[.int .i64 k, .int .i64 m, .int .i64 d, .int .i64 a, .int .i64 b, .int .i64 c, .bool t, .string f, .int .i64 p, .int .i64 y, .int .i64 so, .int .i64 ca] 35 58
 obtain ⟨cr0, cr1, cr2, cr3, cr4, cr5, cr6⟩ := cells7 hD
 obtain ⟨cs0, cs1, cs2, cs3, cs4, cs5, cs6, cs7, cs8, cs9, cs10, cs11⟩ := cells12 hR
 have HS : Hid (∀ (V : World), Below W0.heap.size W0 V → ∀ k, k < r.segs.length → IAt segK V gs k (atK segK r.segs k)) := fun V hb k hk => by
  obtain ⟨g, e, hg, x⟩ := hcS k hk
  cases e
  exact x.below (hBl ⟨V, hb⟩) hg
 have HDB : Hid (∀ cc y, -10000 ≤ dIn Wh cc y ∧ dIn Wh cc y ≤ 4000000) := fun cc y => dIn_b _ cc y (by rw [hWh]; exact hp.1) (by rw [hWh]; exact hp.2)
 have HCA : Hid (∀ k i, candAt r Sy k i = dIn Wh (atK segK r.segs k).cal (y - 1 + (i : Int)) - (atK segK r.segs k).off) := fun k i => by rw [hSy, hWh]; rfl
 have HSO : Hid (∀ k, k < r.segs.length → 400 ≤ (atK segK r.segs k).fr ∧ (atK segK r.segs k).to ≤ 1090000 ∧ -3 ≤ (atK segK r.segs k).off ∧ (atK segK r.segs k).off ≤ 3) := fun k hk => by
  have := segOk_nums (right_seg hr hk).1
  omega
 have HHit : Hid (∀ j i xs, WD r Sy j i xs → j < r.segs.length → (atK segK r.segs j).fr ≤ candAt r Sy j i → candAt r Sy j i ≤ (atK segK r.segs j).to → WD r Sy j (i + 1) (xs ++ [candAt r Sy j i])) := fun j i xs q a b c => q.hit a b c
 have HMis : Hid (∀ j i xs, WD r Sy j i xs → ¬ ((atK segK r.segs j).fr ≤ candAt r Sy j i ∧ candAt r Sy j i ≤ (atK segK r.segs j).to) → WD r Sy j (i + 1) xs) := fun j i xs q a => q.miss a
 have HNx : Hid (∀ j xs, WD r Sy j 3 xs → WD r Sy (j + 1) 0 xs) := fun j xs q => q.next
 have HLn : Hid (∀ j i xs, WD r Sy j i xs → xs.length ≤ 3 * j + i) := fun j i xs q => q.2.2
 have HN0 : Hid (WD r Sy 0 0 []) := wd_nil
 have IX : ∀ (k : Nat), k < 3 → ∀ W, (Instr.index 152 (.agg #[.int .i64 (y - 1), .int .i64 y, .int .i64 (y + 1)]) (.int .i64 (k : Int))).run Tryz.prog W = .ok (.int .i64 (y - 1 + (k : Int))) W := fun k h W => by
  have q := idx3w (y - 1) y (y + 1) k h W
  rw [three_at y k h] at q
  exact q
 obtain ⟨AR, hAR⟩ : ∃ AR : Array Value, AR = #[.int .i64 (y - 1), .int .i64 y, .int .i64 (y + 1)] := ⟨_, rfl⟩
 rw [← hAR] at IX
 have HAR := hideP hAR
 have HIX := hideP IX
 have HW0 := hideP hW0
 have HB0 : Hid (Below w.heap.size w W0) := hBl ⟨W0, Below.refl _ _⟩
 rcases whn_cases hw with ⟨rfl, rfl, rfl, rfl, rfl, rfl, rfl, _⟩ | ⟨rfl, rfl, rfl, rfl, rfl, _⟩ | ⟨rfl, rfl, rfl, rfl, rfl, rfl, rfl, _, p1, p2⟩
 focus
   have KK : ∀ W, CR 133 #[.agg #[.int .i64 0, .int .i64 m, .int .i64 d, .int .i64 0, .int .i64 0, .int .i64 0, .bool false, .string ⟨#[]⟩, .int .i64 0]] W (.iface 218 (.agg #[.int .i64 m, .int .i64 d])) := fun W => kindDay m d W
   have KM : Hid (∀ cc y W, Below W0.heap.size W0 W → CR 375 #[.agg #[.int .i64 m, .int .i64 d], .int .i64 cc, .int .i64 y] W (.int .i64 (dIn Wh cc y))) := fun cc y W hb => by
    have hT : Tab W := hT.later (hBl ⟨W, hb⟩)
    rw [hWh]
    exact dayDayIn m d cc y W hT
 rotate_left
 focus
   have KK : ∀ W, CR 133 #[.agg #[.int .i64 1, .int .i64 0, .int .i64 0, .int .i64 a, .int .i64 b, .int .i64 c, .bool t, .string ⟨#[]⟩, .int .i64 0]] W (.iface 220 (.agg #[.int .i64 a, .int .i64 b, .int .i64 c, .bool t])) := fun W => kindRom a b c t W
   have KM : Hid (∀ cc y W, Below W0.heap.size W0 W → CR 378 #[.agg #[.int .i64 a, .int .i64 b, .int .i64 c, .bool t], .int .i64 cc, .int .i64 y] W (.int .i64 (dIn Wh cc y))) := fun cc y W hb => by
    have hT : Tab W := hT.later (hBl ⟨W, hb⟩)
    rw [hWh]
    exact romDayIn a b c t cc y W hT
 rotate_left
 focus
   have KK : ∀ W, CR 133 #[.agg #[.int .i64 2, .int .i64 0, .int .i64 0, .int .i64 0, .int .i64 0, .int .i64 0, .bool false, .string f, .int .i64 p]] W (.iface 223 (.agg #[.string (feaOf f).name, .bool (feaOf f).mv, .int .i64 (feaOf f).off, .int .i64 (feaOf f).m, .int .i64 (feaOf f).d, .int .i64 p])) := fun W => kindFea f p W
   have KM : Hid (∀ cc y W, Below W0.heap.size W0 W → CR 381 #[.agg #[.string (feaOf f).name, .bool (feaOf f).mv, .int .i64 (feaOf f).off, .int .i64 (feaOf f).m, .int .i64 (feaOf f).d, .int .i64 p], .int .i64 cc, .int .i64 y] W (.int .i64 (dIn Wh cc y))) := fun cc y W hb => by
    have hT : Tab W := hT.later (hBl ⟨W, hb⟩)
    rw [hWh]
    exact feaDayIn (feaOf f).name (feaOf f).mv (feaOf f).off (feaOf f).m (feaOf f).d p cc y W (Nat.le_trans (feaOf_len f) (by decide)) hT (by have := feaDay_b cc y (feaOf f).name (feaOf f).mv (feaOf f).off (feaOf f).m (feaOf f).d; omega) (by have := feaDay_b cc y (feaOf f).name (feaOf f).mv (feaOf f).off (feaOf f).m (feaOf f).d; omega) p1 p2
 rotate_left
 all_goals
  clear hW0 hBl hD hR hcS hc1 hT x2 x3 IX hAR hr hw hs hp hWh hSy
  generalize WD r Sy = wd at *
  generalize dIn Wh = dn at *
  generalize candAt r Sy = cd at *
  go_enter Tryz.func80, Tryz.ntmps80
  go_wp2_with fail
  rw [← HW0.out]
  refine (KK _).mono ?_
  rintro e w1 ⟨rfl, hb⟩
  have S1 : Hid (ISt W0 (.slice none 0 0) [] w1) := (ISt.nil W0).later hb
  have d3 := cr3 ⟨w1, hb⟩
  dsimp only at d3
  clear hb KK
  go_wp2_with fail
  clear d3
  go_loopw [6, 18] (fun o i wr => ∃ (j : Nat) (xs : List Int), j ≤ r.segs.length ∧ i = .int .i64 (j : Int) ∧ Hid (wd j 0 xs) ∧ ISt W0 o xs wr) (fun _ i _ => ((r.segs.length : Int) - intOf i).toNat)
  case atStart => exact ⟨0, [], Nat.zero_le _, rfl, HN0, S1.out⟩
  case round =>
   obtain ⟨j, xs, hj, rfl, hWD, hS⟩ := hrel
   have S := hideP hS
   clear hS S1 HN0
   by_cases hlt : (j : Int) < (r.segs.length : Int)
   case neg =>
    obtain rfl : j = r.segs.length := by omega
    go_wp2
    go_ret
    exact ⟨_, rfl, xs, ⟨own_mono1 S.out.row HB0.out.size, HB0.out.trans (S.out.below.mono HB0.out.size)⟩, hWD.out⟩
   have hjn : j < r.segs.length := by omega
   have hsg := (HS.out wr S.out.below j hjn).seg
   have hso := HSO.out j hjn
   have HC2 : Hid (∀ i : Nat, cd j i = dn (atK segK r.segs j).cal (y - 1 + (i : Int)) - (atK segK r.segs j).off) := HCA.out j
   have HH2 : Hid (∀ (i : Nat) (xs : List Int), wd j i xs → (atK segK r.segs j).fr ≤ cd j i → cd j i ≤ (atK segK r.segs j).to → wd j (i + 1) (xs ++ [cd j i])) := fun i xs q a b => HHit.out j i xs q hjn a b
   have HM2 : Hid (∀ (i : Nat) (xs : List Int), wd j i xs → ¬ ((atK segK r.segs j).fr ≤ cd j i ∧ cd j i ≤ (atK segK r.segs j).to) → wd j (i + 1) xs) := fun i xs q a => HMis.out j i xs q a
   generalize atK segK r.segs j = s at *
   obtain ⟨g0, g1, g2, g3, g4⟩ := hsg
   obtain ⟨V, hV⟩ : ∃ V, V = wr.alloc (.cells #[.int .i64 s.fr, .int .i64 s.to, .int .i64 s.cal, .int .i64 s.sty, .int .i64 s.off] 91) := ⟨_, rfl⟩
   have SV0 : ISt W0 u6 xs V := by rw [hV]; exact S.out.later ((Below.refl _ _).alloc (Nat.le_refl _) _)
   have bV : Blk V wr.heap.size #[.int .i64 s.fr, .int .i64 s.to, .int .i64 s.cal, .int .i64 s.sty, .int .i64 s.off] 91 := by rw [hV]; exact Blk.new _ _ _
   have HV := hideP hV
   have SV := hideP SV0
   have HBV := hideP bV
   have e9 := cs9 ⟨wr, S.out.below⟩
   have f9 := cs9 ⟨V, SV0.below⟩
   dsimp only at e9 f9
   clear hV SV0 bV
   go_upto_region 6 with fail
   rw [← HV.out]
   go_wp2_with fail
   rw [← HAR.out]
   clear g0 g1 g2 g3 g4 e9 f9 HV S
   generalize wr.heap.size = gb at *
   go_loopw [6, 31] (fun o i wr2 => ∃ (k : Nat) (zs : List Int), k ≤ 3 ∧ i = .int .i64 (k : Int) ∧ Hid (wd j k zs) ∧ ISt W0 o zs wr2 ∧ Hid (Blk wr2 gb #[.int .i64 s.fr, .int .i64 s.to, .int .i64 s.cal, .int .i64 s.sty, .int .i64 s.off] 91)) (fun _ i _ => 3 - (intOf i).toNat)
   case atStart => exact ⟨0, xs, Nat.zero_le _, rfl, hWD, SV.out, HBV⟩
   case round =>
    obtain ⟨k, zs, hk, rfl, hWZ, hS, HB⟩ := hrel
    have Z := hideP hS
    clear hS SV HBV
    by_cases hk3 : k < 3
    case neg =>
     obtain rfl : k = 3 := by omega
     have HN : Hid (wd (j + 1) 0 zs) := HNx.out j zs hWZ.out
     clear hWZ
     go_wp2
     exact ⟨⟨j + 1, zs, by omega, by apply congrArg (Value.int .i64); omega, HN, Z.out⟩, by simp [intOf]; omega⟩
    have hix := HIX.out k hk3
    have hDb := HDB.out s.cal (y - 1 + (k : Int))
    have KMx := fun x : Later wr => KM.out s.cal (y - 1 + (k : Int)) x.w (Z.out.later x.below).below
    have hck := HC2.out k
    have hzl := HLn.out j k zs hWZ.out
    have HHk : Hid (s.fr ≤ cd j k → cd j k ≤ s.to → wd j (k + 1) (zs ++ [cd j k])) := fun a b => HH2.out k zs hWZ.out a b
    have HMk : Hid (¬ (s.fr ≤ cd j k ∧ cd j k ≤ s.to) → wd j (k + 1) zs) := fun a => HM2.out k zs hWZ.out a
    rw [hck] at HHk HMk
    clear hck hWZ
    generalize dn s.cal (y - 1 + (k : Int)) = D at *
    have b2 := Later.at (HB.out.cell 2 rfl)
    have b4 := Later.at (HB.out.cell 4 rfl)
    go_wp2_with fail
    generalize y - 1 + (k : Int) = yk at *
    have TD : Below wr.heap.size wr wr.drew := (Below.refl _ _).drew
    have KE : Hid (∀ V', Below wr.heap.size wr V' → V'.cell? ⟨gb, 2, none⟩ = some (.int .i64 s.cal) ∧ V'.cell? ⟨gb, 4, none⟩ = some (.int .i64 s.off)) := fun V' hb => ⟨(HB.out.below hb HB.out.lt).cell 2 rfl, (HB.out.below hb HB.out.lt).cell 4 rfl⟩
    have KMd := KMx ⟨wr.drew, TD⟩
    dsimp only at KMd
    clear KMx b2 b4
    go_region_held (fun w' => w'.cell? ⟨gb, 2, none⟩ = some (.int .i64 s.cal) ∧ w'.cell? ⟨gb, 4, none⟩ = some (.int .i64 s.off)) (exact KE.out _ (by assumption)) (first | (go_at_call 375; refine KMd.mono ?_; rintro e w5 ⟨rfl, hb⟩; have TV : Below wr.heap.size wr w5 := TD.trans (hb.mono TD.size)) | (go_at_call 378; refine KMd.mono ?_; rintro e w5 ⟨rfl, hb⟩; have TV : Below wr.heap.size wr w5 := TD.trans (hb.mono TD.size)) | (go_at_call 381; refine KMd.mono ?_; rintro e w5 ⟨rfl, hb⟩; have TV : Below wr.heap.size wr w5 := TD.trans (hb.mono TD.size)))
    have Z5 := hideP (Z.out.later TV)
    have HB5 := hideP (HB.out.below TV HB.out.lt)
    clear Z HB KE TD TV hb KMd
    have b0 := HB5.out.cell 0 rfl
    have b1 := HB5.out.cell 1 rfl
    by_cases h1 : s.fr ≤ D - s.off
    case neg =>
     have HN := hideP (HMk.out (fun q => h1 q.1))
     clear HHk HMk
     go_wp2
     exact ⟨⟨k + 1, zs, by omega, by apply congrArg (Value.int .i64); omega, HN.out, Z5.out, HB5⟩, by simp [intOf]; omega⟩
    by_cases h2 : D - s.off ≤ s.to
    case neg =>
     have HN := hideP (HMk.out (fun q => h2 q.2))
     clear HHk HMk
     go_wp2
     exact ⟨⟨k + 1, zs, by omega, by apply congrArg (Value.int .i64); omega, HN.out, Z5.out, HB5⟩, by simp [intOf]; omega⟩
    have HN := hideP (HHk.out h1 h2)
    clear HHk HMk
    go_wp2_with (at_builtin; refine wpList_append_own _ rfl _ _ 28 rfl W0.heap.size 3 i0 (.int .i64 0) 1 8 Tryz.underlying28 hi hz0 hz1 hz2 rfl (by decide) _ _ _ rfl (Z5.out.row.alloc _) ⟨w5.heap.size, 0, none⟩ 1 1 [.int .i64 (D - s.off)] rfl rfl (cell_one_new _ _ _) (by simp [Value.oneCell']) (by unfold maxLen; omega) (by omega) (by have := Z5.out.below.size; rw [inew]; omega) ?_; intro v' w9 hown' hgrow _)
    refine ⟨⟨k + 1, zs ++ [D - s.off], by omega, by apply congrArg (Value.int .i64); omega, HN.out, Z5.out.app _ hown' hgrow, ?_⟩, by simp [intOf]; omega⟩
    exact (HB5.out.alloc _).gr1 hgrow (own_ne1 Z5.out.row HB5.out (by decide))
def patTo (l : List Pat) (k : Nat) : List Int := (l.take k).map Pat.day
theorem patTo_next {l : List Pat} {k : Nat} (h : k < l.length) : patTo l (k + 1) = patTo l k ++ [(atK patK l k).day] := by
 unfold patTo
 rw [List.take_succ_eq_append_getElem h, List.map_append, atK_eq h]
 rfl
theorem patTo_len (l : List Pat) (k : Nat) : (patTo l k).length ≤ k := by
 unfold patTo
 rw [List.length_map, List.length_take]
 omega
theorem implPatched (v : Value) (r : Rgm) (w : World) (h : GRow w v r) (hl : r.pats.length ≤ 8) : Calls Tryz.prog 81 #[v] w fun e w' => ∃ o, e = .returned o ∧ ISt w o (r.pats.map Pat.day) w' := by
 obtain ⟨i0, hi, hz0, hz1, hz2⟩ := info_parts info_int
 obtain ⟨v1, v2, v3, rfl, _, x1, x2, x3⟩ := h
 obtain ⟨a1, c1, rfl, _⟩ := x1
 obtain ⟨a2, c2, rfl, _, _, hcP⟩ := x2
 obtain ⟨a3, c3, rfl, _⟩ := x3
 obtain ⟨W0, hW0, d0, d1, d2, d3, d4, d5, d6, hBl⟩ := seven_box w (.string r.name) (.int .i64 r.fr) (.int .i64 r.to) (.slice a1 r.segs.length c1) (.slice a2 r.pats.length c2) (.slice a3 r.rgns.length c3) (.int .i64 r.rule) 35
 have HK : Hid (∀ (V : World), Below W0.heap.size W0 V → ∀ k, k < r.pats.length → ∃ g, a2 = some ⟨g, 0, none⟩ ∧ IAt patK V g k (atK patK r.pats k)) := fun V hb k hk => by
  obtain ⟨g, e, hg, x⟩ := hcP k hk
  exact ⟨g, e, x.below (hBl ⟨V, hb⟩) hg⟩
 have HW0 := hideP hW0
 have HB0 : Hid (Below w.heap.size w W0) := hBl ⟨W0, Below.refl _ _⟩
 have k4 := d4 ⟨W0, Below.refl _ _⟩
 dsimp only at k4
 rw [show r.pats.map Pat.day = patTo r.pats r.pats.length by unfold patTo; rw [List.take_length]]
 clear hW0 hBl hcP d0 d1 d2 d3 d4 d5 d6
 have S0 : Hid (ISt W0 (.slice none 0 0) [] W0) := ISt.nil W0
 go_enter Tryz.func81, Tryz.ntmps81
 go_upto_region 2 with fail
 rw [← HW0.out]
 go_wp2_with fail
 clear k4
 go_loopw [3, 9] (fun o i wr => ∃ k : Nat, k ≤ r.pats.length ∧ i = .int .i64 (k : Int) ∧ ISt W0 o (patTo r.pats k) wr) (fun _ i _ => ((r.pats.length : Int) - intOf i).toNat)
 case atStart => exact ⟨0, Nat.zero_le _, rfl, S0.out⟩
 case round =>
  obtain ⟨k, hk, rfl, hS⟩ := hrel
  have S := hideP hS
  clear hS S0
  by_cases hlt : (k : Int) < (r.pats.length : Int)
  case neg =>
   obtain rfl : k = r.pats.length := by omega
   go_wp2
   go_ret
   exact ⟨_, rfl, own_mono1 S.out.row HB0.out.size, HB0.out.trans (S.out.below.mono HB0.out.size)⟩
  have hkn : k < r.pats.length := by omega
  obtain ⟨g, rfl, x⟩ := HK.out wr S.out.below k hkn
  have g0 : wr.cell? ⟨g, k * 3, none⟩ = some (.int .i64 (atK patK r.pats k).day) := x 0 _ rfl
  have g1 : wr.cell? ⟨g, k * 3 + 1, none⟩ = some (.int .i64 (atK patK r.pats k).mon) := x 1 _ rfl
  have g2 : wr.cell? ⟨g, k * 3 + 2, none⟩ = some (.int .i64 (atK patK r.pats k).dom) := x 2 _ rfl
  have hln := patTo_len r.pats k
  have HN := hideP (patTo_next (l := r.pats) hkn)
  clear x
  generalize patTo r.pats k = xs at *
  generalize atK patK r.pats k = q at *
  obtain ⟨V, hV⟩ : ∃ V, V = wr.alloc (.cells #[.int .i64 q.day, .int .i64 q.mon, .int .i64 q.dom] 96) := ⟨_, rfl⟩
  have SV0 : ISt W0 u3 xs V := by rw [hV]; exact S.out.later ((Below.refl _ _).alloc (Nat.le_refl _) _)
  have bV : Blk V wr.heap.size #[.int .i64 q.day, .int .i64 q.mon, .int .i64 q.dom] 96 := by rw [hV]; exact Blk.new _ _ _
  have HV := hideP hV
  have SV := hideP SV0
  have b0 := bV.cell 0 rfl
  clear hV SV0 bV
  go_upto_region 5 with fail
  rw [← HV.out]
  clear HV S g0 g1 g2
  generalize wr.heap.size = gb at *
  go_wp2_with (at_builtin; refine wpList_append_own _ rfl _ _ 28 rfl W0.heap.size 3 i0 (.int .i64 0) 1 8 Tryz.underlying28 hi hz0 hz1 hz2 rfl (by decide) _ _ _ rfl (SV.out.row.alloc _) ⟨V.heap.size, 0, none⟩ 1 1 [.int .i64 q.day] rfl rfl (cell_one_new _ _ _) (by simp [Value.oneCell']) (by unfold maxLen; omega) (by omega) (by have := SV.out.below.size; rw [inew]; omega) ?_; intro v' w9 hown' hgrow _)
  refine ⟨⟨k + 1, by omega, by apply congrArg (Value.int .i64); omega, ?_⟩, by simp [intOf]; omega⟩
  rw [HN.out]
  exact SV.out.app q.day hown' hgrow
theorem compact_set (zs : List Int) (h : zs.Pairwise (· ≤ ·)) : DSet (Lib.compact zs) (fun z => z ∈ zs) := by
 have hat : ∀ j, j < zs.length → (zs.toArray)[j]! = zs.getD j 0 := fun j hj => by simp [List.getD, hj, getElem!_pos]
 have hle : ∀ i j, i ≤ j → j < zs.length → zs.getD i 0 ≤ zs.getD j 0 := fun i j hij hj => by
  by_cases e : i = j
  · rw [e]; exact Int.le_refl _
  · have := List.pairwise_iff_getElem.1 h i j (by omega) hj (by omega)
    simpa [List.getD, hj, show i < zs.length by omega] using this
 unfold Lib.compact Lib.compactUpTo
 refine ⟨List.pairwise_map.2 ?_, fun z => ?_⟩
 · have hp : ((List.range zs.length).filter (Lib.keeps zs.toArray)).Pairwise (fun i j => i < j ∧ j < zs.length ∧ Lib.keeps zs.toArray j = true) := by
    have h1 : ((List.range zs.length).filter (Lib.keeps zs.toArray)).Pairwise (· < ·) := List.Pairwise.filter _ List.pairwise_lt_range
    refine List.Pairwise.imp_of_mem ?_ h1
    intro a b ha hb hab
    have := List.mem_filter.1 hb
    exact ⟨hab, List.mem_range.1 this.1, this.2⟩
   refine hp.imp ?_
   rintro i j ⟨hij, hj, hk⟩
   unfold Lib.keeps at hk
   have hk := of_decide_eq_true hk
   rcases hk with hk | hk
   · omega
   · rw [hat j hj, hat (j - 1) (by omega)] at hk
     rw [hat i (by omega), hat j hj]
     have a := hle i (j - 1) (by omega) (by omega)
     have b := hle (j - 1) j (by omega) hj
     omega
 · rw [List.mem_map]
   constructor
   · rintro ⟨j, hj, rfl⟩
     have hj := List.mem_range.1 (List.mem_filter.1 hj).1
     rw [hat j hj]
     simp [List.getD, hj]
   · intro hz
     obtain ⟨j0, hj0, e0⟩ := List.getElem_of_mem hz
     have hex : ∃ j, j < zs.length ∧ zs.getD j 0 = z := ⟨j0, hj0, by simpa [List.getD, hj0] using e0⟩
     have hmin : ∀ m, (∃ j, j < zs.length ∧ zs.getD j 0 = z ∧ j ≤ m) → ∃ j, j < zs.length ∧ zs.getD j 0 = z ∧ ∀ i, i < j → zs.getD i 0 ≠ z := by
      intro m
      induction m with
      | zero => rintro ⟨j, a, b, c⟩; exact ⟨j, a, b, fun i hi => by omega⟩
      | succ m ih =>
       rintro ⟨j, a, b, c⟩
       by_cases e : ∃ i, i < j ∧ zs.getD i 0 = z
       · obtain ⟨i, hi, q⟩ := e
         exact ih ⟨i, by omega, q, by omega⟩
       · exact ⟨j, a, b, fun i hi q => e ⟨i, hi, q⟩⟩
     obtain ⟨j, a, b⟩ := hex
     obtain ⟨j, a, b, c⟩ := hmin j ⟨j, a, b, Nat.le_refl _⟩
     refine ⟨j, List.mem_filter.2 ⟨List.mem_range.2 a, ?_⟩, by rw [hat j a]; exact b⟩
     unfold Lib.keeps
     refine decide_eq_true ?_
     by_cases e : j = 0
     · exact .inl e
     · refine .inr ?_
       rw [hat j a, hat (j - 1) (by omega), b]
       exact fun q => c (j - 1) (by omega) q.symm
theorem sort_set {xs : List Int} : (xs.mergeSort (fun x y => decide (x ≤ y))).Pairwise (· ≤ ·) ∧ ∀ z, z ∈ xs.mergeSort (fun x y => decide (x ≤ y)) ↔ z ∈ xs := by
 refine ⟨?_, fun z => (List.mergeSort_perm xs _).mem_iff⟩
 have := List.pairwise_mergeSort (le := fun x y : Int => decide (x ≤ y)) (fun a b c h1 h2 => by simp at *; omega) (fun a b => by simp; omega) xs
 exact this.imp (fun h => of_decide_eq_true h)
theorem tidy_set (xs : List Int) : DSet (Lib.compact (xs.mergeSort (fun x y => decide (x ≤ y)))) (fun z => z ∈ xs) := (compact_set _ sort_set.1).imp sort_set.2
theorem pat_days {r : Rgm} (hr : regimeB r = true) {z : Int} (hz : z ∈ r.pats.map Pat.day) : r.fr ≤ z ∧ z ≤ r.to := by
 obtain ⟨p, hp, rfl⟩ := List.mem_map.1 hz
 obtain ⟨k, hk, rfl⟩ := List.getElem_of_mem hp
 unfold regimeB patsB at hr
 simp only [Bool.and_eq_true] at hr
 have := allTo_at hr.2.2.2.2.1.2 hk
 unfold patFit at this
 simp only [Bool.and_eq_true] at this
 rw [atK_eq hk] at this
 exact of_inB this.2.1
theorem pat_mem {l : List Pat} {n : Int} (h : 0 ≤ patAt l n) : n ∈ l.map Pat.day := by
 unfold patAt ifind at h
 rcases ifc_cases patK (patIs n) l 0 with ⟨a, _⟩ | ⟨k, hk, a, b⟩
 · omega
 · unfold patIs at b
   have b := of_decide_eq_true b
   rw [atK_eq hk] at b
   rw [← b]
   exact List.mem_map.2 ⟨_, List.getElem_mem hk, rfl⟩
theorem wd_in {r : Rgm} {s : Say} (hr : regimeB r = true) {j i : Nat} {xs : List Int} (h : WD r s j i xs) {z : Int} (hz : z ∈ xs) : r.fr ≤ z ∧ z ≤ r.to := by
 obtain ⟨k, hk, k1, k2⟩ := h.1 z hz
 have := right_seg hr hk
 omega
theorem days_final {r : Rgm} {s : Say} (hr : regimeB r = true) (hs : sayB s = true) {xs : List Int} (h : WD r s r.segs.length 0 xs) : Lib.compact (((xs ++ r.pats.map Pat.day).filter (saidB r s)).mergeSort (fun x y => decide (x ≤ y))) = daysSaid r s := by
 unfold daysSaid
 rw [if_pos ⟨hr, hs⟩]
 refine DSet.eq (tidy_set _) ((daysWhere_set r.fr r.to (saidB r s)).imp (fun z => ⟨fun k => ?_, fun k => ?_⟩))
 · refine List.mem_filter.2 ⟨List.mem_append.2 ?_, k.2.2⟩
   rcases said_all hr hs h k.1 k.2.1 k.2.2 with q | q
   · exact .inl q
   · exact .inr (pat_mem q)
 · obtain ⟨k1, k2⟩ := List.mem_filter.1 k
   rcases List.mem_append.1 k1 with q | q
   · have := wd_in hr h q
     exact ⟨this.1, this.2, k2⟩
   · have := pat_days hr q
     exact ⟨this.1, this.2, k2⟩
end Go.Proofs.YtpclaceefapppaaGreatDoor.ctr
