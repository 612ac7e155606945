/- The program's search by halves for a day's segment: the closure, sort.Search over it. Contract of the program's segmentOn: in a right regime, at a day of it, the one segment that SegAt tells. Contracts of the program's calendars' own rules of Easter: yearOk, epact, fullMoon, closedSum of julian and gregorian. -/
import Derived.Test.YtdgolaaheakfoaaGreatDoorJnSax
import Derived.Deep.LoopGhost
import Derived.Test.YtdgolaaheakfoaaGreatDoorJnSba
import Derived.Test.YtdgolaaheakfoaaGreatDoorJnSad
import Derived.Test.YtdgolaaheakfoaaGreatDoorJnSaa
namespace Go.Proofs.YtdgolaaheakfoaaGreatDoor.ctr
open Go.RowKit
set_option maxHeartbeats 1000000 in
theorem schHas (l : List Seg) (v1 : Value) (n : Int) (k bR bN : Nat) (w : World) (h : IRow segK w v1 l) (hk : k < l.length) (hR : w.cell? ⟨bR, 3, none⟩ = some v1) (hN : w.cell? ⟨bN, 0, none⟩ = some (.int .i64 n)) : Calls Tryz.prog 127 #[.int .i64 (k : Int), .pointer (some ⟨bR, 0, none⟩), .pointer (some ⟨bN, 0, none⟩)] w fun e w' => e = .returned (.bool (decide (n ≤ (atK segK l k).to))) ∧ Below w.heap.size w w' := by
  obtain ⟨a1, c1, rfl, hl, hm, hc⟩ := h
  obtain ⟨g, rfl, hg, x⟩ := hc k hk
  have e1 : ∀ y : Later w, y.w.cell? ⟨g, k * 5 + 1, none⟩ = some (.int .i64 (atK segK l k).to) := fun y => ((x.below y.below hg).seg).2.1
  have eR : ∀ y : Later w, y.w.cell? ⟨bR, 3, none⟩ = some (.slice (some ⟨g, 0, none⟩) l.length c1) := fun y => Later.at hR y
  have eN : ∀ y : Later w, y.w.cell? ⟨bN, 0, none⟩ = some (.int .i64 n) := fun y => Later.at hN y
  have hkz : (k : Int) < (l.length : Int) := by omega
  clear x hc hg hR hN
  generalize atK segK l k = s at *
  go_enter Tryz.func127, Tryz.ntmps127
  go_wp2_with fail
  refine wp_region_later (W := w) (Below.refl _ _) (by kernel_rfl) (by kernel_rfl) ?_
  repeat (go_big_quiet_step (fail))
  refine wpQuiet_nil ?_
  intro _ hw'
  obtain ⟨y, rfl⟩ := hw'
  go_wp2
  go_ret
  exact ⟨rfl, y.below⟩
set_option maxHeartbeats 4000000 in
theorem search (a b : Value) (n : Nat) (p : Nat → Bool) (w : World) (hsz : n ≤ 1000)
    (hf : ∀ x : Later w, ∀ i : Nat, i < n → Calls Tryz.prog 127 #[.int .i64 (i : Int), a, b] x.w fun e w' => e = .returned (.bool (p i)) ∧ Below x.w.heap.size x.w w')
    (hmono : ∀ a b, a ≤ b → b < n → p a = true → p b = true) :
    Calls Tryz.prog 126 #[.int .i64 (n : Int), .func (.func 127) #[] #[a, b]] w fun e w' => ∃ m : Nat, e = .returned (.int .i64 (m : Int)) ∧ m ≤ n ∧ (∀ t, t < m → p t = false) ∧ (∀ t, m ≤ t → t < n → p t = true) ∧ Below w.heap.size w w' := by
  have HF := hideP hf
  have M := hideP hmono
  clear hf hmono
  go_enter Tryz.func126, Tryz.ntmps126
  go_wp2
  go_loopg [5, 6] n (fun kx s5 s6 wr => ∃ (lo hi : Nat), s5 = .int .i64 (lo : Int) ∧ s6 = .int .i64 (hi : Int) ∧ lo ≤ hi ∧ hi ≤ n ∧ hi - lo ≤ kx ∧ (∃ x : Later w, wr = x.w) ∧ Hid ((∀ t, t < lo → p t = false) ∧ (∀ t, hi ≤ t → t < n → p t = true)))
  case atStart => exact ⟨0, n, rfl, rfl, Nat.zero_le _, Nat.le_refl _, by omega, ⟨⟨_, Below.refl _ _⟩, rfl⟩, (⟨fun t ht => absurd ht (Nat.not_lt_zero _), fun t h1 h2 => by omega⟩ : (∀ t, t < 0 → p t = false) ∧ (∀ t, n ≤ t → t < n → p t = true))⟩
  case round =>
    obtain ⟨lo, hi, rfl, rfl, hlh, hin, hg, ⟨x, rfl⟩, I⟩ := hrel
    by_cases hlt : lo < hi
    · have hc := HF.out x ((lo + hi) / 2) (by omega)
      rw [show (((lo + hi) / 2 : Nat) : Int) = ((lo : Int) + (hi : Int)) / 2 by omega] at hc
      cases hp : p ((lo + hi) / 2) <;> rw [hp] at hc
      · have HP := hideP hp
        clear hp
        go_wp2_with (refine hc.mono ?_; rintro e w' ⟨rfl, hb⟩; obtain ⟨x', rfl⟩ := x.next hb; clear hb)
        go_roundg (hi - ((lo + hi) / 2 + 1))
        case measure => omega
        case rel =>
          have I2 : Hid ((∀ t, t < (lo + hi) / 2 + 1 → p t = false) ∧ (∀ t, hi ≤ t → t < n → p t = true)) := ⟨fun t ht => (by
            cases h : p t with
            | false => rfl
            | true => have := M.out t ((lo + hi) / 2) (by omega) (by omega) h; rw [HP.out] at this; cases this), I.out.2⟩
          exact ⟨(lo + hi) / 2 + 1, hi, by rw [show ((lo : Int) + (hi : Int)) / 2 + 1 = (((lo + hi) / 2 + 1 : Nat) : Int) by omega], rfl, by omega, hin, Nat.le_refl _, ⟨x', rfl⟩, I2⟩
      · have HP := hideP hp
        clear hp
        go_wp2_with (refine hc.mono ?_; rintro e w' ⟨rfl, hb⟩; obtain ⟨x', rfl⟩ := x.next hb; clear hb)
        go_roundg ((lo + hi) / 2 - lo)
        case measure => omega
        case rel =>
          have I2 : Hid ((∀ t, t < lo → p t = false) ∧ (∀ t, (lo + hi) / 2 ≤ t → t < n → p t = true)) := ⟨I.out.1, fun t ht htn => M.out ((lo + hi) / 2) t ht htn HP.out⟩
          exact ⟨lo, (lo + hi) / 2, rfl, by rw [show ((lo : Int) + (hi : Int)) / 2 = (((lo + hi) / 2 : Nat) : Int) by omega], by omega, by omega, Nat.le_refl _, ⟨x', rfl⟩, I2⟩
    · obtain rfl : hi = lo := by omega
      go_wp2
      go_ret
      exact ⟨hi, rfl, hin, I.out.1, I.out.2, x.below⟩
end Go.Proofs.YtdgolaaheakfoaaGreatDoor.ctr
namespace Go.Proofs.YtdgolaaheakfoaaGreatDoor.ctr
open Go.RowKit
abbrev segV (s : Seg) : Value := .agg #[.int .i64 s.fr, .int .i64 s.to, .int .i64 s.cal, .int .i64 s.sty, .int .i64 s.off]
abbrev i5 : Array Value := #[.int .i64 0, .int .i64 0, .int .i64 0, .int .i64 0, .int .i64 0]
set_option maxHeartbeats 4000000 in
theorem implSegOn (v : Value) (r : Rgm) (n : Int) (w : World) (h : GRow w v r) (hr : regimeB r = true) (h1 : r.fr ≤ n) (h2 : n ≤ r.to) : Calls Tryz.prog 95 #[v, .int .i64 n] w fun e w' => e = .returned (segV (atK segK r.segs (segAt r.segs n).toNat)) ∧ Below w.heap.size w w' := by
  obtain ⟨v1, v2, v3, rfl, _, x1, x2, x3⟩ := h
  obtain ⟨W0, hW0⟩ : ∃ W0, W0 = ((w.alloc (.cells #[.string r.name, .int .i64 r.fr, .int .i64 r.to, v1, v2, v3, .int .i64 r.rule] 40)).alloc (.cells #[.int .i64 n] 3)).alloc (.cells i5 90) := ⟨_, rfl⟩
  have hBl' : ∀ w1, Below W0.heap.size W0 w1 → Below w.heap.size w w1 := by
    rw [hW0]
    exact fun w1 h => below_alloc (below_alloc (below_alloc h))
  have hBl : ∀ x : Later W0, Below w.heap.size w x.w := fun x => hBl' x.w x.below
  clear hBl'
  have hR : ∀ x : Later W0, Blk x.w w.heap.size #[.string r.name, .int .i64 r.fr, .int .i64 r.to, v1, v2, v3, .int .i64 r.rule] 40 := fun x => by
    have k := (((Blk.new w #[.string r.name, .int .i64 r.fr, .int .i64 r.to, v1, v2, v3, .int .i64 r.rule] 40).alloc (.cells #[.int .i64 n] 3)).alloc (.cells i5 90))
    rw [← hW0] at k
    exact k.later x
  have hN : ∀ x : Later W0, Blk x.w (w.heap.size + 1) #[.int .i64 n] 3 := fun x => by
    have k := (Blk.new (w.alloc (.cells #[.string r.name, .int .i64 r.fr, .int .i64 r.to, v1, v2, v3, .int .i64 r.rule] 40)) #[.int .i64 n] 3).alloc (.cells i5 90)
    rw [← hW0, World.size_alloc] at k
    exact k.later x
  have hZ : ∀ x : Later W0, Blk x.w (w.heap.size + 2) i5 90 := fun x => by
    have k := Blk.new ((w.alloc (.cells #[.string r.name, .int .i64 r.fr, .int .i64 r.to, v1, v2, v3, .int .i64 r.rule] 40)).alloc (.cells #[.int .i64 n] 3)) i5 90
    rw [← hW0, World.size_alloc, World.size_alloc] at k
    exact k.later x
  have hS : ∀ x : Later W0, IRow segK x.w v1 r.segs := fun x => x1.below (hBl x)
  have hlen := right_segs hr
  obtain ⟨m, hm, hmS, hm1, hm2⟩ : ∃ m : Nat, m < r.segs.length ∧ segAt r.segs n = (m : Int) ∧ (atK segK r.segs m).fr ≤ n ∧ n ≤ (atK segK r.segs m).to := by
    have h0 := (seg_fact hr n).2 ⟨h1, h2⟩
    rcases segAt_cases r.segs n with ⟨h3, _⟩ | ⟨j, hj, h3, h4, h5⟩
    · omega
    · exact ⟨j, hj, h3, h4, h5⟩
  have KS : ∀ y : Later W0, Calls Tryz.prog 126 #[.int .i64 (r.segs.length : Int), .func (.func 127) #[] #[.pointer (some ⟨w.heap.size, 0, none⟩), .pointer (some ⟨w.heap.size + 1, 0, none⟩)]] y.w fun e w' => e = .returned (.int .i64 (m : Int)) ∧ Below y.w.heap.size y.w w' := fun y => by
    refine (search (.pointer (some ⟨w.heap.size, 0, none⟩)) (.pointer (some ⟨w.heap.size + 1, 0, none⟩)) r.segs.length (fun k => decide (n ≤ (atK segK r.segs k).to)) y.w (by omega) (fun x i hi => ?_) (fun a b hab hb hp => right_mono hr n a b hab hb hp)).mono ?_
    · obtain ⟨z, hz⟩ := y.next x.below
      rw [hz]
      exact schHas r.segs v1 n i w.heap.size (w.heap.size + 1) z.w (hS z) hi ((hR z).cell 3 rfl) ((hN z).cell 0 rfl)
    · rintro e w' ⟨k, rfl, hk, hl, hu, hb⟩
      obtain ⟨_, k2, _⟩ := seg_half hr h1 h2 hl hu
      rw [hmS] at k2
      exact ⟨by rw [k2], hb⟩
  rw [hmS, Int.toNat_natCast]
  obtain ⟨a1, c1, rfl, _, _, hc⟩ := x1
  obtain ⟨a2, c2, rfl, _⟩ := x2
  obtain ⟨a3, c3, rfl, _⟩ := x3
  obtain ⟨g, rfl, hg, x⟩ := hc m hm
  have hg2 : ∀ y : Later W0, IAt segK y.w g m (atK segK r.segs m) := fun y => x.below (hBl y) hg
  have e0 : ∀ y : Later W0, y.w.cell? ⟨g, m * 5, none⟩ = some (.int .i64 (atK segK r.segs m).fr) := fun y => ((hg2 y).seg).1
  have e1 : ∀ y : Later W0, y.w.cell? ⟨g, m * 5 + 1, none⟩ = some (.int .i64 (atK segK r.segs m).to) := fun y => ((hg2 y).seg).2.1
  have e2 : ∀ y : Later W0, y.w.cell? ⟨g, m * 5 + 2, none⟩ = some (.int .i64 (atK segK r.segs m).cal) := fun y => ((hg2 y).seg).2.2.1
  have e3 : ∀ y : Later W0, y.w.cell? ⟨g, m * 5 + 3, none⟩ = some (.int .i64 (atK segK r.segs m).sty) := fun y => ((hg2 y).seg).2.2.2.1
  have e4 : ∀ y : Later W0, y.w.cell? ⟨g, m * 5 + 4, none⟩ = some (.int .i64 (atK segK r.segs m).off) := fun y => ((hg2 y).seg).2.2.2.2
  have r3 : ∀ y : Later W0, y.w.cell? ⟨w.heap.size, 3, none⟩ = some (.slice (some ⟨g, 0, none⟩) r.segs.length c1) := fun y => (hR y).cell 3 rfl
  have u0 : ∀ y : Later W0, y.w.cell? ⟨w.heap.size + 2, 0, none⟩ = some (.int .i64 0) := fun y => (hZ y).cell 0 rfl
  have u1 : ∀ y : Later W0, y.w.cell? ⟨w.heap.size + 2, 1, none⟩ = some (.int .i64 0) := fun y => (hZ y).cell 1 rfl
  have u2 : ∀ y : Later W0, y.w.cell? ⟨w.heap.size + 2, 2, none⟩ = some (.int .i64 0) := fun y => (hZ y).cell 2 rfl
  have u3 : ∀ y : Later W0, y.w.cell? ⟨w.heap.size + 2, 3, none⟩ = some (.int .i64 0) := fun y => (hZ y).cell 3 rfl
  have u4 : ∀ y : Later W0, y.w.cell? ⟨w.heap.size + 2, 4, none⟩ = some (.int .i64 0) := fun y => (hZ y).cell 4 rfl
  have f0 : ∀ y : Later W0, y.w.frozen? ⟨w.heap.size + 2, 0, none⟩ = false := fun y => (hZ y).thaw 0
  have f1 : ∀ y : Later W0, y.w.frozen? ⟨w.heap.size + 2, 1, none⟩ = false := fun y => (hZ y).thaw 1
  have f2 : ∀ y : Later W0, y.w.frozen? ⟨w.heap.size + 2, 2, none⟩ = false := fun y => (hZ y).thaw 2
  have f3 : ∀ y : Later W0, y.w.frozen? ⟨w.heap.size + 2, 3, none⟩ = false := fun y => (hZ y).thaw 3
  have f4 : ∀ y : Later W0, y.w.frozen? ⟨w.heap.size + 2, 4, none⟩ = false := fun y => (hZ y).thaw 4
  have hmz : (m : Int) < (r.segs.length : Int) := by omega
  have HW0 := hideP hW0
  have HBl := hideP hBl
  have HZ := hideP hZ
  clear hW0 hBl hZ hR hN hS hc hg2 x hg hm1 hm2 hmS hr h1 h2
  generalize atK segK r.segs m = s at *
  go_enter Tryz.func95, Tryz.ntmps95
  go_wp2_with fail
  rw [← HW0.out]
  obtain ⟨xd, hxd⟩ : ∃ xd : Later W0, W0.drew = xd.w := ⟨⟨W0.drew, (Below.refl _ _).drew⟩, rfl⟩
  refine wp_region_any (by kernel_rfl) ?_
  change wpAny _ _ _ _ (1 + 9) _ _ _
  refine any_prefix (C := fun w' => ∃ x : Later W0, w' = x.w) 9 1 (by decide) (by kernel_rfl) (by kernel_rfl) (by kernel_rfl) (by kernel_rfl) (by kernel_rfl) ⟨xd, hxd⟩ ?_
  simp only [List.take_succ_cons, List.take_zero]
  clear hxd xd
  repeat (go_big_quiet_step (first | (go_at_call 126; exact calls_later (KS _))))
  refine wpQuiet_nil ?_
  intro _ hw'
  obtain ⟨x5, rfl⟩ := hw'
  refine wpAny_ready (rs := [9]) (by kernel_rfl) (by simp) ?_
  refine AllReady.cons rfl (fun K hK => ?_) AllReady.nil
  go_simp
  refine hK _ _ ?_
  clear hK K
  refine wpAny_done (by kernel_rfl) ?_ _
  obtain ⟨W9, e9⟩ : ∃ W9, W9 = ((((x5.w.setCell ⟨w.heap.size + 2, 0, none⟩ (.int .i64 s.fr)).setCell ⟨w.heap.size + 2, 1, none⟩ (.int .i64 s.to)).setCell ⟨w.heap.size + 2, 2, none⟩ (.int .i64 s.cal)).setCell ⟨w.heap.size + 2, 3, none⟩ (.int .i64 s.sty)).setCell ⟨w.heap.size + 2, 4, none⟩ (.int .i64 s.off) := ⟨_, rfl⟩
  have Z9 : Blk W9 (w.heap.size + 2) #[.int .i64 s.fr, .int .i64 s.to, .int .i64 s.cal, .int .i64 s.sty, .int .i64 s.off] 90 := by rw [e9]; exact ((((((HZ.out x5).set 0 _).set 1 _).set 2 _).set 3 _).set 4 _)
  have B9 : Below w.heap.size w W9 := by rw [e9]; exact (Below.setCell (Below.setCell (Below.setCell (Below.setCell (Below.setCell (HBl.out x5) (p := ⟨w.heap.size + 2, 0, none⟩) (show w.heap.size ≤ w.heap.size + 2 by omega) _) (p := ⟨w.heap.size + 2, 1, none⟩) (show w.heap.size ≤ w.heap.size + 2 by omega) _) (p := ⟨w.heap.size + 2, 2, none⟩) (show w.heap.size ≤ w.heap.size + 2 by omega) _) (p := ⟨w.heap.size + 2, 3, none⟩) (show w.heap.size ≤ w.heap.size + 2 by omega) _) (p := ⟨w.heap.size + 2, 4, none⟩) (show w.heap.size ≤ w.heap.size + 2 by omega) _)
  rw [← e9]
  clear e9
  have q0 : W9.cell? ⟨w.heap.size + 2, 0, none⟩ = some (.int .i64 s.fr) := Z9.cell 0 rfl
  have q1 : W9.cell? ⟨w.heap.size + 2, 1, none⟩ = some (.int .i64 s.to) := Z9.cell 1 rfl
  have q2 : W9.cell? ⟨w.heap.size + 2, 2, none⟩ = some (.int .i64 s.cal) := Z9.cell 2 rfl
  have q3 : W9.cell? ⟨w.heap.size + 2, 3, none⟩ = some (.int .i64 s.sty) := Z9.cell 3 rfl
  have q4 : W9.cell? ⟨w.heap.size + 2, 4, none⟩ = some (.int .i64 s.off) := Z9.cell 4 rfl
  go_wp2_with fail
  exact bodyPost_ret (by simp [results, Tryz.results95, go_sem, q0, q1, q2, q3, q4]; try rfl) rfl ⟨rfl, B9⟩
end Go.Proofs.YtdgolaaheakfoaaGreatDoor.ctr
namespace Go.Proofs.YtdgolaaheakfoaaGreatDoor.ctr
open Go.RowKit
theorem implYearOk (c y : Int) (w : World) (hT : Tab w) : Calls Tryz.prog 250 #[.int .i64 c, .int .i64 y] w fun e w' => e = .returned (.bool (yearB c y)) ∧ Below w.heap.size w w' := by
  have K : Calls Tryz.prog 109 #[.agg #[.int .i64 c, .int .i64 y, .int .i64 1, .int .i64 1]] w fun e w' => e = .returned (.bool (yearB c y)) ∧ Below w.heap.size w w' := by
    rw [← dateOk_year]
    exact implDateOk c y 1 1 w hT
  clear hT
  generalize yearB c y = b at *
  go_enter Tryz.func250, Tryz.ntmps250
  go_wp2_with fail
  refine K.mono ?_
  rintro e w1 ⟨rfl, hb⟩
  go_wp2
  go_ret
  exact ⟨rfl, hb⟩
theorem julSum (y : Int) (w : World) (h1 : 1 ≤ y) (h2 : y ≤ 4000) : Calls Tryz.prog 225 #[.agg #[], .int .i64 y] w fun e w' => e = .returned (.int .i64 (sumJ y)) ∧ Below w.heap.size w w' := by
  obtain ⟨R, hR⟩ : ∃ R, R = sumJ y := ⟨_, rfl⟩
  rw [← hR]
  have HR := hideP hR
  clear hR
  unfold sumJ at HR
  go_enter Tryz.func225, Tryz.ntmps225
  go_wp2
  go_ret
  exact ⟨ret_int (by rw [HR.out]; unfold dJ; omega), (Below.refl _ _).alloc (Nat.le_refl _) _⟩
theorem greSum (y : Int) (w : World) (h1 : 1 ≤ y) (h2 : y ≤ 4000) : Calls Tryz.prog 227 #[.agg #[], .int .i64 y] w fun e w' => e = .returned (.int .i64 (sumG y)) ∧ Below w.heap.size w w' := by
  obtain ⟨R, hR⟩ : ∃ R, R = sumG y := ⟨_, rfl⟩
  rw [← hR]
  have HR := hideP hR
  clear hR
  go_enter Tryz.func227, Tryz.ntmps227
  go_wp2
  go_ret
  exact ⟨ret_int (by rw [HR.out]; unfold sumG mG lG hG gG; rw [show y % 100 % 4 = y % 4 by omega]), (Below.refl _ _).alloc (Nat.le_refl _) _⟩
end Go.Proofs.YtdgolaaheakfoaaGreatDoor.ctr
