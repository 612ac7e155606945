/- The closure of the program's DaysOf: whether a day has another reading. -/
import Derived.Test.YtilpencbbdpgfaaGreatDoorJnQbp
import Derived.Test.YtilpencbbdpgfaaGreatDoorJnQay
import Derived.Test.YtilpencbbdpgfaaGreatDoorJnQbb
import Derived.Deep.DeepCutAuto
namespace Go.Proofs.YtilpencbbdpgfaaGreatDoor.ctr
open Go.RowKit
set_option maxHeartbeats 8000000 in
theorem cloDof (p1 p2 : Nat) (v1 v2 v3 : Value) (r : Rgm) (xc xy xs xm xd : Int) (n : Int) (w : World)
    (h : GRow w (.agg #[.string r.name, .int .i64 r.fr, .int .i64 r.to, v1, v2, v3, .int .i64 r.rule]) r) (hr : regimeB r = true) (h1 : r.fr ≤ n) (h2 : n ≤ r.to) (hT : Tab w) (hP : Blk w p1 #[.string r.name, .int .i64 r.fr, .int .i64 r.to, v1, v2, v3, .int .i64 r.rule] 36) (hQ : Blk w p2 #[.int .i64 xc, .int .i64 xy, .int .i64 xs, .int .i64 xm, .int .i64 xd] 29) :
    Calls Tryz.prog 73 #[.int .i64 n, .pointer (some ⟨p1, 0, none⟩), .pointer (some ⟨p2, 0, none⟩)] w fun e w' => e = .returned (.bool (!rdgIs r ⟨xc, xy, xs, xm, xd⟩ n)) ∧ Below w.heap.size w w' := by
  have K1 : ∀ x : Later w, Calls Tryz.prog 62 #[.agg #[.string r.name, .int .i64 r.fr, .int .i64 r.to, v1, v2, v3, .int .i64 r.rule], .int .i64 n] x.w fun e w' => e = .returned (rdgV (rdgOn r n)) ∧ Below x.w.heap.size x.w w' := fun x => implReadingOn _ r n x.w (h.below x.below) hr h1 h2 (hT.later x.below)
  obtain ⟨r0, r1, r2, r3, r4, r5, r6⟩ := sevenL (fun x => hP.later x)
  obtain ⟨s0, s1, s2, s3, s4⟩ := fiveL (fun x => hQ.later x)
  have HI : Hid (rdgIs r ⟨xc, xy, xs, xm, xd⟩ n = decide (rdgOn r n = ⟨xc, xy, xs, xm, xd⟩)) := rfl
  clear h hr h1 h2 hT hP hQ
  generalize rdgIs r ⟨xc, xy, xs, xm, xd⟩ n = ans at *
  generalize rdgOn r n = x at *
  obtain ⟨zc, zy, zs, zm, zd⟩ := x
  have q0 := r0 ⟨w, Below.refl _ _⟩
  have q1 := r1 ⟨w, Below.refl _ _⟩
  have q2 := r2 ⟨w, Below.refl _ _⟩
  have q3 := r3 ⟨w, Below.refl _ _⟩
  have q4 := r4 ⟨w, Below.refl _ _⟩
  have q5 := r5 ⟨w, Below.refl _ _⟩
  have q6 := r6 ⟨w, Below.refl _ _⟩
  have t0 := s0 ⟨w, Below.refl _ _⟩
  have t1 := s1 ⟨w, Below.refl _ _⟩
  have t2 := s2 ⟨w, Below.refl _ _⟩
  have t3 := s3 ⟨w, Below.refl _ _⟩
  have t4 := s4 ⟨w, Below.refl _ _⟩
  dsimp only at q0 q1 q2 q3 q4 q5 q6 t0 t1 t2 t3 t4
  have HD : Hid (Below w.heap.size w w.drew) := (Below.refl _ _).drew
  by_cases ec : zc = xc
  case neg =>
    have HA : ans = false := by rw [HI.out]; exact decide_eq_false (fun q => ec (by injection q))
    rw [HA]
    have gc : (zc == xc) = false := beq_eq_false_iff_ne.2 ec
    have gc' : (zc != xc) = true := by simpa using ec
    clear HI HA ec
    go_enter Tryz.func73, Tryz.ntmps73
    go_wp2_with fail
    go_region_with (go_at_call 62; refine (K1 ⟨_, HD.out⟩).mono ?_; rintro e w1 ⟨rfl, hb⟩; obtain ⟨x1, rfl⟩ : ∃ x1 : Later w, w1 = x1.w := ⟨⟨w1, HD.out.trans (hb.mono HD.out.size)⟩, rfl⟩; clear hb)
    all_goals go_wp2
    all_goals go_ret
    all_goals exact ⟨rfl, x1.below⟩
  subst ec
  by_cases ey : zy = xy
  case neg =>
    have HA : ans = false := by rw [HI.out]; exact decide_eq_false (fun q => ey (by injection q))
    rw [HA]
    have gy : (zy == xy) = false := beq_eq_false_iff_ne.2 ey
    have gy' : (zy != xy) = true := by simpa using ey
    clear HI HA ey
    go_enter Tryz.func73, Tryz.ntmps73
    go_wp2_with fail
    go_region_with (go_at_call 62; refine (K1 ⟨_, HD.out⟩).mono ?_; rintro e w1 ⟨rfl, hb⟩; obtain ⟨x1, rfl⟩ : ∃ x1 : Later w, w1 = x1.w := ⟨⟨w1, HD.out.trans (hb.mono HD.out.size)⟩, rfl⟩; clear hb)
    all_goals go_wp2
    all_goals go_ret
    all_goals exact ⟨rfl, x1.below⟩
  subst ey
  by_cases es : zs = xs
  case neg =>
    have HA : ans = false := by rw [HI.out]; exact decide_eq_false (fun q => es (by injection q))
    rw [HA]
    have gs : (zs == xs) = false := beq_eq_false_iff_ne.2 es
    have gs' : (zs != xs) = true := by simpa using es
    clear HI HA es
    go_enter Tryz.func73, Tryz.ntmps73
    go_wp2_with fail
    go_region_with (go_at_call 62; refine (K1 ⟨_, HD.out⟩).mono ?_; rintro e w1 ⟨rfl, hb⟩; obtain ⟨x1, rfl⟩ : ∃ x1 : Later w, w1 = x1.w := ⟨⟨w1, HD.out.trans (hb.mono HD.out.size)⟩, rfl⟩; clear hb)
    all_goals go_wp2
    all_goals go_ret
    all_goals exact ⟨rfl, x1.below⟩
  subst es
  by_cases em : zm = xm
  case neg =>
    have HA : ans = false := by rw [HI.out]; exact decide_eq_false (fun q => em (by injection q))
    rw [HA]
    have gm : (zm == xm) = false := beq_eq_false_iff_ne.2 em
    have gm' : (zm != xm) = true := by simpa using em
    clear HI HA em
    go_enter Tryz.func73, Tryz.ntmps73
    go_wp2_with fail
    go_region_with (go_at_call 62; refine (K1 ⟨_, HD.out⟩).mono ?_; rintro e w1 ⟨rfl, hb⟩; obtain ⟨x1, rfl⟩ : ∃ x1 : Later w, w1 = x1.w := ⟨⟨w1, HD.out.trans (hb.mono HD.out.size)⟩, rfl⟩; clear hb)
    all_goals go_wp2
    all_goals go_ret
    all_goals exact ⟨rfl, x1.below⟩
  subst em
  by_cases ed : zd = xd
  case neg =>
    have HA : ans = false := by rw [HI.out]; exact decide_eq_false (fun q => ed (by injection q))
    rw [HA]
    have gd : (zd == xd) = false := beq_eq_false_iff_ne.2 ed
    have gd' : (zd != xd) = true := by simpa using ed
    clear HI HA ed
    go_enter Tryz.func73, Tryz.ntmps73
    go_wp2_with fail
    go_region_with (go_at_call 62; refine (K1 ⟨_, HD.out⟩).mono ?_; rintro e w1 ⟨rfl, hb⟩; obtain ⟨x1, rfl⟩ : ∃ x1 : Later w, w1 = x1.w := ⟨⟨w1, HD.out.trans (hb.mono HD.out.size)⟩, rfl⟩; clear hb)
    all_goals go_wp2
    all_goals go_ret
    all_goals exact ⟨rfl, x1.below⟩
  subst ed
  have HA : ans = true := by rw [HI.out]; exact decide_eq_true rfl
  rw [HA]
  clear HI HA
  go_enter Tryz.func73, Tryz.ntmps73
  go_wp2_with fail
  go_region_with (go_at_call 62; refine (K1 ⟨_, HD.out⟩).mono ?_; rintro e w1 ⟨rfl, hb⟩; obtain ⟨x1, rfl⟩ : ∃ x1 : Later w, w1 = x1.w := ⟨⟨w1, HD.out.trans (hb.mono HD.out.size)⟩, rfl⟩; clear hb)
  all_goals go_wp2
  all_goals go_ret
  all_goals exact ⟨rfl, x1.below⟩
end Go.Proofs.YtilpencbbdpgfaaGreatDoor.ctr
