/- Contract of the model's l12When: what words tell. -/
import Derived.Test.YtpclaceefapppaaGreatDoorJnZad
import Derived.Test.YtpclaceefapppaaGreatDoorJnZbl
import Derived.Test.YtpclaceefapppaaGreatDoorJnZai
import Derived.Test.YtpclaceefapppaaGreatDoorJnZba
import Derived.Test.YtpclaceefapppaaGreatDoorRomReadSZ
import Derived.Test.YtpclaceefapppaaGreatDoorJnZaf
import Derived.Deep.DeepCutAuto
set_option maxRecDepth 100000
set_option maxHeartbeats 8000000
namespace Go.Proofs.YtpclaceefapppaaGreatDoor.ctr
open Go.RowKit
def Lays (w : World) (g : Nat) (xs : List ByteArray) : Prop := ∀ i, i < xs.length → w.cell? ⟨g, i, none⟩ = some (.string (xs.getD i ⟨#[]⟩))
theorem Lays.below {B g : Nat} {w w' : World} {xs : List ByteArray} (h : Lays w g xs) (hb : Below B w w') (hg : g < B) : Lays w' g xs := fun i hi => by rw [hb.cell hg]; exact h i hi
theorem glue_one (xs : List ByteArray) (k : Nat) (h : 0 < k) : glue xs (k + 1) = glue xs k ++ ⟨#[32]⟩ ++ xs.getD k ⟨#[]⟩ := by
 obtain ⟨n, rfl⟩ : ∃ n, k = n + 1 := ⟨k - 1, by omega⟩
 rfl
theorem glue_zero (xs : List ByteArray) : glue xs 1 = (⟨#[]⟩ : ByteArray) ++ xs.getD 0 ⟨#[]⟩ := by
 show xs.getD 0 _ = _
 apply WideShapes.bytes_inj
 rw [ByteArray.data_append, Array.toList_append]
 rfl
theorem glue_mono (xs : List ByteArray) : ∀ k d, (glue xs k).size ≤ (glue xs (k + d)).size
  | _, 0 => Nat.le_refl _
  | k, d + 1 => by
   refine Nat.le_trans (glue_mono xs k d) ?_
   by_cases h : 0 < k + d
   · rw [← Nat.add_assoc, glue_one xs (k + d) h, ByteArray.size_append, ByteArray.size_append]
     omega
   · obtain ⟨rfl, rfl⟩ : k = 0 ∧ d = 0 := by omega
     exact Nat.zero_le _
theorem specWhen (xs : List ByteArray) (g cap : Nat) (w : World) (hg : g < w.heap.size) (hx : Lays w g xs) (hz : (glue xs xs.length).size ≤ 1048576) (hc : xs.length ≤ 1048576) (hzz : ∀ i, (xs.getD i ⟨#[]⟩).size ≤ 1048576) : CR 55 #[.slice (some ⟨g, 0, none⟩) xs.length cap] w (whnV (whenS (glue xs xs.length) xs)) := by
 obtain ⟨W0, hW0, hC, hBl⟩ := box_any w #[.int .i64 0, .int .i64 0, .int .i64 0, .int .i64 0, .int .i64 0, .int .i64 0, .bool false, .string ⟨#[]⟩, .int .i64 0] 56
 have hx0 : ∀ x : Later W0, Lays x.w g xs := fun x => hx.below (hBl x) hg
 have KR : ∀ x : Later W0, CR 100 #[.string (glue xs xs.length)] x.w (readV (readRoman (glue xs xs.length))) := fun x => specReadRoman _ x.w hz
 have KF : ∀ x : Later W0, CR 101 #[.string (glue xs xs.length)] x.w (.tuple #[.int .i64 (readFeast (glue xs xs.length)).1, .int .i64 (readFeast (glue xs xs.length)).2]) := fun x => specReadF _ x.w hz
 have KD : ∀ x : Later W0, CR 54 #[.string (xs.getD 0 ⟨#[]⟩)] x.w (.int .i64 (readDec (xs.getD 0 ⟨#[]⟩))) := fun x => (specReadDec _ x.w (by unfold maxLen; have := hzz 0; omega)).mono fun _ _ h => ⟨h.1, by rw [h.2]; exact Below.refl _ _⟩
 have KM : ∀ x : Later W0, CR 103 #[.string (xs.getD 1 ⟨#[]⟩)] x.w (.int .i64 (monOf (xs.getD 1 ⟨#[]⟩))) := fun x => (specMonthOf _ x.w).mono fun _ _ h => ⟨h.1, by first | exact h.2 | (rw [h.2]; exact Below.refl _ _)⟩
 have hfb : -1 ≤ (readFeast (glue xs xs.length)).1 ∧ (readFeast (glue xs xs.length)).1 < 20 := ⟨(readParts_b _).1, (readParts_b _).2.1⟩
 have HG1 : Hid (∀ k, 0 < k → glue xs (k + 1) = glue xs k ++ ⟨#[32]⟩ ++ xs.getD k ⟨#[]⟩) := fun k h => glue_one xs k h
 have HG0 : Hid (glue xs 1 = (⟨#[]⟩ : ByteArray) ++ xs.getD 0 ⟨#[]⟩) := glue_zero xs
 have HGS : Hid (∀ k, k ≤ xs.length → (glue xs k).size ≤ 1048576) := fun k hk => Nat.le_trans (by have := glue_mono xs k (xs.length - k); rwa [show k + (xs.length - k) = xs.length by omega] at this) hz
 obtain ⟨f0, f1, f2, f3, f4, f5, f6, f7, f8⟩ := thaws9 hC
 obtain ⟨u0, u1, u2, u3, u4, u5, u6, u7, u8⟩ := cells9 hC
 have HW0 := hideP hW0
 have HC := hideP hC
 have HBl := hideP hBl
 have HX := hideP hx0
 have HE : Hid (whenS (glue xs xs.length) xs = if (readRoman (glue xs xs.length)).2 = true then ⟨1, 0, 0, (readRoman (glue xs xs.length)).1, ⟨#[]⟩, 0⟩ else if 0 ≤ (readFeast (glue xs xs.length)).1 then ⟨2, 0, 0, rom0, (feaAt (readFeast (glue xs xs.length)).1.toNat).name, (readFeast (glue xs xs.length)).2⟩ else if xs.length ≠ 2 then ⟨-1, 0, 0, rom0, ⟨#[]⟩, 0⟩ else ⟨0, monOf (xs.getD 1 ⟨#[]⟩), readDec (xs.getD 0 ⟨#[]⟩), rom0, ⟨#[]⟩, 0⟩) := rfl
 generalize whenS (glue xs xs.length) xs = ans at *
 generalize readRoman (glue xs xs.length) = q at *
 obtain ⟨⟨a, b, c, t⟩, ok⟩ := q
 generalize readFeast (glue xs xs.length) = r at *
 obtain ⟨at0, pl⟩ := r
 have KR' : ∀ x : Later W0, CR 100 #[.string (glue xs xs.length)] x.w (.tuple #[.agg #[.int .i64 a, .int .i64 b, .int .i64 c, .bool t], .bool ok]) := KR
 simp only at KF hfb HE
 clear hW0 hC hBl hx hx0 KR hzz hz
 go_enter Tryz.func55, Tryz.ntmps55
 go_wp2_with fail
 rw [← HW0.out]
 go_loopw [3, 4] (fun tx i wr => ∃ k : Nat, k ≤ xs.length ∧ i = .int .i64 k ∧ tx = .string (glue xs k) ∧ wr = W0) (fun _ i _ => xs.length - (intOf i).toNat)
 case atStart => exact ⟨0, Nat.zero_le _, rfl, rfl, rfl⟩
 case round =>
  obtain ⟨k, hk, rfl, rfl, rfl⟩ := hrel
  by_cases hlt : k < xs.length
  · obtain ⟨xk, hxk⟩ : ∃ xk, xk = xs.getD k ⟨#[]⟩ := ⟨_, rfl⟩
    have ck : wr.cell? ⟨g, k, none⟩ = some (.string xk) := by rw [hxk]; exact HX.out ⟨wr, Below.refl _ _⟩ k hlt
    have s3 : (glue xs (k + 1)).size ≤ 1048576 := HGS.out (k + 1) hlt
    have s0 : (glue xs k).size ≤ 1048576 := HGS.out k hk
    have hi : ((k : Nat) : Int) < (xs.length : Int) := by omega
    by_cases h0 : k = 0
    · subst h0
      have HR : Hid (glue xs 1 = (⟨#[]⟩ : ByteArray) ++ xk) := by unfold Hid; rw [hxk]; exact HG0.out
      have s4 : ((⟨#[]⟩ : ByteArray) ++ xk).size ≤ 1048576 := by rw [← HR.out]; exact s3
      have s5 : xk.size ≤ 1048576 := by rw [ByteArray.size_append] at s4; omega
      have HN := hideP hxk
      clear hxk
      have eg : glue xs 0 = ⟨#[]⟩ := rfl
      rw [eg]
      clear eg s0 s3
      go_wp2_with fail
      exact ⟨⟨1, by omega, by go_num, by rw [HR.out], by first | trivial | rfl⟩, by simp [intOf]; omega⟩
    · have HR : Hid (glue xs (k + 1) = glue xs k ++ ⟨#[32]⟩ ++ xk) := by unfold Hid; rw [hxk]; exact HG1.out k (by omega)
      have s4 : (glue xs k ++ (⟨#[32]⟩ : ByteArray) ++ xk).size ≤ 1048576 := by rw [← HR.out]; exact s3
      have s5 : (glue xs k ++ (⟨#[32]⟩ : ByteArray)).size ≤ 1048576 := by rw [ByteArray.size_append] at s4; omega
      have s6 : xk.size ≤ 1048576 := by rw [ByteArray.size_append] at s4; omega
      have h0' : (0 : Int) < (k : Int) := by omega
      have HN := hideP hxk
      clear hxk s3
      go_wp2_with fail
      exact ⟨⟨k + 1, by omega, by go_num, by rw [HR.out], by first | trivial | rfl⟩, by simp [intOf]; omega⟩
  obtain rfl : k = xs.length := by omega
  obtain ⟨n0, hn0⟩ : ∃ n0, n0 = xs.getD 0 ⟨#[]⟩ := ⟨_, rfl⟩
  obtain ⟨n1, hn1⟩ : ∃ n1, n1 = xs.getD 1 ⟨#[]⟩ := ⟨_, rfl⟩
  rw [← hn0] at KD HE
  rw [← hn1] at KM HE
  have HN0 := hideP hn0
  have HN1 := hideP hn1
  generalize glue xs xs.length = tx at *
  generalize monOf n1 = mo at *
  generalize readDec n0 = dy at *
  clear HG1 HG0 HGS hn0 hn1 hlt hk
  cases ok
  · by_cases hat : 0 ≤ at0
    · obtain rfl : ans = ⟨2, 0, 0, rom0, (feaAt at0.toNat).name, pl⟩ := HE.out.trans (by rw [if_neg (by decide), if_pos hat])
      obtain ⟨k, rfl⟩ := Int.eq_ofNat_of_zero_le hat
      have hk20 : k < 20 := by omega
      clear HE hfb hat KD KM
      go_wp2_with fail
      refine (KR' ⟨wr, Below.refl _ _⟩).mono ?_
      rintro e w1 ⟨rfl, hb⟩
      obtain ⟨x1, rfl⟩ := Later.of hb
      obtain ⟨x2, hx2⟩ : ∃ x2 : Later wr, x1.w.alloc (.cells #[.int .i64 a, .int .i64 b, .int .i64 c, .bool t] 54) = x2.w := ⟨⟨_, x1.below.alloc x1.below.size _⟩, rfl⟩
      have HX2 := hideP hx2
      clear hb
      clear hx2
      go_wp2_with fail
      rw [HX2.out]
      refine lat (KF x2) fun x3 => ?_
      go_wp2_with fail
      refine (specFeasts _).mono ?_
      rintro e w4 ⟨v, rfl, ho, hb⟩
      obtain ⟨x4, rfl⟩ := x3.next hb
      obtain ⟨g2, cap2, rfl, hg2, hcell⟩ := ho.row
      have e0 : x4.w.cell? ⟨g2, k * 5, none⟩ = some (.string (feaAt k).name) := by rw [show k * 5 = k * 5 + 0 from rfl, hcell k hk20 0 (by omega)]; rfl
      clear hb ho hcell
      go_wp2
      exact ret9 (HC.out x4) (HBl.out x4) (by omega) rfl (fun _ q0 q1 q2 q3 q4 q5 q6 q7 q8 B9 => ⟨by simp [results, Tryz.results55, go_sem, q0, q1, q2, q3, q4, q5, q6, q7, q8]; first | done | rfl | exact ⟨rfl, rfl⟩, rfl, B9⟩)
    obtain rfl : at0 = -1 := by omega
    by_cases h2 : xs.length = 2
    focus
      obtain rfl : ans = ⟨0, mo, dy, rom0, ⟨#[]⟩, 0⟩ := HE.out.trans (by rw [if_neg (by decide), if_neg (by decide), if_neg (by omega)])
      have h2' : ((xs.length : Int) == 2) = true := by rw [h2]; rfl
      have hi0 : (0 : Int) < (xs.length : Int) := by omega
      have hi1 : (1 : Int) < (xs.length : Int) := by omega
      have y0 : ∀ x : Later wr, x.w.cell? ⟨g, 0, none⟩ = some (.string n0) := fun x => by rw [HN0.out]; exact HX.out x 0 (by omega)
      have y1 : ∀ x : Later wr, x.w.cell? ⟨g, 1, none⟩ = some (.string n1) := fun x => by rw [HN1.out]; exact HX.out x 1 (by omega)
      clear HE hfb hat
      go_wp2_with fail
      refine (KR' ⟨wr, Below.refl _ _⟩).mono ?_
      rintro e w1 ⟨rfl, hb⟩
      obtain ⟨x1, rfl⟩ := Later.of hb
      obtain ⟨x2, hx2⟩ : ∃ x2 : Later wr, x1.w.alloc (.cells #[.int .i64 a, .int .i64 b, .int .i64 c, .bool t] 54) = x2.w := ⟨⟨_, x1.below.alloc x1.below.size _⟩, rfl⟩
      have HX2 := hideP hx2
      clear hb
      clear hx2
      go_wp2_with fail
      rw [HX2.out]
      refine lat (KF x2) fun x3 => ?_
      go_upto_region 16 with fail
      obtain ⟨xd, hxd⟩ : ∃ xd : Later wr, x3.w.drew = xd.w := ⟨⟨x3.w.drew, (x3.below).drew⟩, rfl⟩
      refine wp_region_any (by kernel_rfl) ?_
      change wpAny _ _ _ _ (1 + 9) _ _ _
      refine any_prefix (C := fun w' => ∃ x : Later wr, w' = x.w) 9 1 (by decide) (by kernel_rfl) (by kernel_rfl) (by kernel_rfl) (by kernel_rfl) (by kernel_rfl) ⟨xd, hxd⟩ ?_
      simp only [List.take_succ_cons, List.take_zero]
      clear hxd xd
      repeat (go_big_quiet_step (first | (go_at_call 103; exact calls_later (KM _)) | (go_at_call 54; exact calls_later (KD _)) | fail))
      refine quietE fun x5 => ?_
      refine wpAny_ready (rs := [9]) (by kernel_rfl) (by simp) ?_
      refine AllReady.cons rfl (fun K hK => ?_) AllReady.nil
      go_simp
      refine hK _ _ ?_
      clear hK K
      refine wpAny_done (by kernel_rfl) ?_ _
      go_wp2
      obtain ⟨W9, e9⟩ : ∃ W9, W9 = (((((((((x5.w.setCell ⟨w.heap.size, 0, none⟩ (.int .i64 0)).setCell ⟨w.heap.size, 1, none⟩ (.int .i64 mo)).setCell ⟨w.heap.size, 2, none⟩ (.int .i64 dy)).setCell ⟨w.heap.size, 3, none⟩ (.int .i64 0)).setCell ⟨w.heap.size, 4, none⟩ (.int .i64 0)).setCell ⟨w.heap.size, 5, none⟩ (.int .i64 0)).setCell ⟨w.heap.size, 6, none⟩ (.bool false)).setCell ⟨w.heap.size, 7, none⟩ (.string ⟨#[]⟩)).setCell ⟨w.heap.size, 8, none⟩ (.int .i64 0)) := ⟨_, rfl⟩
      have Z9 : Blk W9 (w.heap.size) #[.int .i64 0, .int .i64 mo, .int .i64 dy, .int .i64 0, .int .i64 0, .int .i64 0, .bool false, .string ⟨#[]⟩, .int .i64 0] 56 := by rw [e9]; exact ((((((((((HC.out x5).set 0 _).set 1 _).set 2 _).set 3 _).set 4 _).set 5 _).set 6 _).set 7 _).set 8 _)
      have B9 : Below w.heap.size w W9 := by rw [e9]; exact (below_store (below_store (below_store (below_store (below_store (below_store (below_store (below_store (below_store (HBl.out x5) (b := w.heap.size) (i := 0) _ (by omega)) (b := w.heap.size) (i := 1) _ (by omega)) (b := w.heap.size) (i := 2) _ (by omega)) (b := w.heap.size) (i := 3) _ (by omega)) (b := w.heap.size) (i := 4) _ (by omega)) (b := w.heap.size) (i := 5) _ (by omega)) (b := w.heap.size) (i := 6) _ (by omega)) (b := w.heap.size) (i := 7) _ (by omega)) (b := w.heap.size) (i := 8) _ (by omega))
      rw [← e9]
      clear e9
      have q0 : W9.cell? ⟨w.heap.size, 0, none⟩ = some (.int .i64 0) := Z9.cell 0 rfl
      have q1 : W9.cell? ⟨w.heap.size, 1, none⟩ = some (.int .i64 mo) := Z9.cell 1 rfl
      have q2 : W9.cell? ⟨w.heap.size, 2, none⟩ = some (.int .i64 dy) := Z9.cell 2 rfl
    rotate_left
    focus
      obtain rfl : ans = ⟨-1, 0, 0, rom0, ⟨#[]⟩, 0⟩ := HE.out.trans (by rw [if_neg (by decide), if_neg (by decide), if_pos h2])
      have h2' : ((xs.length : Int) == 2) = false := by simp; omega
      clear HE hfb hat KD KM
      go_wp2_with fail
      refine (KR' ⟨wr, Below.refl _ _⟩).mono ?_
      rintro e w1 ⟨rfl, hb⟩
      obtain ⟨x1, rfl⟩ := Later.of hb
      obtain ⟨x2, hx2⟩ : ∃ x2 : Later wr, x1.w.alloc (.cells #[.int .i64 a, .int .i64 b, .int .i64 c, .bool t] 54) = x2.w := ⟨⟨_, x1.below.alloc x1.below.size _⟩, rfl⟩
      have HX2 := hideP hx2
      clear hb
      clear hx2
      go_wp2_with fail
      rw [HX2.out]
      refine lat (KF x2) fun x3 => ?_
      go_wp2
      obtain ⟨W9, e9⟩ : ∃ W9, W9 = (((((((((x3.w.setCell ⟨w.heap.size, 0, none⟩ (.int .i64 (-1))).setCell ⟨w.heap.size, 1, none⟩ (.int .i64 0)).setCell ⟨w.heap.size, 2, none⟩ (.int .i64 0)).setCell ⟨w.heap.size, 3, none⟩ (.int .i64 0)).setCell ⟨w.heap.size, 4, none⟩ (.int .i64 0)).setCell ⟨w.heap.size, 5, none⟩ (.int .i64 0)).setCell ⟨w.heap.size, 6, none⟩ (.bool false)).setCell ⟨w.heap.size, 7, none⟩ (.string ⟨#[]⟩)).setCell ⟨w.heap.size, 8, none⟩ (.int .i64 0)) := ⟨_, rfl⟩
      have Z9 : Blk W9 (w.heap.size) #[.int .i64 (-1), .int .i64 0, .int .i64 0, .int .i64 0, .int .i64 0, .int .i64 0, .bool false, .string ⟨#[]⟩, .int .i64 0] 56 := by rw [e9]; exact ((((((((((HC.out x3).set 0 _).set 1 _).set 2 _).set 3 _).set 4 _).set 5 _).set 6 _).set 7 _).set 8 _)
      have B9 : Below w.heap.size w W9 := by rw [e9]; exact (below_store (below_store (below_store (below_store (below_store (below_store (below_store (below_store (below_store (HBl.out x3) (b := w.heap.size) (i := 0) _ (by omega)) (b := w.heap.size) (i := 1) _ (by omega)) (b := w.heap.size) (i := 2) _ (by omega)) (b := w.heap.size) (i := 3) _ (by omega)) (b := w.heap.size) (i := 4) _ (by omega)) (b := w.heap.size) (i := 5) _ (by omega)) (b := w.heap.size) (i := 6) _ (by omega)) (b := w.heap.size) (i := 7) _ (by omega)) (b := w.heap.size) (i := 8) _ (by omega))
      rw [← e9]
      clear e9
      have q0 : W9.cell? ⟨w.heap.size, 0, none⟩ = some (.int .i64 (-1)) := Z9.cell 0 rfl
      have q1 : W9.cell? ⟨w.heap.size, 1, none⟩ = some (.int .i64 0) := Z9.cell 1 rfl
      have q2 : W9.cell? ⟨w.heap.size, 2, none⟩ = some (.int .i64 0) := Z9.cell 2 rfl
    rotate_left
    all_goals
     have q3 : W9.cell? ⟨w.heap.size, 3, none⟩ = some (.int .i64 0) := Z9.cell 3 rfl
     have q4 : W9.cell? ⟨w.heap.size, 4, none⟩ = some (.int .i64 0) := Z9.cell 4 rfl
     have q5 : W9.cell? ⟨w.heap.size, 5, none⟩ = some (.int .i64 0) := Z9.cell 5 rfl
     have q6 : W9.cell? ⟨w.heap.size, 6, none⟩ = some (.bool false) := Z9.cell 6 rfl
     have q7 : W9.cell? ⟨w.heap.size, 7, none⟩ = some (.string ⟨#[]⟩) := Z9.cell 7 rfl
     have q8 : W9.cell? ⟨w.heap.size, 8, none⟩ = some (.int .i64 0) := Z9.cell 8 rfl
     exact bodyPost_ret (by simp [results, Tryz.results55, go_sem, q0, q1, q2, q3, q4, q5, q6, q7, q8]; first | done | rfl | exact ⟨rfl, rfl⟩) rfl ⟨rfl, B9⟩
  · obtain rfl : ans = ⟨1, 0, 0, ⟨a, b, c, t⟩, ⟨#[]⟩, 0⟩ := HE.out.trans (by rw [if_pos rfl])
    clear HE hfb KF KD KM
    go_wp2_with fail
    refine (KR' ⟨wr, Below.refl _ _⟩).mono ?_
    rintro e w1 ⟨rfl, hb⟩
    obtain ⟨x1, rfl⟩ := Later.of hb
    obtain ⟨x2, hx2⟩ : ∃ x2 : Later wr, x1.w.alloc (.cells #[.int .i64 a, .int .i64 b, .int .i64 c, .bool t] 54) = x2.w := ⟨⟨_, x1.below.alloc x1.below.size _⟩, rfl⟩
    have HX2 := hideP hx2
    clear hb
    have r0 : x2.w.cell? ⟨x1.w.heap.size, 0, none⟩ = some (.int .i64 a) := by rw [← hx2]; exact (Blk.new _ _ _).cell 0 rfl
    have r1 : x2.w.cell? ⟨x1.w.heap.size, 1, none⟩ = some (.int .i64 b) := by rw [← hx2]; exact (Blk.new _ _ _).cell 1 rfl
    have r2 : x2.w.cell? ⟨x1.w.heap.size, 2, none⟩ = some (.int .i64 c) := by rw [← hx2]; exact (Blk.new _ _ _).cell 2 rfl
    have r3 : x2.w.cell? ⟨x1.w.heap.size, 3, none⟩ = some (.bool t) := by rw [← hx2]; exact (Blk.new _ _ _).cell 3 rfl
    clear hx2
    go_upto_region 10 with fail
    rw [HX2.out]
    go_wp2
    exact ret9 (HC.out x2) (HBl.out x2) (by omega) rfl (fun _ q0 q1 q2 q3 q4 q5 q6 q7 q8 B9 => ⟨by simp [results, Tryz.results55, go_sem, q0, q1, q2, q3, q4, q5, q6, q7, q8]; first | done | rfl | exact ⟨rfl, rfl⟩, rfl, B9⟩)
end Go.Proofs.YtpclaceefapppaaGreatDoor.ctr
