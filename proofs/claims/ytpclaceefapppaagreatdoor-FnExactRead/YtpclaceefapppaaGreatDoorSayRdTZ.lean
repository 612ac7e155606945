/- Contract of the model's ReadSaying: at every text of at most 1048576 bytes the saying that is told, or none. -/
import Derived.Test.YtpclaceefapppaaGreatDoorJnZad
import Derived.Test.YtpclaceefapppaaGreatDoorSayRdSZ
import Derived.Test.YtpclaceefapppaaGreatDoorJnZbn
set_option maxRecDepth 100000
set_option maxHeartbeats 16000000
namespace Go.Proofs.YtpclaceefapppaaGreatDoor.ctr
open Go.RowKit
structure RSt (w : World) (g rb : Nat) (xs : List ByteArray) (cs : Array Value) (W : World) : Prop where
 below : Below w.heap.size w W
 res : Blk W w.heap.size #[.int .i64 0, .int .i64 0, .int .i64 0, .int .i64 0, .int .i64 0, .int .i64 0, .bool false, .string ⟨#[]⟩, .int .i64 0, .int .i64 0, .int .i64 0, .int .i64 0] 58
 sav : Blk W rb cs 58
 row : StrAt W g xs
 lt : g < W.heap.size
 ne1 : g ≠ rb
 ne2 : w.heap.size < rb
theorem RSt.later {w : World} {g rb : Nat} {xs : List ByteArray} {cs : Array Value} {W : World} {W' : World} (h : RSt w g rb xs cs W) (hb : Below W.heap.size W W') : RSt w g rb xs cs W' :=
 ⟨h.below.trans (hb.mono h.below.size), h.res.below hb h.res.lt, h.sav.below hb h.sav.lt, h.row.below hb h.lt, Nat.lt_of_lt_of_le h.lt hb.size, h.ne1, h.ne2⟩
theorem RSt.put {w : World} {g rb : Nat} {xs : List ByteArray} {cs : Array Value} {W : World} {cs' : Array Value} (h : RSt w g rb xs cs W) (i : Nat) (v : Value) (he : cs.setIfInBounds i v = cs') : RSt w g rb xs cs' (W.setCell ⟨rb, i, none⟩ v) :=
 ⟨h.below.setCell (p := ⟨rb, i, none⟩) (Nat.le_of_lt h.ne2) _, h.res.other (Nat.ne_of_gt h.ne2), he ▸ h.sav.set i v, h.row.other h.ne1, by rw [mset_size]; exact h.lt, h.ne1, h.ne2⟩
theorem RSt.drew {w : World} {g rb : Nat} {xs : List ByteArray} {cs : Array Value} {W : World} (h : RSt w g rb xs cs W) : RSt w g rb xs cs W.drew := ⟨h.below.drew, h.res.drew, h.sav.drew, h.row, h.lt, h.ne1, h.ne2⟩
theorem lays_take {w : World} {g : Nat} {xs ts : List ByteArray} (h : StrAt w g xs) (hp : ∃ n, ts = xs.take n) (m : Nat) : Lays w g (ts.take m) := fun i hi => by
 obtain ⟨n, rfl⟩ := hp
 rw [List.length_take, List.length_take] at hi
 have e := h i (by omega)
 rw [e, List.getD, List.getD, List.getElem?_take, if_pos (by omega), List.getElem?_take, if_pos (by omega)]
theorem say_last (s : ByteArray) : (cut s 32).getD ((cut s 32).length - 1) ⟨#[]⟩ = lastW s := by
 unfold cut lastW
 rw [List.length_append]
 show List.getD (partsTo s 32 s.size ++ [s.extract (startAt s 32 s.size) s.size]) ((partsTo s 32 s.size).length + 1 - 1) _ = _
 rw [Nat.add_sub_cancel, List.getD, List.getElem?_append_right (Nat.le_refl _)]
 simp
theorem say_take {s : ByteArray} (h : startAt s 32 s.size ≠ 0) : (cut s 32).take ((cut s 32).length - 1) = cut (aheadW s) 32 := by
 rw [cut_init h]
 simp
theorem glue_take (xs : List ByteArray) (n : Nat) (h : n ≤ xs.length) : glue (xs.take n) n = glue xs n := by
 have := glue_pre (xs.take n) (xs.drop n) n (by rw [List.length_take]; omega)
 rw [List.take_append_drop] at this
 exact this.symm
def wayT (s : ByteArray) (ts : List ByteArray) : Prop := (ts = [] ∧ readSay s = (say0, false)) ∨ ts = cut (sayRest s) 32
theorem specReadSaying (s : ByteArray) (w : World) (hs : s.size ≤ 1048576) : CR 28 #[.string s] w (saidV (readSay s)) := by
 obtain ⟨xs, hxs⟩ : ∃ xs, xs = cut s 32 := ⟨_, rfl⟩
 have KW := fun W => specWords s W hs
 have hxne : xs ≠ [] := by rw [hxs]; exact cut_ne _ _
 obtain ⟨ca, hca⟩ : ∃ ca, ca = calNo (lastW s) := ⟨_, rfl⟩
 have KC : ∀ W, CS 52 #[.string (lastW s)] W (.int .i64 ca) := fun W => by rw [hca]; exact specCalOf _ W
 have hlast : xs.getD (xs.length - 1) ⟨#[]⟩ = lastW s := by rw [hxs]; exact say_last s
 have hb9 : -1 ≤ ca := by rw [hca]; unfold calNo; split; omega; split <;> omega
 have HWN : Hid (ca < 0 → wayT s xs) := fun h => .inr (by rw [hxs]; unfold sayRest; rw [if_pos (by rw [← hca]; exact h)])
 have HWY : Hid (¬ ca < 0 → wayT s (xs.take (xs.length - 1))) := fun h => by
  by_cases h0 : startAt s 32 s.size = 0
  · refine .inl ⟨by rw [hxs, cut_one h0]; rfl, read_bare (by rw [← hca]; omega) h0⟩
  · refine .inr ?_
    rw [hxs, say_take h0]
    unfold sayRest
    rw [if_neg (by rw [← hca]; exact h)]
 have hxl : xs.length ≤ 1048577 := by rw [hxs]; have := cut_long s 32; omega
 obtain ⟨n, hn⟩ : ∃ n, xs.length = n + 1 := ⟨xs.length - 1, by have := List.length_pos_iff.mpr hxne; omega⟩
 rw [← hxs] at KW
 obtain ⟨ans, hans⟩ : ∃ ans, ans = readSay s := ⟨_, rfl⟩
 rw [← hans]
 have HA := hideP hans
 have HCA := hideP hca
 obtain ⟨W0, hW0, hC, hBl⟩ := box_any w #[.int .i64 0, .int .i64 0, .int .i64 0, .int .i64 0, .int .i64 0, .int .i64 0, .bool false, .string ⟨#[]⟩, .int .i64 0, .int .i64 0, .int .i64 0, .int .i64 0] 58
 have HW0 := hideP hW0
 have HC := hideP hC
 have HBl := hideP hBl
 have HL := hideP hlast
 have HXN := hideP hn
 generalize hgl : lastW s = ls at *
 have HGL := hideP hgl
 clear hgl hxs hans hca hlast hW0 hC hBl
 go_enter Tryz.func28, Tryz.ntmps28
 go_wp2_with fail
 rw [← HW0.out]
 refine (KW _).mono ?_
 rintro e W1 ⟨v, rfl, hrow, hb⟩
 obtain ⟨g, cap, rfl, hg, hgl, hst, _⟩ := own_row hrow hxne
 have hcap : xs.length ≤ cap := by
  rcases hrow.2 with ⟨h0, _⟩ | ⟨g', cap', cur, he, _, _, hc, _⟩
  · cases h0
  · cases he; exact hc
 obtain ⟨x1, rfl⟩ := Later.of hb
 have c0 : x1.w.cell? ⟨g, n, none⟩ = some (.string ls) := by rw [← HL.out, show xs.length - 1 = n by rw [hn]; rfl]; exact hst n (by omega)
 have S0 : Hid (RSt w g x1.w.heap.size xs #[.int .i64 0, .int .i64 0, .int .i64 0, .int .i64 0, .int .i64 0, .int .i64 0, .bool false, .string ⟨#[]⟩, .int .i64 0, .int .i64 0, .int .i64 (-1), .int .i64 ca] (x1.w.alloc (.cells #[.int .i64 0, .int .i64 0, .int .i64 0, .int .i64 0, .int .i64 0, .int .i64 0, .bool false, .string ⟨#[]⟩, .int .i64 0, .int .i64 0, .int .i64 (-1), .int .i64 ca] 58))) := by
  have hba : Below x1.w.heap.size x1.w (x1.w.alloc (.cells #[.int .i64 0, .int .i64 0, .int .i64 0, .int .i64 0, .int .i64 0, .int .i64 0, .bool false, .string ⟨#[]⟩, .int .i64 0, .int .i64 0, .int .i64 (-1), .int .i64 ca] 58)) := (Below.refl _ _).alloc (Nat.le_refl _) _
  exact ⟨(HBl.out x1).trans (hba.mono (HBl.out x1).size), (HC.out x1).below hba (HC.out x1).lt, Blk.new _ _ _, hst.below hba hgl, Nat.lt_of_lt_of_le hgl hba.size, by omega, (HC.out x1).lt⟩
 obtain ⟨W2, e2⟩ : ∃ W2, W2 = x1.w.alloc (.cells #[.int .i64 0, .int .i64 0, .int .i64 0, .int .i64 0, .int .i64 0, .int .i64 0, .bool false, .string ⟨#[]⟩, .int .i64 0, .int .i64 0, .int .i64 (-1), .int .i64 ca] 58) := ⟨_, rfl⟩
 rw [← e2] at S0
 have E2 := hideP e2
 obtain ⟨rb, hrb⟩ : ∃ rb, rb = x1.w.heap.size := ⟨_, rfl⟩
 rw [← hrb] at S0
 have HRB := hideP hrb
 clear hrow hb hst KW hg hgl HL e2 hrb hxne
 rw [hn] at hcap hxl ⊢
 clear hn
 go_wp2_with fail
 refine sameC (KC _) ?_
 go_upto_region 3 with fail
 rw [← E2.out, ← HRB.out]
 have q11 : W2.cell? ⟨rb, 11, none⟩ = some (.int .i64 ca) := S0.out.sav.cell 11 rfl
 clear E2 HRB c0 KC HC HBl HW0
 go_upto_if 19 with fail
 go_cut [4] (fun s4 wx => ∃ (C : Nat) (ts : List ByteArray), s4 = .slice (some ⟨g, 0, none⟩) ts.length C ∧ ts.length ≤ C ∧ ts.length ≤ 1048577 ∧ Hid (∃ n, ts = xs.take n) ∧ Hid (wayT s ts) ∧ wx = W2)
 case first =>
  by_cases hz : ca < 0
  · go_wp2_with fail
    go_meet
    exact ⟨cap, xs, by rw [HXN.out], by rw [HXN.out]; exact hcap, by rw [HXN.out]; exact hxl, ⟨xs.length, by simp⟩, HWN.out hz, rfl⟩
  · have hz' : 0 ≤ ca := by omega
    go_wp2_with fail
    go_meet
    exact ⟨cap, xs.take (xs.length - 1), by rw [List.length_take, HXN.out]; simp, by rw [List.length_take, HXN.out]; omega, by rw [List.length_take, HXN.out]; omega, ⟨_, rfl⟩, HWY.out hz, rfl⟩
 case rest =>
 obtain ⟨C, ts, rfl, hC, hts, HPre, HWay, rfl⟩ := hcut
 clear HWN HWY hcap hxl q11
 by_cases hte : ts = []
 · subst hte
   obtain rfl : ans = (say0, false) := by
    rw [HA.out]
    rcases HWay.out with ⟨_, h⟩ | h
    · exact h
    · exact absurd h.symm (cut_ne _ _)
   have f0 : wc.frozen? ⟨w.heap.size, 0, none⟩ = false := S0.out.res.thaw 0
   have f1 : wc.frozen? ⟨w.heap.size, 1, none⟩ = false := S0.out.res.thaw 1
   have f2 : wc.frozen? ⟨w.heap.size, 2, none⟩ = false := S0.out.res.thaw 2
   have f3 : wc.frozen? ⟨w.heap.size, 3, none⟩ = false := S0.out.res.thaw 3
   have f4 : wc.frozen? ⟨w.heap.size, 4, none⟩ = false := S0.out.res.thaw 4
   have f5 : wc.frozen? ⟨w.heap.size, 5, none⟩ = false := S0.out.res.thaw 5
   have f6 : wc.frozen? ⟨w.heap.size, 6, none⟩ = false := S0.out.res.thaw 6
   have f7 : wc.frozen? ⟨w.heap.size, 7, none⟩ = false := S0.out.res.thaw 7
   have f8 : wc.frozen? ⟨w.heap.size, 8, none⟩ = false := S0.out.res.thaw 8
   have f9 : wc.frozen? ⟨w.heap.size, 9, none⟩ = false := S0.out.res.thaw 9
   have f10 : wc.frozen? ⟨w.heap.size, 10, none⟩ = false := S0.out.res.thaw 10
   have f11 : wc.frozen? ⟨w.heap.size, 11, none⟩ = false := S0.out.res.thaw 11
   have u0 : wc.cell? ⟨w.heap.size, 0, none⟩ = some (.int .i64 0) := S0.out.res.cell 0 rfl
   have u1 : wc.cell? ⟨w.heap.size, 1, none⟩ = some (.int .i64 0) := S0.out.res.cell 1 rfl
   have u2 : wc.cell? ⟨w.heap.size, 2, none⟩ = some (.int .i64 0) := S0.out.res.cell 2 rfl
   have u3 : wc.cell? ⟨w.heap.size, 3, none⟩ = some (.int .i64 0) := S0.out.res.cell 3 rfl
   have u4 : wc.cell? ⟨w.heap.size, 4, none⟩ = some (.int .i64 0) := S0.out.res.cell 4 rfl
   have u5 : wc.cell? ⟨w.heap.size, 5, none⟩ = some (.int .i64 0) := S0.out.res.cell 5 rfl
   have u6 : wc.cell? ⟨w.heap.size, 6, none⟩ = some (.bool false) := S0.out.res.cell 6 rfl
   have u7 : wc.cell? ⟨w.heap.size, 7, none⟩ = some (.string ⟨#[]⟩) := S0.out.res.cell 7 rfl
   have u8 : wc.cell? ⟨w.heap.size, 8, none⟩ = some (.int .i64 0) := S0.out.res.cell 8 rfl
   have u9 : wc.cell? ⟨w.heap.size, 9, none⟩ = some (.int .i64 0) := S0.out.res.cell 9 rfl
   have u10 : wc.cell? ⟨w.heap.size, 10, none⟩ = some (.int .i64 0) := S0.out.res.cell 10 rfl
   have u11 : wc.cell? ⟨w.heap.size, 11, none⟩ = some (.int .i64 0) := S0.out.res.cell 11 rfl
   clear HA HWay HPre
   go_wp2
   exact ret12 S0.out.res S0.out.below (by omega) rfl (fun _ q0 q1 q2 q3 q4 q5 q6 q7 q8 q9 q10 q11 B9 => ⟨by simp [results, Tryz.results28, go_sem, say0, q0, q1, q2, q3, q4, q5, q6, q7, q8, q9, q10, q11]; first | done | rfl | exact ⟨rfl, rfl⟩, rfl, B9⟩)
 have hcut : Hid (ts = cut (sayRest s) 32) := by
  unfold Hid
  rcases HWay.out with ⟨h, _⟩ | h
  · exact absurd h hte
  · exact h
 obtain ⟨ml, hml⟩ : ∃ ml, ts.length = ml + 1 := ⟨ts.length - 1, by have := List.length_pos_iff.mpr hte; omega⟩
 have zt : (sayRest s).size ≤ 1048576 := by unfold sayRest; split; exact hs; exact Nat.le_trans (ahead_size s) hs
 have zl := last_size (sayRest s)
 have hg1 : glue (ts.take ml) ml = aheadW (sayRest s) := by
  rw [glue_take ts ml (by omega), hcut.out, ← glue_init, ← hcut.out, hml]
  rfl
 have hin : ts.take ml = initW (sayRest s) := by unfold initW; rw [← hcut.out, hml]; rfl
 have hmm : (ts.take ml).length = ml := by rw [List.length_take]; omega
 have hzz : ∀ i, ((ts.take ml).getD i ⟨#[]⟩).size ≤ 1048576 := fun i => by
  by_cases hi : i < ml
  · rw [List.getD, List.getElem?_take, if_pos hi, hcut.out]
    exact Nat.le_trans (cut_short (sayRest s) 32 i) zt
  · rw [List.getD, List.getElem?_take, if_neg hi]
    exact Nat.zero_le _
 have hls : ts.getD ml ⟨#[]⟩ = lastW (sayRest s) := by rw [← say_last, ← hcut.out, hml]; rfl
 obtain ⟨wh, hwh⟩ : ∃ wh, wh = whenS (aheadW (sayRest s)) (initW (sayRest s)) := ⟨_, rfl⟩
 have KH : Hid (∀ cs W, RSt w g rb xs cs W → CR 55 #[.slice (some ⟨g, 0, none⟩) ml C] W (whnV wh)) := fun cs W h => by
  have K := specWhen (ts.take ml) g C W h.lt (lays_take h.row HPre.out ml) (by rw [hmm, hg1]; exact Nat.le_trans (ahead_size _) zt) (by omega) hzz
  rw [hmm, hg1, hin, ← hwh] at K
  exact K
 obtain ⟨yr, hyr⟩ : ∃ yr, yr = yrS (lastW (sayRest s)) := ⟨_, rfl⟩
 have HS : Hid (sayS s = ⟨wh, yr.1, yr.2, ca⟩) := by unfold Hid sayS; rw [hwh, hyr, HCA.out, ← HGL.out]
 obtain ⟨t2, ht2⟩ : ∃ t2, t2 = lastW (sayRest s) := ⟨_, rfl⟩
 rw [← ht2] at zl hls hyr
 have hz2 : t2.size ≤ 1048576 := by omega
 have KY := fun W => l01Cut t2 47 W hz2
 have hyne := cut_ne t2 47
 have hys := fun i => cut_short t2 47 i
 have hyl := cut_long t2 47
 have HY1 : Hid (yr.1 = readDec ((cut t2 47).getD 0 ⟨#[]⟩)) := by unfold Hid; rw [hyr]; rfl
 have HY2 : Hid (yr.2 = if (cut t2 47).length = 2 then readDec ((cut t2 47).getD 1 ⟨#[]⟩) else -1) := by unfold Hid; rw [hyr]; rfl
 obtain ⟨y, so⟩ := yr
 obtain ⟨k, m, d, ⟨a, b, c, t⟩, f, p⟩ := wh
 have HRY : Hid (sayTx ⟨⟨k, m, d, ⟨a, b, c, t⟩, f, p⟩, y, so, ca⟩ = s → s.size ≠ 0 → ans = (⟨⟨k, m, d, ⟨a, b, c, t⟩, f, p⟩, y, so, ca⟩, true)) := fun h h0 => by rw [HA.out]; have := read_yes (s := s) (by rw [HS.out]; exact h) h0; rw [this, HS.out]
 have HRN : Hid (s.size = 0 ∨ sayTx ⟨⟨k, m, d, ⟨a, b, c, t⟩, f, p⟩, y, so, ca⟩ ≠ s → ans = (say0, false)) := fun h => by rw [HA.out]; exact read_no (by rw [HS.out]; exact h)
 have KT : ∀ W, CR 56 #[.agg #[.int .i64 k, .int .i64 m, .int .i64 d, .int .i64 a, .int .i64 b, .int .i64 c, .bool t, .string f, .int .i64 p, .int .i64 y, .int .i64 so, .int .i64 ca]] W (.string (sayTx ⟨⟨k, m, d, ⟨a, b, c, t⟩, f, p⟩, y, so, ca⟩)) := fun W => specSayingText ⟨⟨k, m, d, ⟨a, b, c, t⟩, f, p⟩, y, so, ca⟩ W
 have KH' : Hid (∀ cs W, RSt w g rb xs cs W → CR 55 #[.slice (some ⟨g, 0, none⟩) ml C] W (.agg #[.int .i64 k, .int .i64 m, .int .i64 d, .int .i64 a, .int .i64 b, .int .i64 c, .bool t, .string f, .int .i64 p])) := KH.out
 have l0 : wc.cell? ⟨g, ml, none⟩ = some (.string t2) := by
  obtain ⟨nn, hnn⟩ := HPre.out
  have hi : ml < nn ∧ ml < xs.length := by have h1 := congrArg List.length hnn; rw [List.length_take] at h1; omega
  rw [S0.out.row ml hi.2, ← hls, hnn, List.getD, List.getD, List.getElem?_take, if_pos hi.1]
 generalize cut t2 47 = ys at *
 obtain ⟨n0, hn0⟩ : ∃ n0, n0 = ys.getD 0 ⟨#[]⟩ := ⟨_, rfl⟩
 obtain ⟨n1, hn1⟩ : ∃ n1, n1 = ys.getD 1 ⟨#[]⟩ := ⟨_, rfl⟩
 have z0 : n0.size ≤ 1048576 := by rw [hn0]; exact Nat.le_trans (hys 0) hz2
 have z1 : n1.size ≤ 1048576 := by rw [hn1]; exact Nat.le_trans (hys 1) hz2
 rw [← hn0] at HY1
 rw [← hn1] at HY2
 have KR0 : ∀ W, CS 54 #[.string n0] W (.int .i64 y) := fun W => by rw [show y = readDec n0 from HY1.out]; exact specReadDec n0 W (by unfold maxLen; omega)
 have hl0 : 0 < ys.length := List.length_pos_iff.mpr hyne
 have HN0 := hideP hn0
 have HN1 := hideP hn1
 have HYN := hideP hyne
 have hl0i : (0 : Int) < (ys.length : Int) := by omega
 generalize sayTx ⟨⟨k, m, d, ⟨a, b, c, t⟩, f, p⟩, y, so, ca⟩ = tx at *
 rw [hml] at hC hts ⊢
 clear hte zt zl hg1 hin hmm hzz hls hwh KH hyr HS ht2 hz2 hys HY1 hn0 hn1 z0 hml HPre HWay hcut HA HCA hyne HGL
 go_wp2_with fail
 refine (KY _).mono ?_
 rintro e W3 ⟨v, rfl, hr, hb⟩
 obtain ⟨g2, cap2, rfl, hg2, hgl2, hst2, _⟩ := own_row hr HYN.out
 have S3 := hideP (S0.out.later hb)
 have y0 : W3.cell? ⟨g2, 0, none⟩ = some (.string n0) := by rw [HN0.out]; exact hst2 0 hl0
 have hne2 : g2 ≠ rb := fun e => by have := S0.out.sav.lt; omega
 have HST2 := hideP hst2
 have r9 : W3.cell? ⟨rb, 9, none⟩ = some (.int .i64 0) := S3.out.sav.cell 9 rfl
 have r9f : W3.frozen? ⟨rb, 9, none⟩ = false := S3.out.sav.thaw 9
 clear hr hb hst2 hgl2 hg2 KY l0 S0
 go_wp2_with fail
 refine (KR0 _).mono ?_
 rintro e wz ⟨rfl, rfl⟩
 obtain ⟨W4, e4⟩ : ∃ W4, W4 = wz.setCell ⟨rb, 9, none⟩ (.int .i64 y) := ⟨_, rfl⟩
 have S4 : Hid (RSt w g rb xs #[.int .i64 0, .int .i64 0, .int .i64 0, .int .i64 0, .int .i64 0, .int .i64 0, .bool false, .string ⟨#[]⟩, .int .i64 0, .int .i64 y, .int .i64 (-1), .int .i64 ca] W4) := by unfold Hid; rw [e4]; exact S3.out.put 9 _ rfl
 have HST4 : Hid (StrAt W4 g2 ys) := by unfold Hid; rw [e4]; exact StrAt.other HST2.out hne2
 have E4 := hideP e4
 clear e4
 go_upto_region 9 with fail
 rw [← E4.out]
 clear E4 S3 HST2 r9 r9f y0 KR0 hne2
 by_cases h2 : ys.length = 2
 focus
   have h2' : ((ys.length : Int) == 2) = true := by rw [h2]; rfl
   have hl1i : (1 : Int) < (ys.length : Int) := by omega
   have KR1 : ∀ W, CS 54 #[.string n1] W (.int .i64 so) := fun W => by rw [show so = readDec n1 from HY2.out.trans (if_pos h2)]; exact specReadDec n1 W (by unfold maxLen; omega)
   have y1 : W4.cell? ⟨g2, 1, none⟩ = some (.string n1) := by rw [HN1.out]; exact HST4.out 1 (by omega)
   have r10 : W4.cell? ⟨rb, 10, none⟩ = some (.int .i64 (-1)) := S4.out.sav.cell 10 rfl
   have r10f : W4.frozen? ⟨rb, 10, none⟩ = false := S4.out.sav.thaw 10
   go_wp2_with fail
   refine (KR1 _).mono ?_
   rintro e wz2 ⟨rfl, rfl⟩
   obtain ⟨W5, e5⟩ : ∃ W5, W5 = wz2.setCell ⟨rb, 10, none⟩ (.int .i64 so) := ⟨_, rfl⟩
   have S5 : Hid (RSt w g rb xs #[.int .i64 0, .int .i64 0, .int .i64 0, .int .i64 0, .int .i64 0, .int .i64 0, .bool false, .string ⟨#[]⟩, .int .i64 0, .int .i64 y, .int .i64 so, .int .i64 ca] W5) := by unfold Hid; rw [e5]; exact S4.out.put 10 _ rfl
   have E5 := hideP e5
   clear e5
   go_upto_region 11 with fail
   rw [← E5.out]
   clear E5 S4 HST4 y1 r10 r10f KR1 h2 hl1i h2' HY2 HN0 HN1 hl0 hl0i HYN z1 hyl
 rotate_left
 focus
   have h2' : ((ys.length : Int) == 2) = false := by simp; omega
   have hso : so = -1 := HY2.out.trans (if_neg h2)
   have S5 : Hid (RSt w g rb xs #[.int .i64 0, .int .i64 0, .int .i64 0, .int .i64 0, .int .i64 0, .int .i64 0, .bool false, .string ⟨#[]⟩, .int .i64 0, .int .i64 y, .int .i64 so, .int .i64 ca] W4) := by unfold Hid; rw [hso]; exact S4.out
   clear hso S4 HST4 h2 HY2 HN0 HN1 hl0 hl0i HYN z1 hyl
 rotate_left
 all_goals
  have K5 := hideP (KH'.out _ _ S5.out)
  go_wp2_with fail
  refine K5.out.mono ?_
  rintro e W6 ⟨rfl, hb⟩
  have S6 := hideP (S5.out.later hb)
  clear hb K5 KH' S5
  have f0 : W6.frozen? ⟨rb, 0, none⟩ = false := S6.out.sav.thaw 0
  have u0 : W6.cell? ⟨rb, 0, none⟩ = some (.int .i64 0) := S6.out.sav.cell 0 rfl
  have f1 : W6.frozen? ⟨rb, 1, none⟩ = false := S6.out.sav.thaw 1
  have u1 : W6.cell? ⟨rb, 1, none⟩ = some (.int .i64 0) := S6.out.sav.cell 1 rfl
  have f2 : W6.frozen? ⟨rb, 2, none⟩ = false := S6.out.sav.thaw 2
  have u2 : W6.cell? ⟨rb, 2, none⟩ = some (.int .i64 0) := S6.out.sav.cell 2 rfl
  have f3 : W6.frozen? ⟨rb, 3, none⟩ = false := S6.out.sav.thaw 3
  have u3 : W6.cell? ⟨rb, 3, none⟩ = some (.int .i64 0) := S6.out.sav.cell 3 rfl
  have f4 : W6.frozen? ⟨rb, 4, none⟩ = false := S6.out.sav.thaw 4
  have u4 : W6.cell? ⟨rb, 4, none⟩ = some (.int .i64 0) := S6.out.sav.cell 4 rfl
  have f5 : W6.frozen? ⟨rb, 5, none⟩ = false := S6.out.sav.thaw 5
  have u5 : W6.cell? ⟨rb, 5, none⟩ = some (.int .i64 0) := S6.out.sav.cell 5 rfl
  have f6 : W6.frozen? ⟨rb, 6, none⟩ = false := S6.out.sav.thaw 6
  have u6 : W6.cell? ⟨rb, 6, none⟩ = some (.bool false) := S6.out.sav.cell 6 rfl
  have f7 : W6.frozen? ⟨rb, 7, none⟩ = false := S6.out.sav.thaw 7
  have u7 : W6.cell? ⟨rb, 7, none⟩ = some (.string ⟨#[]⟩) := S6.out.sav.cell 7 rfl
  have f8 : W6.frozen? ⟨rb, 8, none⟩ = false := S6.out.sav.thaw 8
  have u8 : W6.cell? ⟨rb, 8, none⟩ = some (.int .i64 0) := S6.out.sav.cell 8 rfl
  go_upto_region 12 with fail
  obtain ⟨W7, e7⟩ : ∃ W7, W7 = (((((((((W6.setCell ⟨rb, 0, none⟩ (.int .i64 k)).setCell ⟨rb, 1, none⟩ (.int .i64 m)).setCell ⟨rb, 2, none⟩ (.int .i64 d)).setCell ⟨rb, 3, none⟩ (.int .i64 a)).setCell ⟨rb, 4, none⟩ (.int .i64 b)).setCell ⟨rb, 5, none⟩ (.int .i64 c)).setCell ⟨rb, 6, none⟩ (.bool t)).setCell ⟨rb, 7, none⟩ (.string f)).setCell ⟨rb, 8, none⟩ (.int .i64 p)) := ⟨_, rfl⟩
  have S7 : Hid (RSt w g rb xs #[.int .i64 k, .int .i64 m, .int .i64 d, .int .i64 a, .int .i64 b, .int .i64 c, .bool t, .string f, .int .i64 p, .int .i64 y, .int .i64 so, .int .i64 ca] W7) := by unfold Hid; rw [e7]; exact (RSt.put (cs' := #[.int .i64 k, .int .i64 m, .int .i64 d, .int .i64 a, .int .i64 b, .int .i64 c, .bool t, .string f, .int .i64 p, .int .i64 y, .int .i64 so, .int .i64 ca]) (RSt.put (cs' := #[.int .i64 k, .int .i64 m, .int .i64 d, .int .i64 a, .int .i64 b, .int .i64 c, .bool t, .string f, .int .i64 0, .int .i64 y, .int .i64 so, .int .i64 ca]) (RSt.put (cs' := #[.int .i64 k, .int .i64 m, .int .i64 d, .int .i64 a, .int .i64 b, .int .i64 c, .bool t, .string ⟨#[]⟩, .int .i64 0, .int .i64 y, .int .i64 so, .int .i64 ca]) (RSt.put (cs' := #[.int .i64 k, .int .i64 m, .int .i64 d, .int .i64 a, .int .i64 b, .int .i64 c, .bool false, .string ⟨#[]⟩, .int .i64 0, .int .i64 y, .int .i64 so, .int .i64 ca]) (RSt.put (cs' := #[.int .i64 k, .int .i64 m, .int .i64 d, .int .i64 a, .int .i64 b, .int .i64 0, .bool false, .string ⟨#[]⟩, .int .i64 0, .int .i64 y, .int .i64 so, .int .i64 ca]) (RSt.put (cs' := #[.int .i64 k, .int .i64 m, .int .i64 d, .int .i64 a, .int .i64 0, .int .i64 0, .bool false, .string ⟨#[]⟩, .int .i64 0, .int .i64 y, .int .i64 so, .int .i64 ca]) (RSt.put (cs' := #[.int .i64 k, .int .i64 m, .int .i64 d, .int .i64 0, .int .i64 0, .int .i64 0, .bool false, .string ⟨#[]⟩, .int .i64 0, .int .i64 y, .int .i64 so, .int .i64 ca]) (RSt.put (cs' := #[.int .i64 k, .int .i64 m, .int .i64 0, .int .i64 0, .int .i64 0, .int .i64 0, .bool false, .string ⟨#[]⟩, .int .i64 0, .int .i64 y, .int .i64 so, .int .i64 ca]) (RSt.put (cs' := #[.int .i64 k, .int .i64 0, .int .i64 0, .int .i64 0, .int .i64 0, .int .i64 0, .bool false, .string ⟨#[]⟩, .int .i64 0, .int .i64 y, .int .i64 so, .int .i64 ca]) S6.out 0 _ rfl) 1 _ rfl) 2 _ rfl) 3 _ rfl) 4 _ rfl) 5 _ rfl) 6 _ rfl) 7 _ rfl) 8 _ rfl)
  rw [← e7]
  clear e7 S6 f0 u0 f1 u1 f2 u2 f3 u3 f4 u4 f5 u5 f6 u6 f7 u7 f8 u8
  have s0 : W7.cell? ⟨rb, 0, none⟩ = some (.int .i64 k) := S7.out.sav.cell 0 rfl
  have s1 : W7.cell? ⟨rb, 1, none⟩ = some (.int .i64 m) := S7.out.sav.cell 1 rfl
  have s2 : W7.cell? ⟨rb, 2, none⟩ = some (.int .i64 d) := S7.out.sav.cell 2 rfl
  have s3 : W7.cell? ⟨rb, 3, none⟩ = some (.int .i64 a) := S7.out.sav.cell 3 rfl
  have s4 : W7.cell? ⟨rb, 4, none⟩ = some (.int .i64 b) := S7.out.sav.cell 4 rfl
  have s5 : W7.cell? ⟨rb, 5, none⟩ = some (.int .i64 c) := S7.out.sav.cell 5 rfl
  have s6 : W7.cell? ⟨rb, 6, none⟩ = some (.bool t) := S7.out.sav.cell 6 rfl
  have s7 : W7.cell? ⟨rb, 7, none⟩ = some (.string f) := S7.out.sav.cell 7 rfl
  have s8 : W7.cell? ⟨rb, 8, none⟩ = some (.int .i64 p) := S7.out.sav.cell 8 rfl
  have s9 : W7.cell? ⟨rb, 9, none⟩ = some (.int .i64 y) := S7.out.sav.cell 9 rfl
  have s10 : W7.cell? ⟨rb, 10, none⟩ = some (.int .i64 so) := S7.out.sav.cell 10 rfl
  have s11 : W7.cell? ⟨rb, 11, none⟩ = some (.int .i64 ca) := S7.out.sav.cell 11 rfl
  by_cases h0 : s.size = 0
  · obtain rfl : ans = (say0, false) := HRN.out (.inl h0)
    have e0 := empty_yes h0
    clear HRN HRY KT
    have f0 : W7.frozen? ⟨w.heap.size, 0, none⟩ = false := S7.out.res.thaw 0
    have f1 : W7.frozen? ⟨w.heap.size, 1, none⟩ = false := S7.out.res.thaw 1
    have f2 : W7.frozen? ⟨w.heap.size, 2, none⟩ = false := S7.out.res.thaw 2
    have f3 : W7.frozen? ⟨w.heap.size, 3, none⟩ = false := S7.out.res.thaw 3
    have f4 : W7.frozen? ⟨w.heap.size, 4, none⟩ = false := S7.out.res.thaw 4
    have f5 : W7.frozen? ⟨w.heap.size, 5, none⟩ = false := S7.out.res.thaw 5
    have f6 : W7.frozen? ⟨w.heap.size, 6, none⟩ = false := S7.out.res.thaw 6
    have f7 : W7.frozen? ⟨w.heap.size, 7, none⟩ = false := S7.out.res.thaw 7
    have f8 : W7.frozen? ⟨w.heap.size, 8, none⟩ = false := S7.out.res.thaw 8
    have f9 : W7.frozen? ⟨w.heap.size, 9, none⟩ = false := S7.out.res.thaw 9
    have f10 : W7.frozen? ⟨w.heap.size, 10, none⟩ = false := S7.out.res.thaw 10
    have f11 : W7.frozen? ⟨w.heap.size, 11, none⟩ = false := S7.out.res.thaw 11
    have u0 : W7.cell? ⟨w.heap.size, 0, none⟩ = some (.int .i64 0) := S7.out.res.cell 0 rfl
    have u1 : W7.cell? ⟨w.heap.size, 1, none⟩ = some (.int .i64 0) := S7.out.res.cell 1 rfl
    have u2 : W7.cell? ⟨w.heap.size, 2, none⟩ = some (.int .i64 0) := S7.out.res.cell 2 rfl
    have u3 : W7.cell? ⟨w.heap.size, 3, none⟩ = some (.int .i64 0) := S7.out.res.cell 3 rfl
    have u4 : W7.cell? ⟨w.heap.size, 4, none⟩ = some (.int .i64 0) := S7.out.res.cell 4 rfl
    have u5 : W7.cell? ⟨w.heap.size, 5, none⟩ = some (.int .i64 0) := S7.out.res.cell 5 rfl
    have u6 : W7.cell? ⟨w.heap.size, 6, none⟩ = some (.bool false) := S7.out.res.cell 6 rfl
    have u7 : W7.cell? ⟨w.heap.size, 7, none⟩ = some (.string ⟨#[]⟩) := S7.out.res.cell 7 rfl
    have u8 : W7.cell? ⟨w.heap.size, 8, none⟩ = some (.int .i64 0) := S7.out.res.cell 8 rfl
    have u9 : W7.cell? ⟨w.heap.size, 9, none⟩ = some (.int .i64 0) := S7.out.res.cell 9 rfl
    have u10 : W7.cell? ⟨w.heap.size, 10, none⟩ = some (.int .i64 0) := S7.out.res.cell 10 rfl
    have u11 : W7.cell? ⟨w.heap.size, 11, none⟩ = some (.int .i64 0) := S7.out.res.cell 11 rfl
    go_wp2
    exact ret12 S7.out.res S7.out.below (by omega) rfl (fun _ q0 q1 q2 q3 q4 q5 q6 q7 q8 q9 q10 q11 B9 => ⟨by simp [results, Tryz.results28, go_sem, say0, q0, q1, q2, q3, q4, q5, q6, q7, q8, q9, q10, q11]; first | done | rfl | exact ⟨rfl, rfl⟩, rfl, B9⟩)
  have e0 := empty_no h0
  go_wp2_with fail
  refine (KT _).mono ?_
  rintro e W8 ⟨rfl, hb⟩
  have S8 := hideP (S7.out.later hb)
  clear hb S7 KT s0 s1 s2 s3 s4 s5 s6 s7 s8 s9 s10 s11
  by_cases h1 : tx = s
  case neg =>
   obtain rfl : ans = (say0, false) := HRN.out (.inr h1)
   have e1 := sne_str h1
   clear HRN HRY h1
   have f0 : W8.frozen? ⟨w.heap.size, 0, none⟩ = false := S8.out.res.thaw 0
   have f1 : W8.frozen? ⟨w.heap.size, 1, none⟩ = false := S8.out.res.thaw 1
   have f2 : W8.frozen? ⟨w.heap.size, 2, none⟩ = false := S8.out.res.thaw 2
   have f3 : W8.frozen? ⟨w.heap.size, 3, none⟩ = false := S8.out.res.thaw 3
   have f4 : W8.frozen? ⟨w.heap.size, 4, none⟩ = false := S8.out.res.thaw 4
   have f5 : W8.frozen? ⟨w.heap.size, 5, none⟩ = false := S8.out.res.thaw 5
   have f6 : W8.frozen? ⟨w.heap.size, 6, none⟩ = false := S8.out.res.thaw 6
   have f7 : W8.frozen? ⟨w.heap.size, 7, none⟩ = false := S8.out.res.thaw 7
   have f8 : W8.frozen? ⟨w.heap.size, 8, none⟩ = false := S8.out.res.thaw 8
   have f9 : W8.frozen? ⟨w.heap.size, 9, none⟩ = false := S8.out.res.thaw 9
   have f10 : W8.frozen? ⟨w.heap.size, 10, none⟩ = false := S8.out.res.thaw 10
   have f11 : W8.frozen? ⟨w.heap.size, 11, none⟩ = false := S8.out.res.thaw 11
   have u0 : W8.cell? ⟨w.heap.size, 0, none⟩ = some (.int .i64 0) := S8.out.res.cell 0 rfl
   have u1 : W8.cell? ⟨w.heap.size, 1, none⟩ = some (.int .i64 0) := S8.out.res.cell 1 rfl
   have u2 : W8.cell? ⟨w.heap.size, 2, none⟩ = some (.int .i64 0) := S8.out.res.cell 2 rfl
   have u3 : W8.cell? ⟨w.heap.size, 3, none⟩ = some (.int .i64 0) := S8.out.res.cell 3 rfl
   have u4 : W8.cell? ⟨w.heap.size, 4, none⟩ = some (.int .i64 0) := S8.out.res.cell 4 rfl
   have u5 : W8.cell? ⟨w.heap.size, 5, none⟩ = some (.int .i64 0) := S8.out.res.cell 5 rfl
   have u6 : W8.cell? ⟨w.heap.size, 6, none⟩ = some (.bool false) := S8.out.res.cell 6 rfl
   have u7 : W8.cell? ⟨w.heap.size, 7, none⟩ = some (.string ⟨#[]⟩) := S8.out.res.cell 7 rfl
   have u8 : W8.cell? ⟨w.heap.size, 8, none⟩ = some (.int .i64 0) := S8.out.res.cell 8 rfl
   have u9 : W8.cell? ⟨w.heap.size, 9, none⟩ = some (.int .i64 0) := S8.out.res.cell 9 rfl
   have u10 : W8.cell? ⟨w.heap.size, 10, none⟩ = some (.int .i64 0) := S8.out.res.cell 10 rfl
   have u11 : W8.cell? ⟨w.heap.size, 11, none⟩ = some (.int .i64 0) := S8.out.res.cell 11 rfl
   go_wp2
   exact ret12 S8.out.res S8.out.below (by omega) rfl (fun _ q0 q1 q2 q3 q4 q5 q6 q7 q8 q9 q10 q11 B9 => ⟨by simp [results, Tryz.results28, go_sem, say0, q0, q1, q2, q3, q4, q5, q6, q7, q8, q9, q10, q11]; first | done | rfl | exact ⟨rfl, rfl⟩, rfl, B9⟩)
  obtain rfl : ans = (⟨⟨k, m, d, ⟨a, b, c, t⟩, f, p⟩, y, so, ca⟩, true) := HRY.out h1 h0
  have e1 := seq_str h1
  clear HRN HRY h1
  have f0 : W8.frozen? ⟨w.heap.size, 0, none⟩ = false := S8.out.res.thaw 0
  have f1 : W8.frozen? ⟨w.heap.size, 1, none⟩ = false := S8.out.res.thaw 1
  have f2 : W8.frozen? ⟨w.heap.size, 2, none⟩ = false := S8.out.res.thaw 2
  have f3 : W8.frozen? ⟨w.heap.size, 3, none⟩ = false := S8.out.res.thaw 3
  have f4 : W8.frozen? ⟨w.heap.size, 4, none⟩ = false := S8.out.res.thaw 4
  have f5 : W8.frozen? ⟨w.heap.size, 5, none⟩ = false := S8.out.res.thaw 5
  have f6 : W8.frozen? ⟨w.heap.size, 6, none⟩ = false := S8.out.res.thaw 6
  have f7 : W8.frozen? ⟨w.heap.size, 7, none⟩ = false := S8.out.res.thaw 7
  have f8 : W8.frozen? ⟨w.heap.size, 8, none⟩ = false := S8.out.res.thaw 8
  have f9 : W8.frozen? ⟨w.heap.size, 9, none⟩ = false := S8.out.res.thaw 9
  have f10 : W8.frozen? ⟨w.heap.size, 10, none⟩ = false := S8.out.res.thaw 10
  have f11 : W8.frozen? ⟨w.heap.size, 11, none⟩ = false := S8.out.res.thaw 11
  have u0 : W8.cell? ⟨w.heap.size, 0, none⟩ = some (.int .i64 0) := S8.out.res.cell 0 rfl
  have u1 : W8.cell? ⟨w.heap.size, 1, none⟩ = some (.int .i64 0) := S8.out.res.cell 1 rfl
  have u2 : W8.cell? ⟨w.heap.size, 2, none⟩ = some (.int .i64 0) := S8.out.res.cell 2 rfl
  have u3 : W8.cell? ⟨w.heap.size, 3, none⟩ = some (.int .i64 0) := S8.out.res.cell 3 rfl
  have u4 : W8.cell? ⟨w.heap.size, 4, none⟩ = some (.int .i64 0) := S8.out.res.cell 4 rfl
  have u5 : W8.cell? ⟨w.heap.size, 5, none⟩ = some (.int .i64 0) := S8.out.res.cell 5 rfl
  have u6 : W8.cell? ⟨w.heap.size, 6, none⟩ = some (.bool false) := S8.out.res.cell 6 rfl
  have u7 : W8.cell? ⟨w.heap.size, 7, none⟩ = some (.string ⟨#[]⟩) := S8.out.res.cell 7 rfl
  have u8 : W8.cell? ⟨w.heap.size, 8, none⟩ = some (.int .i64 0) := S8.out.res.cell 8 rfl
  have u9 : W8.cell? ⟨w.heap.size, 9, none⟩ = some (.int .i64 0) := S8.out.res.cell 9 rfl
  have u10 : W8.cell? ⟨w.heap.size, 10, none⟩ = some (.int .i64 0) := S8.out.res.cell 10 rfl
  have u11 : W8.cell? ⟨w.heap.size, 11, none⟩ = some (.int .i64 0) := S8.out.res.cell 11 rfl
  have p0 : W8.cell? ⟨rb, 0, none⟩ = some (.int .i64 k) := S8.out.sav.cell 0 rfl
  have p1 : W8.cell? ⟨rb, 1, none⟩ = some (.int .i64 m) := S8.out.sav.cell 1 rfl
  have p2 : W8.cell? ⟨rb, 2, none⟩ = some (.int .i64 d) := S8.out.sav.cell 2 rfl
  have p3 : W8.cell? ⟨rb, 3, none⟩ = some (.int .i64 a) := S8.out.sav.cell 3 rfl
  have p4 : W8.cell? ⟨rb, 4, none⟩ = some (.int .i64 b) := S8.out.sav.cell 4 rfl
  have p5 : W8.cell? ⟨rb, 5, none⟩ = some (.int .i64 c) := S8.out.sav.cell 5 rfl
  have p6 : W8.cell? ⟨rb, 6, none⟩ = some (.bool t) := S8.out.sav.cell 6 rfl
  have p7 : W8.cell? ⟨rb, 7, none⟩ = some (.string f) := S8.out.sav.cell 7 rfl
  have p8 : W8.cell? ⟨rb, 8, none⟩ = some (.int .i64 p) := S8.out.sav.cell 8 rfl
  have p9 : W8.cell? ⟨rb, 9, none⟩ = some (.int .i64 y) := S8.out.sav.cell 9 rfl
  have p10 : W8.cell? ⟨rb, 10, none⟩ = some (.int .i64 so) := S8.out.sav.cell 10 rfl
  have p11 : W8.cell? ⟨rb, 11, none⟩ = some (.int .i64 ca) := S8.out.sav.cell 11 rfl
  go_wp2
  exact ret12 S8.out.res S8.out.below (by omega) rfl (fun _ q0 q1 q2 q3 q4 q5 q6 q7 q8 q9 q10 q11 B9 => ⟨by simp [results, Tryz.results28, go_sem, q0, q1, q2, q3, q4, q5, q6, q7, q8, q9, q10, q11]; first | done | rfl | exact ⟨rfl, rfl⟩, rfl, B9⟩)
end Go.Proofs.YtpclaceefapppaaGreatDoor.ctr
