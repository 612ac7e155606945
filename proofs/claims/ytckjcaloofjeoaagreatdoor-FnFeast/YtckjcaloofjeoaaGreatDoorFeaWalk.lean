/- The walk of the law FnFeast: for every []byte it returns true and turns nothing that was there, where the listed tables hold what they list. -/
import Derived.Test.YtckjcaloofjeoaaGreatDoorFeaDraw2
import Derived.Test.YtckjcaloofjeoaaGreatDoorFeaOnImpl
import Derived.Test.YtckjcaloofjeoaaGreatDoorFeaTextImpl
import Derived.Test.YtckjcaloofjeoaaGreatDoorFeaReadSpec
import Derived.Test.YtckjcaloofjeoaaGreatDoorFeaReadImpl
import Derived.Test.YtckjcaloofjeoaaGreatDoorSameCtr
import Derived.Test.YtckjcaloofjeoaaGreatDoorRegSplit
import Derived.Shelf.Abstract
namespace Go.Proofs.YtckjcaloofjeoaaGreatDoor.ctr
open Go.RowKit Go.ChangeShapes Go.Shelf

theorem row_any {W : World} {base : Nat} {v : Value} {xs : List ByteArray} (h : W.ownsRow base 9 1 v xs.length (xs.map Value.string)) : StrRow W v xs := by
  by_cases hx : xs = []
  · subst hx
    rcases h.2 with ⟨rfl, _⟩ | ⟨g, cap, cur, rfl, _⟩
    · exact ⟨none, 0, rfl, .inl rfl⟩
    · exact ⟨_, cap, rfl, .inl rfl⟩
  · obtain ⟨g, cap, rfl, _, _, hs, _⟩ := own_row h hx
    exact hs.row
theorem on_len (c n : Int) : (feastsOn c n).length ≤ 20 := by
  unfold feastsOn
  split
  · exact onTo_len _ _ _ 20 (Nat.le_refl _)
  · simp
theorem below_on {V P w1 : World} (h : Below V.heap.size V P) (hb : Below P.heap.size P w1) : Below V.heap.size V w1 := h.trans (hb.mono h.size)
theorem below_al {V P : World} (h : Below V.heap.size V P) (o : Obj) : Below V.heap.size V (P.alloc o) := h.alloc h.size o
theorem Blk.on {P w1 : World} {b : Nat} {vs : Array Value} {t : TypeId} (h : Blk P b vs t) (hb : Below P.heap.size P w1) : Blk w1 b vs t := h.below hb h.lt

theorem textIn_size (c y n : Int) (mv : Bool) : (textIn c y n mv).size ≤ 100 := by
  have hb := last_b c y n mv 20 (Nat.le_refl _)
  have hle : (lastTo c y n mv 20).1.size ≠ 0 → (lastTo c y n mv 20).2 ≤ n := fun h => by
    rcases last_spec c y n mv 20 (Nat.le_refl _) with e | ⟨i, _, e, _, h'⟩
    · rw [e] at h
      exact absurd rfl h
    · rw [e]
      exact h'
  unfold textIn
  split
  · exact Nat.zero_le _
  · rename_i h
    unfold plusText
    split
    · omega
    · have h3 := itoa_short (k := n - (lastTo c y n mv 20).2) (by have := hle (fun e => h (.inl e)); omega) (by omega)
      rw [ByteArray.size_append, ByteArray.size_append]
      show (lastTo c y n mv 20).1.size + 1 + (itoaB _).size ≤ 100
      omega
/-- What the frame holds while three moves and a call come up. -/
structure GoodA (v vc vd : Value) (a : Act) : Prop where
  t10 : a.tmps[10]? = some v
  t8 : a.tmps[8]? = some vc
  t9 : a.tmps[9]? = some vd
  t93 : a.tmps[93]? = some (.bool false)
  size : a.tmps.size = 178
theorem GoodA.put {v vc vd : Value} {a : Act} (h : GoodA v vc vd a) (x : Tmp) (u : Value) (h1 : x ≠ 10) (h2 : x ≠ 8) (h3 : x ≠ 9) (h4 : x ≠ 93) : GoodA v vc vd (a.put (some x) u) := by
  refine ⟨?_, ?_, ?_, ?_, ?_⟩
  · show (a.tmps.setIfInBounds x u)[10]? = _
    rw [Array.getElem?_setIfInBounds_ne h1]
    exact h.t10
  · show (a.tmps.setIfInBounds x u)[8]? = _
    rw [Array.getElem?_setIfInBounds_ne h2]
    exact h.t8
  · show (a.tmps.setIfInBounds x u)[9]? = _
    rw [Array.getElem?_setIfInBounds_ne h3]
    exact h.t9
  · show (a.tmps.setIfInBounds x u)[93]? = _
    rw [Array.getElem?_setIfInBounds_ne h4]
    exact h.t93
  · show (a.tmps.setIfInBounds x u).size = _
    rw [Array.size_setIfInBounds]
    exact h.size
theorem getD_of {a : Array Value} {i : Nat} {v : Value} (h : a[i]? = some v) : a.getD i undef = v := by
  rw [Array.getD_eq_getD_getElem?, h]
  rfl
theorem GoodA.e10 {v vc vd : Value} {a : Act} (h : GoodA v vc vd a) : a.eval (.tmp 10) = v := getD_of h.t10
theorem GoodA.e8 {v vc vd : Value} {a : Act} (h : GoodA v vc vd a) : a.eval (.tmp 8) = vc := getD_of h.t8
theorem GoodA.e9 {v vc vd : Value} {a : Act} (h : GoodA v vc vd a) : a.eval (.tmp 9) = vd := getD_of h.t9
theorem GoodA.wanted {v vc vd : Value} {a : Act} (h : GoodA v vc vd a) {ops : Array Oper} {o : Oper} (hg : o.guard = some (13, false)) (hd : (ops[13]?).bind (·.dst) = some 93) : Region.wanted o (yielded ops a.tmps) = true := by
  unfold Region.wanted
  rw [hg]
  unfold yielded
  simp only [hd, Option.bind_some, h.t93]
  rfl
theorem GoodA.args {v vc vd : Value} {a : Act} (h : GoodA v vc vd a) (u u' : Value) : (#[.tmp 95, .tmp 96] : Array Operand).map ((a.put (some 95) u).put (some 96) u').eval = #[u, u'] := by
  have h1 : ((a.put (some 95) u).put (some 96) u').eval (.tmp 95) = u := getD_of (by
    show ((a.tmps.setIfInBounds 95 u).setIfInBounds 96 u')[95]? = _
    rw [Array.getElem?_setIfInBounds_ne (by decide)]
    simp [h.size])
  have h2 : ((a.put (some 95) u).put (some 96) u').eval (.tmp 96) = u' := getD_of (by
    show ((a.tmps.setIfInBounds 95 u).setIfInBounds 96 u')[96]? = _
    simp [h.size])
  simp [h1, h2]

set_option maxRecDepth 100000 in
set_option maxHeartbeats 20000000 in
theorem feastWalk (a0 : Option Addr) (len0 cap0 : Nat) (z0 : List Int) (w : World) (w0 : kit.IsRow .u8 w a0 len0 cap0 z0) (t0 : Tab w) (p0 : Pow w) :
    Calls Tryz.prog 3 #[.slice a0 len0 cap0] w fun e w' => e = .returned (.bool true) ∧ Below w.heap.size w w' := by
  obtain ⟨hcode, hlen⟩ := code_of w0
  have HT : Hid (∀ W', Below w.heap.size w W' → Tab W') := fun W' hb => t0.later hb
  have HP : Hid (∀ W', Below w.heap.size w W' → Pow W') := fun W' hb => pow_later p0 hb
  have KC : Hid (∀ W', Below w.heap.size w W' → CodeAt W'.heap.size W' a0 len0) := fun W' hb => CodeAt.up hcode hb
  clear t0 p0 hcode w0
  by_cases hbig : (1048576 : Int) < (len0 : Int)
  · have hbd : decide ((1048576 : Int) < (len0 : Int)) = true := by simp; omega
    go_enter Tryz.func3, Tryz.ntmps3
    go_wp2_with fail
    refine (big_ _ _ _ _).mono ?_
    rintro e w' ⟨rfl, rfl⟩
    go_wp2_with fail
    go_ret
    exact ⟨rfl, Below.refl _ _⟩
  have hbd : decide ((1048576 : Int) < (len0 : Int)) = false := by simp; omega
  go_enter Tryz.func3, Tryz.ntmps3
  go_wp2_with fail
  refine (big_ _ _ _ _).mono ?_
  rintro e w' ⟨rfl, hw'⟩
  rw [hw']
  clear hw' w'
  go_wp2_with fail
  refine (drawFeastOk _ a0 len0 cap0 hlen (KC.out _ (Below.refl _ _))).mono ?_
  rintro e W1 ⟨s1, m1, o1, k1, d1, rfl, hs1, hb⟩
  have B1 := hideP (below_al hb (.cells #[.string s1, .bool m1, .int .i64 o1, .int .i64 k1, .int .i64 d1] 25))
  have X1 : Hid (Blk (W1.alloc (.cells #[.string s1, .bool m1, .int .i64 o1, .int .i64 k1, .int .i64 d1] 25)) W1.heap.size #[.string s1, .bool m1, .int .i64 o1, .int .i64 k1, .int .i64 d1] 25) := Blk.new W1 _ _
  clear hb
  go_wp2_with fail
  refine (drawFeastDay _ a0 len0 cap0 hlen (KC.out _ B1.out)).mono ?_
  rintro e W2 ⟨a, b, s2, m2, o2, k2, d2, rfl, hs2, hb⟩
  have X2 := hideP (X1.out.on hb)
  have B2 := hideP (below_al (below_on B1.out hb) (.cells #[.string s2, .bool m2, .int .i64 o2, .int .i64 k2, .int .i64 d2] 25))
  have Y2 : Hid (Blk (W2.alloc (.cells #[.string s2, .bool m2, .int .i64 o2, .int .i64 k2, .int .i64 d2] 25)) W2.heap.size #[.string s2, .bool m2, .int .i64 o2, .int .i64 k2, .int .i64 d2] 25) := Blk.new W2 _ _
  clear hb X1 B1
  obtain ⟨n, hn⟩ : ∃ n, n = feaDay a b s2 m2 o2 k2 d2 := ⟨_, rfl⟩
  have HN := hideP hn
  have KN := implFeaDay a b s2 m2 o2 k2 d2 _ (by unfold maxLen; omega) (HT.out _ B2.out)
  rw [← hn] at KN
  clear hn
  go_wp2_with fail
  refine KN.mono ?_
  rintro e W3 ⟨rfl, hb⟩
  have B3 := hideP (below_on B2.out hb)
  have X3 := hideP ((X2.out.alloc (.cells #[.string s2, .bool m2, .int .i64 o2, .int .i64 k2, .int .i64 d2] 25)).on hb)
  have Y3 := hideP (Y2.out.on hb)
  clear hb KN X2 Y2 B2
  go_wp2_with fail
  refine (drawFeastsOn _ a0 len0 cap0 hlen (KC.out _ B3.out)).mono ?_
  rintro e W4 ⟨c, d, rfl, hb⟩
  have B4 := hideP (below_on B3.out hb)
  have X4 := hideP (X3.out.on hb)
  have Y4 := hideP (Y3.out.on hb)
  clear hb X3 Y3 B3
  obtain ⟨xs, hxs⟩ : ∃ xs, xs = feastsOn c d := ⟨_, rfl⟩
  have hxl := on_len c d
  rw [← hxs] at hxl
  have HXS := hideP hxs
  have KL := implFeastsOn c d _ (HT.out _ B4.out)
  rw [← hxs] at KL
  clear hxs
  go_wp2_with fail
  refine KL.mono ?_
  rintro e W5 ⟨v, rfl, hr, hb⟩
  have R5 := hideP hr
  have B5 := hideP (below_on B4.out hb)
  have X5 := hideP (X4.out.on hb)
  have Y5 := hideP (Y4.out.on hb)
  clear hb hr X4 Y4 B4 KL
  go_wp2_with fail
  refine (drawFindFeast _ a0 len0 cap0 hlen (KC.out _ B5.out)).mono ?_
  rintro e W6 ⟨g, rfl, hgs, hb⟩
  have R6 := hideP (own_later R5.out hb)
  have B6 := hideP (below_on B5.out hb)
  have X6 := hideP (X5.out.on hb)
  have Y6 := hideP (Y5.out.on hb)
  clear hb X5 Y5 B5 R5
  go_wp2_with fail
  refine (drawFeastText _ a0 len0 cap0 hlen (KC.out _ B6.out)).mono ?_
  rintro e W7 ⟨e7, h7, mv7, rfl, hb⟩
  have R7 := hideP (own_later R6.out hb)
  have B7 := hideP (below_on B6.out hb)
  have X7 := hideP (X6.out.on hb)
  have Y7 := hideP (Y6.out.on hb)
  clear hb X6 Y6 B6 R6
  obtain ⟨st, hst⟩ : ∃ st, st = feastText e7 h7 mv7 := ⟨_, rfl⟩
  have HST := hideP hst
  have KS := implFeastText e7 h7 mv7 _ (HT.out _ B7.out) (HP.out _ B7.out)
  rw [← hst] at KS
  clear hst
  go_wp2_with fail
  refine KS.mono ?_
  rintro e W8 ⟨rfl, hb⟩
  have R8 := hideP (own_later R7.out hb)
  have B8 := hideP (below_on B7.out hb)
  have X8 := hideP (X7.out.on hb)
  have Y8 := hideP (Y7.out.on hb)
  clear hb X7 Y7 B7 R7 KS
  go_wp2_with fail
  refine (drawReadFeast _ a0 len0 cap0 hlen (KC.out _ B8.out)).mono ?_
  rintro e W9 ⟨u, rfl, hus, hb⟩
  have R9 := hideP (own_later R8.out hb)
  have B9 := hideP (below_on B8.out hb)
  have X9 := hideP (X8.out.on hb)
  have Y9 := hideP (Y8.out.on hb)
  clear hb X8 Y8 B8 R8
  obtain ⟨i, k, hik⟩ : ∃ i k, readFeast u = (i, k) := ⟨_, _, rfl⟩
  have KI := implRead u _ (by omega) (HP.out _ B9.out)
  have KJ := fun W => specRead u W (by omega)
  rw [hik] at KI KJ
  simp only at KI KJ
  clear hik
  go_wp2_with fail
  refine KI.mono ?_
  rintro e W10 ⟨rfl, hb⟩
  have R10 := hideP (own_later R9.out hb)
  have B10 := hideP (below_on B9.out hb)
  have X10 := hideP (X9.out.on hb)
  have Y10 := hideP (Y9.out.on hb)
  clear hb X9 Y9 B9 R9 KI
  go_wp2_with fail
  refine (KJ _).mono ?_
  rintro e W11 ⟨rfl, hb⟩
  have R11 := hideP (own_later R10.out hb)
  have B11 := hideP (below_on B10.out hb)
  have X11 := hideP (X10.out.on hb)
  have Y11 := hideP (Y10.out.on hb)
  clear hb X10 Y10 B10 R10 KJ
  go_wp2_with fail
  refine (drawFeastPlus _ a0 len0 cap0 hlen (KC.out _ B11.out)).mono ?_
  rintro e W0 ⟨p, q, t, rfl, hts, hb⟩
  have R := hideP (own_later R11.out hb)
  have B := hideP (below_on B11.out hb)
  have X := hideP (X11.out.on hb)
  have Y := hideP (Y11.out.on hb)
  clear hb X11 Y11 B11 R11 KC
  have u0 : ∀ x : Later W0, x.w.cell? ⟨W1.heap.size, 0, none⟩ = some (.string s1) := fun x => (X.out.later x).cell 0 rfl
  have u1 : ∀ x : Later W0, x.w.cell? ⟨W1.heap.size, 1, none⟩ = some (.bool m1) := fun x => (X.out.later x).cell 1 rfl
  have u2 : ∀ x : Later W0, x.w.cell? ⟨W1.heap.size, 2, none⟩ = some (.int .i64 o1) := fun x => (X.out.later x).cell 2 rfl
  have u3 : ∀ x : Later W0, x.w.cell? ⟨W1.heap.size, 3, none⟩ = some (.int .i64 k1) := fun x => (X.out.later x).cell 3 rfl
  have u4 : ∀ x : Later W0, x.w.cell? ⟨W1.heap.size, 4, none⟩ = some (.int .i64 d1) := fun x => (X.out.later x).cell 4 rfl
  have f0 : ∀ x : Later W0, x.w.cell? ⟨W2.heap.size, 0, none⟩ = some (.string s2) := fun x => (Y.out.later x).cell 0 rfl
  have f1 : ∀ x : Later W0, x.w.cell? ⟨W2.heap.size, 1, none⟩ = some (.bool m2) := fun x => (Y.out.later x).cell 1 rfl
  have f2 : ∀ x : Later W0, x.w.cell? ⟨W2.heap.size, 2, none⟩ = some (.int .i64 o2) := fun x => (Y.out.later x).cell 2 rfl
  have f3 : ∀ x : Later W0, x.w.cell? ⟨W2.heap.size, 3, none⟩ = some (.int .i64 k2) := fun x => (Y.out.later x).cell 3 rfl
  have f4 : ∀ x : Later W0, x.w.cell? ⟨W2.heap.size, 4, none⟩ = some (.int .i64 d2) := fun x => (Y.out.later x).cell 4 rfl
  have BX : Hid (∀ x : Later W0, Below w.heap.size w x.w) := fun x => below_on B.out x.below
  have KT : ∀ x : Later W0, Tab x.w := fun x => HT.out _ (BX.out x)
  have KP : ∀ x : Later W0, Pow x.w := fun x => HP.out _ (BX.out x)
  have K1 : ∀ x : Later W0, Calls Tryz.prog 17 #[.agg #[.string s1, .bool m1, .int .i64 o1, .int .i64 k1, .int .i64 d1]] x.w fun e w' => e = .returned (.bool (feaOk s1 m1 o1 k1 d1)) ∧ Below x.w.heap.size x.w w' := fun x => implFeaOk s1 m1 o1 k1 d1 x.w (by unfold maxLen; omega) (KT x)
  have K2 : ∀ x : Later W0, Calls Tryz.prog 18 #[.agg #[.string s1, .bool m1, .int .i64 o1, .int .i64 k1, .int .i64 d1]] x.w fun e w' => e = .returned (.bool (feaOk s1 m1 o1 k1 d1)) ∧ Below x.w.heap.size x.w w' := fun x => specFeaOk s1 m1 o1 k1 d1 x.w (by unfold maxLen; omega)
  have K3 : ∀ x : Later W0, Calls Tryz.prog 19 #[.int .i64 a, .int .i64 b, .agg #[.string s2, .bool m2, .int .i64 o2, .int .i64 k2, .int .i64 d2]] x.w fun e w' => e = .returned (.int .i64 n) ∧ Below x.w.heap.size x.w w' := fun x => by rw [HN.out]; exact specFeaDay a b s2 m2 o2 k2 d2 x.w (by unfold maxLen; omega)
  have K4 : ∀ x : Later W0, Calls Tryz.prog 21 #[.int .i64 c, .int .i64 d] x.w fun e w' => ∃ v', e = .returned v' ∧ w'.ownsRow x.w.heap.size 9 1 v' xs.length (xs.map Value.string) ∧ Below x.w.heap.size x.w w' := fun x => by rw [HXS.out]; exact specFeastsOn c d x.w
  have K5 : ∀ (x : Later W0) (v' : Value), StrRow x.w v' xs → Calls Tryz.prog 20 #[v, v'] x.w fun e w' => e = .returned (.bool true) ∧ Below x.w.heap.size x.w w' := fun x v' h => sameTexts v v' xs x.w (by omega) (row_any (own_later R.out x.below)) h
  have K6 : ∀ x : Later W0, Calls Tryz.prog 22 #[.string g] x.w fun e w' => e = .returned (.int .i64 (findFeast g)) ∧ Below x.w.heap.size x.w w' := fun x => implFind g x.w
  have K7 : ∀ x : Later W0, Calls Tryz.prog 23 #[.string g] x.w fun e w' => e = .returned (.int .i64 (findFeast g)) ∧ Below x.w.heap.size x.w w' := fun x => specFind g x.w
  have K8 : ∀ x : Later W0, Calls Tryz.prog 24 #[.int .i64 e7, .int .i64 h7, .bool mv7] x.w fun e w' => e = .returned (.string st) ∧ Below x.w.heap.size x.w w' := fun x => by rw [HST.out]; exact specFeastText e7 h7 mv7 x.w
  have K9 : ∀ x : Later W0, Calls Tryz.prog 25 #[.int .i64 p, .int .i64 q, .string t] x.w fun e w' => e = .returned (.int .i64 (feastPlus p q t)) ∧ Below x.w.heap.size x.w w' := fun x => implPlusDay p q t x.w (by omega) (KT x) (KP x)
  have K10 : ∀ x : Later W0, Calls Tryz.prog 26 #[.int .i64 p, .int .i64 q, .string t] x.w fun e w' => e = .returned (.int .i64 (feastPlus p q t)) ∧ Below x.w.heap.size x.w w' := fun x => specPlus p q t x.w (by omega)
  have HKT := hideP KT
  have HKP := hideP KP
  clear KT KP HT HP HN HXS R B X Y
  generalize feaOk s1 m1 o1 k1 d1 = r1 at *
  generalize findFeast g = r6 at *
  generalize feastPlus p q t = r9 at *
  obtain ⟨x0, hx0⟩ := Later.of (Below.refl W0.heap.size W0).drew
  go_wp2_with fail
  refine wp_region_any (by kernel_rfl) ?_
  change wpAny _ _ _ _ (43 + 14) _ _ _
  refine any_prefix (C := fun w' => ∃ x : Later W0, w' = x.w) 14 43 (by decide) (by kernel_rfl) (by kernel_rfl) (by kernel_rfl) (by kernel_rfl) (by kernel_rfl) ⟨x0, hx0⟩ ?_
  simp only [List.take_succ_cons, List.take_zero]
  clear hx0 x0
  repeat (go_big_quiet_step (first | (go_at_call 17; exact calls_later (K1 _)) | (go_at_call 18; exact calls_later (K2 _)) | (go_at_call 19; exact calls_later (K3 _))))
  refine wpQuiet_nil ?_
  intro _ hw'
  obtain ⟨x3, rfl⟩ := hw'
  clear K1 K2 K3 u0 u1 u2 u3 u4 f0 f1 f2 f3 f4
  change wpAny _ _ _ _ (39 + 4) _ _ _
  refine any_call (i := 14) (j := 15) (k := 16) (m := 17) (x := 94) (y := 95) (z := 96) (t := 97) (vx := v) (vy := .int .i64 c) (vz := .int .i64 d) (T := fun u w' => w'.ownsRow x3.w.heap.size 9 1 u xs.length (xs.map Value.string) ∧ Below x3.w.heap.size x3.w w') (GoodA v (.int .i64 c) (.int .i64 d))
    (by decide) (by decide) (by decide) (by decide) (by decide) (by decide) (by decide) (by decide)
    (by kernel_rfl) (by kernel_rfl) (by kernel_rfl) (by kernel_rfl) (by kernel_rfl) (by kernel_rfl) (by kernel_rfl) (by kernel_rfl) (by kernel_rfl)
    ⟨rfl, rfl, rfl, rfl, rfl⟩ (fun a' v h => h.put 94 v (by decide) (by decide) (by decide) (by decide)) (fun a' v h => h.put 95 v (by decide) (by decide) (by decide) (by decide)) (fun a' v h => h.put 96 v (by decide) (by decide) (by decide) (by decide)) (fun a' v h => h.put 97 v (by decide) (by decide) (by decide) (by decide))
    (fun a' w' K h hk => op_move rfl rfl rfl (h.wanted rfl rfl) h.e10 hk) (fun a' w' K h hk => op_move rfl rfl rfl (h.wanted rfl rfl) h.e8 hk) (fun a' w' K h hk => op_move rfl rfl rfl (h.wanted rfl rfl) h.e9 hk)
    (fun a' K h hk => op_call (args := #[.int .i64 c, .int .i64 d]) rfl rfl rfl (((h.put 95 _ (by decide) (by decide) (by decide) (by decide)).put 96 _ (by decide) (by decide) (by decide) (by decide)).wanted rfl rfl) (h.args _ _) (enters_of Tryz.func21 (by kernel_rfl) rfl) ((K4 x3).mono fun e w' ⟨v', he, hr, hb⟩ => ⟨v', he, hr, hb⟩) hk) ?_
  rintro v' w4 ⟨hrow, hb4⟩
  have HROW := hideP hrow
  have LIFT : Hid (∀ y : Later w4, ∃ x : Later W0, y.w = x.w) := fun y => ⟨⟨y.w, below_on (below_on x3.below hb4) y.below⟩, rfl⟩
  clear hrow hb4 K4
  have J5 : ∀ y : Later w4, Calls Tryz.prog 20 #[v, v'] y.w fun e w' => e = .returned (.bool true) ∧ Below y.w.heap.size y.w w' := fun y => by
    have hr := row_any (own_later HROW.out y.below)
    obtain ⟨x, hx⟩ := LIFT.out y
    rw [hx] at hr ⊢
    exact K5 x v' hr
  have J6 : ∀ y : Later w4, Calls Tryz.prog 22 #[.string g] y.w fun e w' => e = .returned (.int .i64 r6) ∧ Below y.w.heap.size y.w w' := fun y => by obtain ⟨x, hx⟩ := LIFT.out y; rw [hx]; exact K6 x
  have J7 : ∀ y : Later w4, Calls Tryz.prog 23 #[.string g] y.w fun e w' => e = .returned (.int .i64 r6) ∧ Below y.w.heap.size y.w w' := fun y => by obtain ⟨x, hx⟩ := LIFT.out y; rw [hx]; exact K7 x
  have J8 : ∀ y : Later w4, Calls Tryz.prog 24 #[.int .i64 e7, .int .i64 h7, .bool mv7] y.w fun e w' => e = .returned (.string st) ∧ Below y.w.heap.size y.w w' := fun y => by obtain ⟨x, hx⟩ := LIFT.out y; rw [hx]; exact K8 x
  have J9 : ∀ y : Later w4, Calls Tryz.prog 25 #[.int .i64 p, .int .i64 q, .string t] y.w fun e w' => e = .returned (.int .i64 r9) ∧ Below y.w.heap.size y.w w' := fun y => by obtain ⟨x, hx⟩ := LIFT.out y; rw [hx]; exact K9 x
  have J10 : ∀ y : Later w4, Calls Tryz.prog 26 #[.int .i64 p, .int .i64 q, .string t] y.w fun e w' => e = .returned (.int .i64 r9) ∧ Below y.w.heap.size y.w w' := fun y => by obtain ⟨x, hx⟩ := LIFT.out y; rw [hx]; exact K10 x
  clear K5 K6 K7 K8 K9 K10 HROW
  simp only [Act.put, List.setIfInBounds_toArray, List.set_cons_succ, List.set_cons_zero]
  refine any_rest (C := fun w' => ∃ y : Later w4, w' = y.w) 18 39 (by decide) (by kernel_rfl) (by kernel_rfl) ⟨⟨w4, Below.refl _ _⟩, rfl⟩ ?_
  simp only [List.drop_succ_cons, List.drop_zero]
  repeat (go_big_quiet_step (first | (go_at_call 20; exact calls_later (J5 _)) | (go_at_call 22; exact calls_later (J6 _)) | (go_at_call 23; exact calls_later (J7 _)) | (go_at_call 24; exact calls_later (J8 _)) | (go_at_call 25; exact calls_later (J9 _)) | (go_at_call 26; exact calls_later (J10 _))))
  refine wpQuiet_nil ?_
  intro _ hw'
  obtain ⟨y5, rfl⟩ := hw'
  obtain ⟨x5, hx5⟩ := LIFT.out y5
  rw [hx5]
  clear hx5 y5 J5 J6 J7 J8 J9 J10 LIFT x3 w4
  go_wp2_with fail
  refine (implFeasts _).mono ?_
  rintro e W17 ⟨vf, rfl, hr, hb⟩
  obtain ⟨gf, cf, cur, rfl, hgf, hf⟩ := hr.blk
  obtain ⟨x6, rfl⟩ := x5.next hb
  have HF := hideP hf
  have LF : Hid (∀ y : Later x6.w, ∃ x : Later W0, y.w = x.w) := fun y => ⟨⟨y.w, below_on x6.below y.below⟩, rfl⟩
  clear hr hb hf hgf x5
  go_wp2_with fail
  go_loopw [25] (fun i wr => ∃ k : Nat, k ≤ 20 ∧ i = .int .i64 (k : Int) ∧ ∃ y : Later x6.w, wr = y.w) (fun i _ => 20 - (intOf i).toNat)
  case atStart => exact ⟨0, Nat.zero_le _, rfl, ⟨x6.w, Below.refl _ _⟩, rfl⟩
  case round =>
    obtain ⟨k, hk, rfl, y1, rfl⟩ := hrel
    by_cases hlt : k < 20
    · have c0 : ∀ y : Later x6.w, y.w.cell? ⟨gf, k * 5, none⟩ = some (.string (feaAt k).name) := fun y => ((HF.out.below y.below).at hlt).1
      have c1 : ∀ y : Later x6.w, y.w.cell? ⟨gf, k * 5 + 1, none⟩ = some (.bool (feaAt k).mv) := fun y => ((HF.out.below y.below).at hlt).2.1
      have c2 : ∀ y : Later x6.w, y.w.cell? ⟨gf, k * 5 + 2, none⟩ = some (.int .i64 (feaAt k).off) := fun y => ((HF.out.below y.below).at hlt).2.2.1
      have c3 : ∀ y : Later x6.w, y.w.cell? ⟨gf, k * 5 + 3, none⟩ = some (.int .i64 (feaAt k).m) := fun y => ((HF.out.below y.below).at hlt).2.2.2.1
      have c4 : ∀ y : Later x6.w, y.w.cell? ⟨gf, k * 5 + 4, none⟩ = some (.int .i64 (feaAt k).d) := fun y => ((HF.out.below y.below).at hlt).2.2.2.2
      have hsz := feaAt_size0 ⟨k, hlt⟩
      have hok := feaAt_ok ⟨k, hlt⟩
      have hfd := feaAt_find ⟨k, hlt⟩
      dsimp only at hsz hok hfd
      unfold Fea.ok at hok
      generalize feaAt k = f at *
      obtain ⟨s, fm, o, m, dd⟩ := f
      dsimp only at c0 c1 c2 c3 c4 hsz hok hfd
      have KO : Calls Tryz.prog 17 #[.agg #[.string s, .bool fm, .int .i64 o, .int .i64 m, .int .i64 dd]] y1.w fun e w' => e = .returned (.bool true) ∧ Below y1.w.heap.size y1.w w' := by
        have ht : Tab y1.w := by obtain ⟨x, hx⟩ := LF.out y1; rw [hx]; exact HKT.out x
        have h := implFeaOk s fm o m dd y1.w (by unfold maxLen; omega) ht
        rw [hok] at h
        exact h
      have KG : ∀ y : Later x6.w, Calls Tryz.prog 22 #[.string s] y.w fun e w' => e = .returned (.int .i64 (k : Int)) ∧ Below y.w.heap.size y.w w' := fun y => by
        have h := implFind s y.w
        rw [hfd] at h
        exact h
      clear hok hfd
      go_wp2_with fail
      refine KO.mono ?_
      rintro e w1 ⟨rfl, hb⟩
      obtain ⟨y2, rfl⟩ := y1.next hb
      clear hb
      go_wp2_with fail
      refine (KG _).mono ?_
      rintro e w1 ⟨rfl, hb⟩
      obtain ⟨y3, rfl⟩ := y2.next hb
      clear hb
      go_wp2_with fail
      exact ⟨⟨k + 1, by omega, by go_num, y3, rfl⟩, by simp [intOf]; omega⟩
    · have hkn : k = 20 := by omega
      subst hkn
      have BY : Hid (∀ y : Later x6.w, Below w.heap.size w y.w) := fun y => by obtain ⟨x, hx⟩ := LF.out y; rw [hx]; exact BX.out x
      by_cases h0 : st.size = 0
      · have h0' := empty_yes h0
        go_wp2_with fail
        go_ret
        exact ⟨rfl, BY.out y1⟩
      have h0' := empty_no h0
      have ht1 : Tab y1.w := by obtain ⟨x, hx⟩ := LF.out y1; rw [hx]; exact HKT.out x
      have KT2 : Hid (∀ y : Later x6.w, Tab y.w ∧ Pow y.w) := fun y => by obtain ⟨x, hx⟩ := LF.out y; rw [hx]; exact ⟨HKT.out x, HKP.out x⟩
      have KD := implDateOf e7 h7 y1.w ht1
      obtain ⟨ya, yy, ym, yd, ok, hD, hR⟩ := dateR_parts e7 h7
      have hE : st = if ok = true then textIn e7 yy h7 mv7 else ⟨#[]⟩ := by rw [HST.out, feastText, hD]
      have hok : ok = true := by
        cases ok
        · rw [hE] at h0
          exact absurd rfl h0
        · rfl
      have hy := (date_range hD hok).1
      subst hok
      have hE2 : st = textIn e7 yy h7 mv7 := hE
      have hsz : st.size ≤ 100 := by rw [hE2]; exact textIn_size e7 yy h7 mv7
      have KQ : ∀ y : Later x6.w, Calls Tryz.prog 25 #[.int .i64 e7, .int .i64 yy, .string st] y.w fun e w' => e = .returned (.int .i64 h7) ∧ Below y.w.heap.size y.w w' := fun y => by
        have h := implPlusDay e7 yy st y.w (by omega) (KT2.out y).1 (KT2.out y).2
        rw [show feastPlus e7 yy st = h7 by rw [hE2]; exact text_back e7 yy h7 mv7 hy (by rw [← hE2]; exact h0)] at h
        exact h
      rw [hR] at KD
      clear hD hR hE hE2 hy ht1 HKT HKP HST h0
      go_wp2_with fail
      refine KD.mono ?_
      rintro e w1 ⟨rfl, hb⟩
      obtain ⟨y2, rfl⟩ := y1.next hb
      clear hb
      have q1 : (y2.w.alloc (.cells #[.int .i64 ya, .int .i64 yy, .int .i64 ym, .int .i64 yd] 48)).cell? ⟨y2.w.heap.size, 1, none⟩ = some (.int .i64 yy) := (date_blk y2.w ya yy ym yd).cell 1 rfl
      go_wp2_with fail
      refine (show Calls Tryz.prog 25 #[.int .i64 e7, .int .i64 yy, .string st] (y2.w.alloc (.cells #[.int .i64 ya, .int .i64 yy, .int .i64 ym, .int .i64 yd] 48)) (fun e w' => e = .returned (.int .i64 h7) ∧ Below y2.w.heap.size y2.w w') from (KQ ⟨_, y2.below.alloc y2.below.size _⟩).mono fun e w' ⟨h1, h2⟩ => ⟨h1, below_alloc h2⟩).mono ?_
      rintro e w1 ⟨rfl, hb⟩
      obtain ⟨y3, rfl⟩ := y2.next hb
      clear hb
      go_wp2_with fail
      go_ret
      exact ⟨rfl, BY.out y3⟩
end Go.Proofs.YtckjcaloofjeoaaGreatDoor.ctr
