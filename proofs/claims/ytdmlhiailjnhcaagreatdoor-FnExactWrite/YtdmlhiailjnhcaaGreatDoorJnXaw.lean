/- Contracts of the program's isBehind, reignNamed, checkReigns and ReignsOk: each answers its plain function, wh; and what else the law reaches. -/
import Derived.Test.YtdmlhiailjnhcaaGreatDoorJnXao
import Derived.Test.YtdmlhiailjnhcaaGreatDoorJnXag
import Derived.Test.YtdmlhiailjnhcaaGreatDoorJnXar
import Derived.Test.YtdmlhiailjnhcaaGreatDoorJnXaq
namespace Go.Proofs.YtdmlhiailjnhcaaGreatDoor.ctr
open Go.RowKit
def behB (la : List Rgn) (f : Int) : Bool := decide (la.length = 0) || decide ((rgA la (la.length - 1)).to < f)
def namedR (l : List Rgn) (s : ByteArray) : Int := rfind (isNamed s) l
noncomputable def okAt (l : List Rgn) (i : Nat) : Bool := rgnB (rgA l i) && (behB (l.take i) (rgA l i).fr && decide (namedR (l.take i) (rgA l i).name = -1))
noncomputable def okTo (l : List Rgn) : Nat → Bool
  | 0 => true
  | k + 1 => okTo l k && okAt l k
noncomputable def reignsOk (l : List Rgn) : Bool := decide (l.length ≤ 30) && okTo l l.length
theorem okTo_bad {l : List Rgn} {k : Nat} (h : okAt l k = false) : ∀ n, k < n → okTo l n = false
  | 0, hn => by omega
  | n + 1, hn => by
   unfold okTo
   by_cases e : k = n
   · subst e; rw [h, Bool.and_false]
   · rw [okTo_bad h n (by omega), Bool.false_and]
theorem okTo_next {l : List Rgn} {k : Nat} (h : okTo l k = true) (h' : okAt l k = true) : okTo l (k + 1) = true := by unfold okTo; rw [h, h']; rfl
theorem ok_bad {l : List Rgn} {k : Nat} (h : okAt l k = false) (hk : k < l.length) : reignsOk l = false := by unfold reignsOk; rw [okTo_bad h _ hk, Bool.and_false]
theorem ok_long {l : List Rgn} (h : 30 < l.length) : reignsOk l = false := by unfold reignsOk; rw [decide_eq_false (by omega), Bool.false_and]
theorem ok_all {l : List Rgn} (h : okTo l l.length = true) : reignsOk l = decide (l.length ≤ 30) := by unfold reignsOk; rw [h, Bool.and_true]
noncomputable def badV (l : List Rgn) : Nat → Nat → Value
  | 0, _ => .nilIface
  | n + 1, k => if okAt l k = true then badV l n (k + 1) else .iface 225 (.agg #[.int .i64 (k : Int)])
noncomputable def errV (l : List Rgn) : Value := if 30 < l.length then .iface 225 (.agg #[.int .i64 30]) else badV l l.length 0
theorem bad_next {l : List Rgn} {k : Nat} {V : Value} (hk : k < l.length) (h : okAt l k = true) (H : badV l (l.length - k) k = V) : badV l (l.length - (k + 1)) (k + 1) = V := by
 rw [show l.length - k = (l.length - (k + 1)) + 1 by omega, badV, if_pos h] at H
 exact H
theorem bad_stop {l : List Rgn} {k : Nat} {V : Value} (hk : k < l.length) (h : okAt l k = false) (H : badV l (l.length - k) k = V) : V = .iface 225 (.agg #[.int .i64 (k : Int)]) := by
 rw [show l.length - k = (l.length - (k + 1)) + 1 by omega, badV, if_neg (by rw [h]; simp)] at H
 exact H.symm
theorem bad_end {l : List Rgn} {k : Nat} {V : Value} (hk : l.length ≤ k) (H : badV l (l.length - k) k = V) : V = .nilIface := by
 rw [show l.length - k = 0 by omega] at H
 exact H.symm
theorem errV_cases (l : List Rgn) : (reignsOk l = true ∧ errV l = .nilIface) ∨ (reignsOk l = false ∧ ∃ z : Int, errV l = .iface 225 (.agg #[.int .i64 z])) := by
 unfold errV
 by_cases hl : 30 < l.length
 · rw [if_pos hl]
   exact .inr ⟨ok_long hl, _, rfl⟩
 rw [if_neg hl]
 have go : ∀ n k, n + k = l.length → okTo l k = true → (reignsOk l = true ∧ badV l (l.length - k) k = .nilIface) ∨ (reignsOk l = false ∧ ∃ z : Int, badV l (l.length - k) k = .iface 225 (.agg #[.int .i64 z])) := by
  intro n
  induction n with
  | zero =>
   intro k hk ho
   obtain rfl : k = l.length := by omega
   refine .inl ⟨?_, bad_end (Nat.le_refl _) rfl⟩
   rw [ok_all ho]
   exact decide_eq_true (by omega)
  | succ n ih =>
   intro k hk ho
   cases h : okAt l k
   · exact .inr ⟨ok_bad h (by omega), _, bad_stop (by omega) h rfl⟩
   · have := ih (k + 1) (by omega) (okTo_next ho h)
     rw [bad_next (by omega) h rfl] at this
     exact this
 exact go l.length 0 (by omega) rfl
theorem behB_take {l : List Rgn} {i : Nat} (hi : i ≤ l.length) (f : Int) : behB (l.take i) f = (decide (i = 0) || decide ((rgA l (i - 1)).to < f)) := by
 unfold behB
 rw [show (l.take i).length = i by simp [hi]]
 by_cases h : i = 0
 · subst h; rfl
 · rw [rgA_take (by omega)]
set_option maxHeartbeats 1000000 in
theorem implBehind (v : Value) (la : List Rgn) (s : ByteArray) (f t : Int) (w : World) (h : RRow w v la) : CR 206 #[v, .agg #[.string s, .int .i64 f, .int .i64 t]] w (.bool (behB la f)) := by
 obtain ⟨W0, hW0, c0, c1, c2, hBl⟩ := rgn_box w s f t 116
 obtain ⟨a, cap, rfl, hl, hm, _, H⟩ := h
 have HW0 := hideP hW0
 have HBl := hideP hBl
 unfold maxLen at hm
 by_cases hz : la.length = 0
 focus
   have HR : Hid (behB la f = true) := by unfold Hid behB; rw [decide_eq_true hz]; rfl
   clear H hW0 hBl
   rw [hz]
 rotate_left
 focus
   obtain ⟨N, hN⟩ : ∃ N, la.length = N + 1 := ⟨la.length - 1, by omega⟩
   obtain ⟨g, rfl, hg, hr⟩ := H N (by omega)
   have e2 : ∀ x : Later W0, x.w.cell? ⟨g, N * 3 + 2, none⟩ = some (.int .i64 (rgA la N).to) := fun x => (hr.below (hBl x) hg).2.2
   have HR : Hid (behB la f = decide ((rgA la N).to < f)) := by unfold Hid behB; rw [decide_eq_false hz, hN]; rfl
   clear H hW0 hBl hr
   rw [hN] at hl ⊢
   generalize (rgA la N).to = T at *
   have hz1 : ((N : Int) + 1 == 0) = false := by simp; omega
   clear hN hz
 rotate_left
 all_goals
  go_enter Tryz.func206, Tryz.ntmps206
  go_wp2_with fail
  rw [← HW0.out]
  refine wp_region_later (W := W0) (Below.refl _ _) (by kernel_rfl) (by kernel_rfl) ?_
  repeat (go_big_quiet_step (fail))
  refine wpQuiet_nil ?_
  intro _ hw'
  obtain ⟨x, rfl⟩ := hw'
  go_wp2
  go_ret
  exact ⟨ret_bool HR.out.symm, HBl.out x⟩
set_option maxHeartbeats 1000000 in
theorem implNamed (v : Value) (l : List Rgn) (s : ByteArray) (w : World) (h : RRow w v l) : CR 207 #[v, .string s] w (.int .i64 (namedR l s)) := by
 obtain ⟨a, c, rfl, hl, hm, _, H⟩ := h
 have K := hideP H
 unfold maxLen at hm
 clear H
 go_enter Tryz.func207, Tryz.ntmps207
 go_wp2
 go_loopw [9] (fun i wr => ∃ k : Nat, k ≤ l.length ∧ i = .int .i64 (k : Int) ∧ Hid (rfFrom (isNamed s) (l.drop k) k = namedR l s) ∧ Below w.heap.size w wr) (fun i _ => l.length - (intOf i).toNat)
 case atStart => exact ⟨0, Nat.zero_le _, rfl, rfl, Below.refl _ _⟩
 case round =>
  obtain ⟨k, hk, rfl, HF, hB⟩ := hrel
  have HB := hideP hB
  clear hB
  by_cases hlt : k < l.length
  · obtain ⟨g, rfl, hg, x⟩ := K.out k hlt
    obtain ⟨a0, a1, a2⟩ := x.below HB.out hg
    have K1 := hideP (fun h => rf_hit (p := isNamed s) hlt h HF.out)
    have K2 := hideP (fun h => rf_miss (p := isNamed s) hlt h HF.out)
    clear x
    generalize rgA l k = r at *
    cases hq : (r.name.toList == s.toList)
    · have HN := hideP (K2.out (decide_eq_false (str_ne hq)))
      go_wp2
      exact ⟨⟨k + 1, by omega, by go_num, HN.out, HB.out.alloc HB.out.size _⟩, by simp [intOf]; omega⟩
    · have HN := hideP (K1.out (decide_eq_true (str_eq hq)))
      go_wp2
      go_ret
      exact ⟨ret_int HN.out.symm, HB.out.alloc HB.out.size _⟩
  · have HN := hideP (rf_end (by omega) HF.out)
    go_wp2
    go_ret
    exact ⟨ret_int HN.out.symm, HB.out⟩
theorem okAt_parts (l : List Rgn) (i : Nat) : (rgnB (rgA l i) = false ∧ okAt l i = false) ∨ (rgnB (rgA l i) = true ∧ behB (l.take i) (rgA l i).fr = false ∧ okAt l i = false) ∨ (rgnB (rgA l i) = true ∧ behB (l.take i) (rgA l i).fr = true ∧ (∃ q : Nat, namedR (l.take i) (rgA l i).name = (q : Int)) ∧ okAt l i = false) ∨ (rgnB (rgA l i) = true ∧ behB (l.take i) (rgA l i).fr = true ∧ namedR (l.take i) (rgA l i).name = -1 ∧ okAt l i = true) := by
 unfold okAt
 cases h1 : rgnB (rgA l i)
 · exact .inl ⟨rfl, rfl⟩
 right
 cases h2 : behB (l.take i) (rgA l i).fr
 · exact .inl ⟨rfl, rfl, rfl⟩
 right
 rcases rf_cases (isNamed (rgA l i).name) (l.take i) with ⟨h, _⟩ | ⟨q, _, h, _⟩
 · exact .inr ⟨rfl, rfl, h, by unfold namedR; rw [h]; rfl⟩
 · exact .inl ⟨rfl, rfl, ⟨q, h⟩, by unfold namedR; rw [h, decide_eq_false (by omega)]; rfl⟩
set_option maxHeartbeats 2000000 in
theorem implCheck (v : Value) (l : List Rgn) (w : World) (h : RRow w v l) (hT : Tab w) : CR 157 #[v] w (errV l) := by
 have HH := hideP h
 obtain ⟨a, c, rfl, hl, hm, hn, H⟩ := h
 have K := hideP H
 have HN := hideP hn
 have HT := hideP hT
 unfold maxLen at hm
 clear H hn hT
 by_cases hlong : 30 < l.length
 · have HR : Hid (errV l = .iface 225 (.agg #[.int .i64 30])) := by unfold Hid errV; rw [if_pos hlong]
   go_enter Tryz.func157, Tryz.ntmps157
   go_wp2
   go_ret
   exact ⟨by rw [HR.out]; rfl, Below.refl _ _⟩
 have HE : Hid (badV l (l.length - 0) 0 = errV l) := by unfold Hid errV; rw [if_neg hlong]; rfl
 go_enter Tryz.func157, Tryz.ntmps157
 go_wp2
 go_loopw [12] (fun i wr => ∃ k : Nat, k ≤ l.length ∧ i = .int .i64 (k : Int) ∧ Hid (badV l (l.length - k) k = errV l) ∧ Below w.heap.size w wr) (fun i _ => l.length - (intOf i).toNat)
 case atStart => exact ⟨0, Nat.zero_le _, rfl, HE.out, Below.refl _ _⟩
 case round =>
  obtain ⟨k, hk, rfl, HF, hB⟩ := hrel
  have HB := hideP hB
  clear hB
  by_cases hlt : k < l.length
  · obtain ⟨g, rfl, hg, x⟩ := K.out k hlt
    obtain ⟨a0, a1, a2⟩ := x.below HB.out hg
    have hnk := HN.out k hlt
    obtain ⟨W0, hW0, c0, c1, c2, hBl⟩ := rgn_box wr (rgA l k).name (rgA l k).fr (rgA l k).to 116
    have hBw : ∀ y : Later W0, Below w.heap.size w y.w := fun y => HB.out.trans ((hBl y).mono HB.out.size)
    have KO : ∀ y : Later W0, CR 205 #[.agg #[.string (rgA l k).name, .int .i64 (rgA l k).fr, .int .i64 (rgA l k).to]] y.w (.bool (rgnB (rgA l k))) := fun y => implReignOk _ _ _ y.w hnk (HT.out.later (hBw y))
    have KB : ∀ y : Later W0, CR 206 #[.slice (some ⟨g, 0, none⟩) k c, .agg #[.string (rgA l k).name, .int .i64 (rgA l k).fr, .int .i64 (rgA l k).to]] y.w (.bool (behB (l.take k) (rgA l k).fr)) := fun y => implBehind _ _ _ _ _ y.w ((HH.out.below (hBw y)).take (by omega))
    have KN : ∀ y : Later W0, CR 207 #[.slice (some ⟨g, 0, none⟩) k c, .string (rgA l k).name] y.w (.int .i64 (namedR (l.take k) (rgA l k).name)) := fun y => implNamed _ _ _ y.w ((HH.out.below (hBw y)).take (by omega))
    have HP := hideP (okAt_parts l k)
    have J1 := hideP (fun h => bad_next hlt h HF.out)
    have J2 := hideP (fun h => bad_stop hlt h HF.out)
    have HW0 := hideP hW0
    have HBw := hideP hBw
    clear x hnk hW0 hBl hBw
    generalize behB (l.take k) (rgA l k).fr = q2 at *
    generalize namedR (l.take k) (rgA l k).name = q3 at *
    generalize rgnB (rgA l k) = q1 at *
    generalize rgA l k = r at *
    rcases HP.out with ⟨rfl, hf⟩ | ⟨rfl, rfl, hf⟩ | ⟨rfl, rfl, ⟨q, rfl⟩, hf⟩ | ⟨rfl, rfl, rfl, hf⟩
    · have HV := hideP (J2.out hf)
      clear hf
      go_wp2_with fail
      rw [← HW0.out]
      refine wp_region_later (W := W0) (Below.refl _ _) (by kernel_rfl) (by kernel_rfl) ?_
      repeat (go_big_quiet_step (first | (go_at_call 205; exact calls_later (KO _)) | fail))
      refine wpQuiet_nil ?_
      intro _ hw'
      obtain ⟨y, rfl⟩ := hw'
      go_wp2
      go_ret
      exact ⟨by rw [HV.out]; rfl, HBw.out y⟩
    · have HV := hideP (J2.out hf)
      clear hf
      go_wp2_with fail
      rw [← HW0.out]
      refine wp_region_later (W := W0) (Below.refl _ _) (by kernel_rfl) (by kernel_rfl) ?_
      repeat (go_big_quiet_step (first | (go_at_call 205; exact calls_later (KO _)) | (go_at_call 206; exact calls_later (KB _)) | fail))
      refine wpQuiet_nil ?_
      intro _ hw'
      obtain ⟨y, rfl⟩ := hw'
      go_wp2
      go_ret
      exact ⟨by rw [HV.out]; rfl, HBw.out y⟩
    focus
      have HV := hideP (J2.out hf)
      have hq0 : (0 : Int) ≤ (q : Int) := by omega
    rotate_left
    focus
      have HV := hideP (J1.out hf)
    rotate_left
    all_goals
     clear hf
     go_wp2_with fail
     rw [← HW0.out]
     refine wp_region_later (W := W0) (Below.refl _ _) (by kernel_rfl) (by kernel_rfl) ?_
     repeat (go_big_quiet_step (first | (go_at_call 205; exact calls_later (KO _)) | (go_at_call 206; exact calls_later (KB _)) | (go_at_call 207; exact calls_later (KN _)) | fail))
     refine wpQuiet_nil ?_
     intro _ hw'
     obtain ⟨y, rfl⟩ := hw'
     go_wp2
    · go_ret
      exact ⟨by rw [HV.out]; rfl, HBw.out y⟩
    · exact ⟨⟨k + 1, by omega, by go_num, HV.out, HBw.out y⟩, by simp [intOf]; omega⟩
  · have HV := hideP (bad_end (by omega) HF.out)
    go_wp2
    go_ret
    exact ⟨by rw [HV.out]; rfl, HB.out⟩
set_option maxHeartbeats 1000000 in
theorem implReignsOk (v : Value) (l : List Rgn) (a : Addr) (w : World) (h : RRow w v l) (hT : Tab w) (hS : Sent w a) : CR 109 #[v] w (.bool (reignsOk l)) := by
 have KC : ∀ y : Later w, CR 157 #[v] y.w (errV l) := fun y => implCheck v l y.w (h.below y.below) (hT.later y.below)
 have KG : ∀ y : Later w, y.w.cell? ⟨0, 0, none⟩ = some (.iface 341 (.pointer (some a))) := fun y => hS.later y.below
 have KW : ∀ (z : Int) (y : Later w), CR 156 #[.iface 225 (.agg #[.int .i64 z]), .iface 341 (.pointer (some a))] y.w (.bool true) := fun z y => implIsWrong z a y.w (hS.later y.below)
 have HE := hideP (errV_cases l)
 clear h hT hS
 generalize errV l = E at *
 generalize reignsOk l = b at *
 rcases HE.out with ⟨rfl, rfl⟩ | ⟨rfl, z, rfl⟩
 · go_enter Tryz.func109, Tryz.ntmps109
   go_wp2_with fail
   refine wp_region_later (W := w) (Below.refl _ _) (by kernel_rfl) (by kernel_rfl) ?_
   repeat (go_big_quiet_step (first | (go_at_call 157; exact calls_later (KC _)) | (go_at_call 156; exact calls_later (implIsNil a _)) | fail))
   refine wpQuiet_nil ?_
   intro _ hw'
   obtain ⟨y, rfl⟩ := hw'
   go_wp2
   go_ret
   exact ⟨rfl, y.below⟩
 · go_enter Tryz.func109, Tryz.ntmps109
   go_wp2_with fail
   refine wp_region_later (W := w) (Below.refl _ _) (by kernel_rfl) (by kernel_rfl) ?_
   repeat (go_big_quiet_step (first | (go_at_call 157; exact calls_later (KC _)) | (go_at_call 156; exact calls_later (KW z _)) | fail))
   refine wpQuiet_nil ?_
   intro _ hw'
   obtain ⟨y, rfl⟩ := hw'
   go_wp2
   go_ret
   exact ⟨rfl, y.below⟩
set_option maxRecDepth 100000 in
set_option maxHeartbeats 4000000 in
theorem specReignsOk (v : Value) (l : List Rgn) (w : World) (h : RRow w v l) : CR 105 #[v] w (.bool (reignsOk l)) := by
 obtain ⟨a, c, rfl, hl, hm, hn, H⟩ := h
 have K := hideP H
 have HN := hideP hn
 unfold maxLen at hm
 clear H hn
 go_enter Tryz.func105, Tryz.ntmps105
 go_wp2
 go_loopw [3] (fun i wr => ∃ k : Nat, k ≤ l.length ∧ i = .int .i64 (k : Int) ∧ Hid (okTo l k = true) ∧ Below w.heap.size w wr) (fun i _ => l.length - (intOf i).toNat)
 case atStart => exact ⟨0, Nat.zero_le _, rfl, rfl, Below.refl _ _⟩
 case round =>
  obtain ⟨k, hk, rfl, HF, hB⟩ := hrel
  have HB := hideP hB
  clear hB
  by_cases hlt : k < l.length
  · obtain ⟨g, rfl, hg, x⟩ := K.out k hlt
    obtain ⟨a0, a1, a2⟩ := x.below HB.out hg
    have hnk := HN.out k hlt
    obtain ⟨W0, hW0, c0, c1, c2, hBl⟩ := rgn_box wr (rgA l k).name (rgA l k).fr (rgA l k).to 116
    have hBw : ∀ y : Later W0, Below w.heap.size w y.w := fun y => HB.out.trans ((hBl y).mono HB.out.size)
    have KM : Hid (∀ m, m < k → ∀ y : Later W0, y.w.cell? ⟨g, m * 3, none⟩ = some (.string (rgA l m).name) ∧ y.w.cell? ⟨g, m * 3 + 2, none⟩ = some (.int .i64 (rgA l m).to)) := fun m hmk y => by
     obtain ⟨g', e, hg', z⟩ := K.out m (by omega)
     cases e
     exact ⟨(z.below (hBw y) hg').1, (z.below (hBw y) hg').2.2⟩
    have KN : ∀ y : Later W0, Calls Tryz.prog 102 #[.string (rgA l k).name] y.w fun e w' => e = .returned (.bool (nameOk (rgA l k).name)) ∧ w' = y.w := fun y => specNameOk _ y.w hnk
    have KF : ∀ y : Later W0, CR 152 #[.int .i64 (rgA l k).fr] y.w (.bool (bothB (rgA l k).fr)) := fun y => specDated _ y.w
    have KT : ∀ y : Later W0, CR 152 #[.int .i64 (rgA l k).to] y.w (.bool (bothB (rgA l k).to)) := fun y => specDated _ y.w
    have J1 := hideP (fun h => okTo_next HF.out (k := k) h)
    have J2 := hideP (fun h => ok_bad (k := k) h hlt)
    have HK : Hid (okAt l k = ((nameOk (rgA l k).name && (decide ((rgA l k).fr ≤ (rgA l k).to) && (bothB (rgA l k).fr && bothB (rgA l k).to))) && (behB (l.take k) (rgA l k).fr && decide (namedR (l.take k) (rgA l k).name = -1)))) := rfl
    have HW0 := hideP hW0
    have HBw := hideP hBw
    have HBH := hideP (behB_take (Nat.le_of_lt hlt) (rgA l k).fr)
    clear x hnk hW0 hBl hBw
    generalize rgA l k = r at *
    obtain ⟨nm, f, t⟩ := r
    dsimp only at a0 a1 a2 c0 c1 c2 KN KF KT HK HBH HW0
    generalize nameOk nm = b1 at *
    generalize hb2 : bothB f = b2 at *
    generalize hb3 : bothB t = b3 at *
    have HX : Hid (okAt l k = false → reignsOk l = false) := J2.out
    clear hb2 hb3
    cases b1
    · have _u := hlt
      have HR := hideP (HX.out (by rw [HK.out]; rfl))
      go_wp2_with fail
      rw [← HW0.out]
      refine wp_region_later (W := W0) (Below.refl _ _) (by kernel_rfl) (by kernel_rfl) ?_
      repeat (go_big_quiet_step (first | (go_at_call 102; exact calls_same (KN _)) | (go_at_call_of 152 f; exact calls_later (KF _)) | (go_at_call_of 152 t; exact calls_later (KT _)) | fail))
      refine wpQuiet_nil ?_
      intro _ hw'
      obtain ⟨y, rfl⟩ := hw'
      go_wp2
      go_ret
      exact ⟨ret_bool HR.out.symm, HBw.out y⟩
    by_cases hft : f ≤ t
    case neg =>
     have hd : decide (t < f) = true := decide_eq_true (by omega)
     have HR := hideP (HX.out (by rw [HK.out]; rw [decide_eq_false hft]; rfl))
     go_wp2_with fail
     rw [← HW0.out]
     refine wp_region_later (W := W0) (Below.refl _ _) (by kernel_rfl) (by kernel_rfl) ?_
     repeat (go_big_quiet_step (first | (go_at_call 102; exact calls_same (KN _)) | (go_at_call_of 152 f; exact calls_later (KF _)) | (go_at_call_of 152 t; exact calls_later (KT _)) | fail))
     refine wpQuiet_nil ?_
     intro _ hw'
     obtain ⟨y, rfl⟩ := hw'
     go_wp2
     go_ret
     exact ⟨ret_bool HR.out.symm, HBw.out y⟩
    have hd : decide (t < f) = false := decide_eq_false (by omega)
    cases b2
    · have _u := hlt
      have HR := hideP (HX.out (by rw [HK.out]; rw [decide_eq_true hft]; rfl))
      go_wp2_with fail
      rw [← HW0.out]
      refine wp_region_later (W := W0) (Below.refl _ _) (by kernel_rfl) (by kernel_rfl) ?_
      repeat (go_big_quiet_step (first | (go_at_call 102; exact calls_same (KN _)) | (go_at_call_of 152 f; exact calls_later (KF _)) | (go_at_call_of 152 t; exact calls_later (KT _)) | fail))
      refine wpQuiet_nil ?_
      intro _ hw'
      obtain ⟨y, rfl⟩ := hw'
      go_wp2
      go_ret
      exact ⟨ret_bool HR.out.symm, HBw.out y⟩
    cases b3
    · have _u := hlt
      have HR := hideP (HX.out (by rw [HK.out]; rw [decide_eq_true hft]; rfl))
      go_wp2_with fail
      rw [← HW0.out]
      refine wp_region_later (W := W0) (Below.refl _ _) (by kernel_rfl) (by kernel_rfl) ?_
      repeat (go_big_quiet_step (first | (go_at_call 102; exact calls_same (KN _)) | (go_at_call_of 152 f; exact calls_later (KF _)) | (go_at_call_of 152 t; exact calls_later (KT _)) | fail))
      refine wpQuiet_nil ?_
      intro _ hw'
      obtain ⟨y, rfl⟩ := hw'
      go_wp2
      go_ret
      exact ⟨ret_bool HR.out.symm, HBw.out y⟩
    have HK2 : Hid (okAt l k = (behB (l.take k) f && decide (namedR (l.take k) nm = -1))) := by unfold Hid; rw [HK.out, decide_eq_true hft]; rfl
    clear HK
    obtain rfl | ⟨j, rfl⟩ : k = 0 ∨ ∃ j, k = j + 1 := by cases k with | zero => exact .inl rfl | succ j => exact .inr ⟨j, rfl⟩
    focus
      have HBE : Hid (behB (l.take 0) f = true) := by unfold Hid; rw [HBH.out]; rfl
    rotate_left
    focus
      obtain ⟨_, q2⟩ : _ ∧ (∀ y : Later W0, y.w.cell? ⟨g, j * 3 + 2, none⟩ = some (.int .i64 (rgA l j).to)) := ⟨trivial, fun y => (KM.out j (by omega) y).2⟩
      have HBH2 : Hid (behB (l.take (j + 1)) f = decide ((rgA l j).to < f)) := by unfold Hid; rw [HBH.out, decide_eq_false (by omega)]; rfl
      clear HBH
      generalize (rgA l j).to = T at *
      have hj0 : decide ((0 : Int) < (j : Int) + 1) = true := decide_eq_true (by omega)
      by_cases hTf : T < f
      case neg =>
       have hd2 : decide (f ≤ T) = true := decide_eq_true (by omega)
       have HR := hideP (HX.out (by rw [HK2.out, HBH2.out, decide_eq_false hTf]; rfl))
       go_wp2_with fail
       rw [← HW0.out]
       refine wp_region_later (W := W0) (Below.refl _ _) (by kernel_rfl) (by kernel_rfl) ?_
       repeat (go_big_quiet_step (first | (go_at_call 102; exact calls_same (KN _)) | (go_at_call_of 152 f; exact calls_later (KF _)) | (go_at_call_of 152 t; exact calls_later (KT _)) | fail))
       refine wpQuiet_nil ?_
       intro _ hw'
       obtain ⟨y, rfl⟩ := hw'
       go_wp2
       go_ret
       exact ⟨ret_bool HR.out.symm, HBw.out y⟩
      have hd2 : decide (f ≤ T) = false := decide_eq_false (by omega)
      have HBE : Hid (behB (l.take (j + 1)) f = true) := by unfold Hid; rw [HBH2.out, decide_eq_true hTf]
    rotate_left
    all_goals
     go_wp2_with fail
     rw [← HW0.out]
     refine wp_region_later (W := W0) (Below.refl _ _) (by kernel_rfl) (by kernel_rfl) ?_
     repeat (go_big_quiet_step (first | (go_at_call 102; exact calls_same (KN _)) | (go_at_call_of 152 f; exact calls_later (KF _)) | (go_at_call_of 152 t; exact calls_later (KT _)) | fail))
     refine wpQuiet_nil ?_
     intro _ hw'
     obtain ⟨y, rfl⟩ := hw'
     go_wp2_with fail
    · go_loopw [5] (fun q wq => ∃ m : Nat, m ≤ 0 ∧ q = .int .i64 (m : Int) ∧ Hid (rfFrom (isNamed nm) ((l.take (0)).drop m) m = namedR (l.take (0)) nm) ∧ Below W0.heap.size W0 wq) (fun q _ => 0 - (intOf q).toNat)
      case atStart => exact ⟨0, Nat.zero_le _, rfl, rfl, y.below⟩
      case round =>
       obtain ⟨m, hmk, rfl, HG, hC⟩ := hrel
       have HC := hideP hC
       clear hC
       have hlen : (l.take (0)).length = 0 := by rw [List.length_take]; omega
       have HLn := hideP hlen
       clear hlen
       have GN := hideP (rf_end (by rw [HLn.out]; omega) HG.out)
       obtain rfl : m = 0 := by omega
       have HR := hideP (J1.out (by rw [HK2.out, GN.out, HBE.out]; rfl))
       have HCw : Hid (Below w.heap.size w wr) := HBw.out ⟨wr, HC.out⟩
       go_wp2
       exact ⟨⟨0 + 1, by omega, by go_num, HR.out, HCw.out⟩, by simp [intOf]; omega⟩
    · go_loopw [5] (fun q wq => ∃ m : Nat, m ≤ (j + 1) ∧ q = .int .i64 (m : Int) ∧ Hid (rfFrom (isNamed nm) ((l.take ((j + 1))).drop m) m = namedR (l.take ((j + 1))) nm) ∧ Below W0.heap.size W0 wq) (fun q _ => (j + 1) - (intOf q).toNat)
      case atStart => exact ⟨0, Nat.zero_le _, rfl, rfl, y.below⟩
      case round =>
       obtain ⟨m, hmk, rfl, HG, hC⟩ := hrel
       have HC := hideP hC
       clear hC
       have hlen : (l.take ((j + 1))).length = (j + 1) := by rw [List.length_take]; omega
       have HLn := hideP hlen
       clear hlen
       by_cases hml : m < (j + 1)
       · have e0 := fun y => (KM.out m hml y).1
         have G1 := hideP (fun h => rf_hit (p := isNamed nm) (by rw [HLn.out]; exact hml) h HG.out)
         have G2 := hideP (fun h => rf_miss (p := isNamed nm) (by rw [HLn.out]; exact hml) h HG.out)
         rw [rgA_take hml] at G1 G2
         generalize rgA l m = r2 at *
         cases hq : (r2.name.toList == nm.toList)
         · have GN := hideP (G2.out (decide_eq_false (str_ne hq)))
           go_wp2_with fail
           refine wp_region_later (W := W0) HC.out (by kernel_rfl) (by kernel_rfl) ?_
           repeat (go_big_quiet_step (fail))
           refine wpQuiet_nil ?_
           intro _ hw'
           obtain ⟨y2, rfl⟩ := hw'
           go_wp2
           exact ⟨⟨m + 1, by omega, by go_num, GN.out, y2.below⟩, by simp [intOf]; omega⟩
         · have GN := hideP (G1.out (decide_eq_true (str_eq hq)))
           have HR := hideP (HX.out (by rw [HK2.out, GN.out, decide_eq_false (by omega), Bool.and_false]))
           go_wp2_with fail
           refine wp_region_later (W := W0) HC.out (by kernel_rfl) (by kernel_rfl) ?_
           repeat (go_big_quiet_step (fail))
           refine wpQuiet_nil ?_
           intro _ hw'
           obtain ⟨y2, rfl⟩ := hw'
           go_wp2
           go_ret
           exact ⟨ret_bool HR.out.symm, HBw.out y2⟩
       · have GN := hideP (rf_end (by rw [HLn.out]; omega) HG.out)
         have HR := hideP (J1.out (by rw [HK2.out, GN.out, HBE.out]; rfl))
         have HCw : Hid (Below w.heap.size w wr) := HBw.out ⟨wr, HC.out⟩
         go_wp2
         exact ⟨⟨(j + 1) + 1, by omega, by go_num, HR.out, HCw.out⟩, by simp [intOf]; omega⟩
  · have hkn : k = l.length := by omega
    have HR := hideP (ok_all (by rw [← hkn]; exact HF.out))
    subst hkn
    go_wp2
    go_ret
    exact ⟨ret_bool (by rw [HR.out]; exact decide_eq_decide.2 (by omega)), HB.out⟩
theorem implDayOn (c y m d : Int) (w : World) (hT : Tab w) (hc : c = 0 ∨ c = 1) (hy1 : -5 ≤ y) (hy2 : y ≤ 4000) (hm1 : 1 ≤ m) (hm2 : m ≤ 13) (hd1 : -100 ≤ d) (hd2 : d ≤ 1000) : CR 258 #[.agg #[.int .i64 c, .int .i64 y], .int .i64 m, .int .i64 d] w (.int .i64 (lineD c y m d)) := by
 obtain ⟨W0, hW0⟩ : ∃ W0, W0 = w.alloc (.cells #[.int .i64 c, .int .i64 y] 243) := ⟨_, rfl⟩
 have HW0 := hideP hW0
 have KT : ∀ x : Later W0, Tab x.w := fun x => hT.later (below_of_alloc hW0 x.below)
 clear hW0 hT
 have KL : CR 216 #[.agg #[.int .i64 c, .int .i64 y, .int .i64 m, .int .i64 d]] W0 (.int .i64 (lineD c y m d)) := implLine c y m d W0 (KT ⟨W0, Below.refl _ _⟩) hc hy1 hy2 hm1 hm2 hd1 hd2
 clear hc KT
 generalize lineD c y m d = R at *
 go_enter Tryz.func258, Tryz.ntmps258
 go_wp2_with fail
 rw [← HW0.out]
 refine KL.mono ?_
 rintro e w1 ⟨rfl, hb⟩
 go_wp2
 go_ret
 exact ⟨rfl, below_of_alloc HW0.out hb⟩
theorem implAhead (c y : Int) (w : World) (hy1 : -4 ≤ y) (hy2 : y ≤ 4000) : CR 259 #[.agg #[.int .i64 c, .int .i64 y]] w (.agg #[.int .i64 c, .int .i64 (y - 1)]) := by
 go_enter Tryz.func259, Tryz.ntmps259
 go_wp2
 go_returns
 refine ⟨rfl, ?_⟩
 go_grown
theorem impl_january (c y : Int) (w : World) (hT : Tab w) (hc : c = 0 ∨ c = 1) (hy1 : -5 ≤ y) (hy2 : y ≤ 4000) : CR 225 #[.agg #[.int .i64 c, .int .i64 y]] w (.int .i64 (lineD c y 1 1)) := by
 obtain ⟨W0, hW0⟩ : ∃ W0, W0 = w.alloc (.cells #[.int .i64 c, .int .i64 y] 243) := ⟨_, rfl⟩
 have HW0 := hideP hW0
 have KT : ∀ x : Later W0, Tab x.w := fun x => hT.later (below_of_alloc hW0 x.below)
 clear hW0 hT
 have KL : CR 258 #[.agg #[.int .i64 c, .int .i64 y], .int .i64 1, .int .i64 1] W0 (.int .i64 (lineD c y 1 1)) := implDayOn c y 1 1 W0 (KT ⟨W0, Below.refl _ _⟩) hc hy1 hy2 (by omega) (by omega) (by omega) (by omega)
 clear hc KT
 generalize lineD c y 1 1 = R at *
 go_enter Tryz.func225, Tryz.ntmps225
 go_wp2_with fail
 rw [← HW0.out]
 refine KL.mono ?_
 rintro e w1 ⟨rfl, hb⟩
 go_wp2
 go_ret
 exact ⟨rfl, below_of_alloc HW0.out hb⟩
theorem impl_march (c y : Int) (w : World) (hT : Tab w) (hc : c = 0 ∨ c = 1) (hy1 : -5 ≤ y) (hy2 : y ≤ 4000) : CR 226 #[.agg #[.int .i64 c, .int .i64 y]] w (.int .i64 (lineD c y 3 1)) := by
 obtain ⟨W0, hW0⟩ : ∃ W0, W0 = w.alloc (.cells #[.int .i64 c, .int .i64 y] 243) := ⟨_, rfl⟩
 have HW0 := hideP hW0
 have KT : ∀ x : Later W0, Tab x.w := fun x => hT.later (below_of_alloc hW0 x.below)
 clear hW0 hT
 have KL : CR 258 #[.agg #[.int .i64 c, .int .i64 y], .int .i64 3, .int .i64 1] W0 (.int .i64 (lineD c y 3 1)) := implDayOn c y 3 1 W0 (KT ⟨W0, Below.refl _ _⟩) hc hy1 hy2 (by omega) (by omega) (by omega) (by omega)
 clear hc KT
 generalize lineD c y 3 1 = R at *
 go_enter Tryz.func226, Tryz.ntmps226
 go_wp2_with fail
 rw [← HW0.out]
 refine KL.mono ?_
 rintro e w1 ⟨rfl, hb⟩
 go_wp2
 go_ret
 exact ⟨rfl, below_of_alloc HW0.out hb⟩
theorem impl_lady (c y : Int) (w : World) (hT : Tab w) (hc : c = 0 ∨ c = 1) (hy1 : -5 ≤ y) (hy2 : y ≤ 4000) : CR 227 #[.agg #[.int .i64 c, .int .i64 y]] w (.int .i64 (lineD c y 3 25)) := by
 obtain ⟨W0, hW0⟩ : ∃ W0, W0 = w.alloc (.cells #[.int .i64 c, .int .i64 y] 243) := ⟨_, rfl⟩
 have HW0 := hideP hW0
 have KT : ∀ x : Later W0, Tab x.w := fun x => hT.later (below_of_alloc hW0 x.below)
 clear hW0 hT
 have KL : CR 258 #[.agg #[.int .i64 c, .int .i64 y], .int .i64 3, .int .i64 25] W0 (.int .i64 (lineD c y 3 25)) := implDayOn c y 3 25 W0 (KT ⟨W0, Below.refl _ _⟩) hc hy1 hy2 (by omega) (by omega) (by omega) (by omega)
 clear hc KT
 generalize lineD c y 3 25 = R at *
 go_enter Tryz.func227, Tryz.ntmps227
 go_wp2_with fail
 rw [← HW0.out]
 refine KL.mono ?_
 rintro e w1 ⟨rfl, hb⟩
 go_wp2
 go_ret
 exact ⟨rfl, below_of_alloc HW0.out hb⟩
theorem impl_pisa (c y : Int) (w : World) (hT : Tab w) (hc : c = 0 ∨ c = 1) (hy1 : -4 ≤ y) (hy2 : y ≤ 4000) : CR 228 #[.agg #[.int .i64 c, .int .i64 y]] w (.int .i64 (lineD c (y - 1) 3 25)) := by
 obtain ⟨W0, hW0⟩ : ∃ W0, W0 = w.alloc (.cells #[.int .i64 c, .int .i64 y] 243) := ⟨_, rfl⟩
 have HW0 := hideP hW0
 have KT : ∀ x : Later W0, Tab x.w := fun x => hT.later (below_of_alloc hW0 x.below)
 clear hW0 hT
 have KA : CR 259 #[.agg #[.int .i64 c, .int .i64 y]] W0 (.agg #[.int .i64 c, .int .i64 (y - 1)]) := implAhead c y W0 hy1 hy2
 have KL : ∀ x : Later W0, CR 227 #[.agg #[.int .i64 c, .int .i64 (y - 1)]] x.w (.int .i64 (lineD c (y - 1) 3 25)) := fun x => impl_lady c (y - 1) x.w (KT x) hc (by omega) (by omega)
 clear hc KT
 generalize lineD c (y - 1) 3 25 = R at *
 go_enter Tryz.func228, Tryz.ntmps228
 go_wp2_with fail
 rw [← HW0.out]
 refine latO KA fun x1 => ?_
 go_wp2_with fail
 refine (KL x1).mono ?_
 rintro e w2 ⟨rfl, hb⟩
 go_wp2
 go_ret
 exact ⟨rfl, below_of_alloc HW0.out (x1.on hb)⟩
theorem impl_september (c y : Int) (w : World) (hT : Tab w) (hc : c = 0 ∨ c = 1) (hy1 : -4 ≤ y) (hy2 : y ≤ 4000) : CR 230 #[.agg #[.int .i64 c, .int .i64 y]] w (.int .i64 (lineD c (y - 1) 9 1)) := by
 obtain ⟨W0, hW0⟩ : ∃ W0, W0 = w.alloc (.cells #[.int .i64 c, .int .i64 y] 243) := ⟨_, rfl⟩
 have HW0 := hideP hW0
 have KT : ∀ x : Later W0, Tab x.w := fun x => hT.later (below_of_alloc hW0 x.below)
 clear hW0 hT
 have KA : CR 259 #[.agg #[.int .i64 c, .int .i64 y]] W0 (.agg #[.int .i64 c, .int .i64 (y - 1)]) := implAhead c y W0 hy1 hy2
 have KL : ∀ x : Later W0, CR 258 #[.agg #[.int .i64 c, .int .i64 (y - 1)], .int .i64 9, .int .i64 1] x.w (.int .i64 (lineD c (y - 1) 9 1)) := fun x => implDayOn c (y - 1) 9 1 x.w (KT x) hc (by omega) (by omega) (by omega) (by omega) (by omega) (by omega)
 clear hc KT
 generalize lineD c (y - 1) 9 1 = R at *
 go_enter Tryz.func230, Tryz.ntmps230
 go_wp2_with fail
 rw [← HW0.out]
 refine latO KA fun x1 => ?_
 go_wp2_with fail
 refine (KL x1).mono ?_
 rintro e w2 ⟨rfl, hb⟩
 go_wp2
 go_ret
 exact ⟨rfl, below_of_alloc HW0.out (x1.on hb)⟩
theorem impl_yule (c y : Int) (w : World) (hT : Tab w) (hc : c = 0 ∨ c = 1) (hy1 : -4 ≤ y) (hy2 : y ≤ 4000) : CR 231 #[.agg #[.int .i64 c, .int .i64 y]] w (.int .i64 (lineD c (y - 1) 12 25)) := by
 obtain ⟨W0, hW0⟩ : ∃ W0, W0 = w.alloc (.cells #[.int .i64 c, .int .i64 y] 243) := ⟨_, rfl⟩
 have HW0 := hideP hW0
 have KT : ∀ x : Later W0, Tab x.w := fun x => hT.later (below_of_alloc hW0 x.below)
 clear hW0 hT
 have KA : CR 259 #[.agg #[.int .i64 c, .int .i64 y]] W0 (.agg #[.int .i64 c, .int .i64 (y - 1)]) := implAhead c y W0 hy1 hy2
 have KL : ∀ x : Later W0, CR 258 #[.agg #[.int .i64 c, .int .i64 (y - 1)], .int .i64 12, .int .i64 25] x.w (.int .i64 (lineD c (y - 1) 12 25)) := fun x => implDayOn c (y - 1) 12 25 x.w (KT x) hc (by omega) (by omega) (by omega) (by omega) (by omega) (by omega)
 clear hc KT
 generalize lineD c (y - 1) 12 25 = R at *
 go_enter Tryz.func231, Tryz.ntmps231
 go_wp2_with fail
 rw [← HW0.out]
 refine latO KA fun x1 => ?_
 go_wp2_with fail
 refine (KL x1).mono ?_
 rintro e w2 ⟨rfl, hb⟩
 go_wp2
 go_ret
 exact ⟨rfl, below_of_alloc HW0.out (x1.on hb)⟩
theorem impl_easter (c y : Int) (w : World) (hT : Tab w) (hc : c = 0 ∨ c = 1) (hy1 : 1 ≤ y) (hy2 : y ≤ 4000) : CR 229 #[.agg #[.int .i64 c, .int .i64 y]] w (.int .i64 (easL c y)) := by
 obtain ⟨W0, hW0⟩ : ∃ W0, W0 = w.alloc (.cells #[.int .i64 c, .int .i64 y] 243) := ⟨_, rfl⟩
 have HW0 := hideP hW0
 have KT : ∀ x : Later W0, Tab x.w := fun x => hT.later (below_of_alloc hW0 x.below)
 clear hW0 hT
 have KL : CR 260 #[.int .i64 c, .int .i64 y] W0 (.int .i64 (easL c y)) := implLineEaster c y W0 (KT ⟨W0, Below.refl _ _⟩) hc hy1 hy2
 clear hc KT
 generalize easL c y = R at *
 go_enter Tryz.func229, Tryz.ntmps229
 go_wp2_with fail
 rw [← HW0.out]
 refine KL.mono ?_
 rintro e w1 ⟨rfl, hb⟩
 go_wp2
 go_ret
 exact ⟨rfl, below_of_alloc HW0.out hb⟩
theorem beg_one : (#[.func (.func 225) #[] #[], .func (.func 226) #[] #[], .func (.func 227) #[] #[], .func (.func 228) #[] #[], .func (.func 229) #[] #[], .func (.func 230) #[] #[], .func (.func 231) #[] #[]] : Array Value).all (·.oneCell') = true := by first | rfl | kernel_rfl | decide | simp [Value.oneCell']
theorem beg_size : (Tryz.prog.info? 244).map (·.size) = some (#[.func (.func 225) #[] #[], .func (.func 226) #[] #[], .func (.func 227) #[] #[], .func (.func 228) #[] #[], .func (.func 229) #[] #[], .func (.func 230) #[] #[], .func (.func 231) #[] #[]] : Array Value).size := by kernel_rfl
set_option maxHeartbeats 1000000 in
theorem implBeginning (c s y : Int) (w : World) (hT : Tab w) (hc : c = 0 ∨ c = 1) (hs : styleP s) (hy1 : 1 ≤ y) (hy2 : y ≤ 3900) : CR 182 #[.int .i64 c, .int .i64 s, .int .i64 y] w (.int .i64 (start c s y)) := by
 obtain ⟨W1, hW1⟩ : ∃ W1, W1 = (w.alloc (.cells #[.nilFunc, .nilFunc, .nilFunc, .nilFunc, .nilFunc, .nilFunc, .nilFunc] 244)).setRow w.heap.size #[.func (.func 225) #[] #[], .func (.func 226) #[] #[], .func (.func 227) #[] #[], .func (.func 228) #[] #[], .func (.func 229) #[] #[], .func (.func 230) #[] #[], .func (.func 231) #[] #[]] := ⟨_, rfl⟩
 have HB : Hid (Blk W1 w.heap.size #[.func (.func 225) #[] #[], .func (.func 226) #[] #[], .func (.func 227) #[] #[], .func (.func 228) #[] #[], .func (.func 229) #[] #[], .func (.func 230) #[] #[], .func (.func 231) #[] #[]] 244) := by unfold Hid; rw [hW1]; exact (Blk.new w _ _).setRow _
 have HL : Hid (Below w.heap.size w W1) := by unfold Hid; rw [hW1]; exact below_setRow ((Below.refl _ _).alloc (Nat.le_refl _) _) _ (Nat.le_refl _)
 have HW1 := hideP hW1
 have KT : Tab W1 := hT.later HL.out
 clear hT hW1
 rcases style_cases hs with rfl | rfl | rfl | rfl | rfl | rfl | rfl
 focus
   have ck : W1.cell? ⟨w.heap.size, 0, none⟩ = some (.func (.func 225) #[] #[]) := HB.out.cell 0 rfl
   have KL : CR 225 #[.agg #[.int .i64 c, .int .i64 y]] W1 (.int .i64 (start c 0 y)) := by rw [start_0]; exact impl_january c y W1 KT hc (by omega) (by omega)
   clear KT hc hs
   generalize start c 0 y = R at *
 rotate_left
 focus
   have ck : W1.cell? ⟨w.heap.size, 1, none⟩ = some (.func (.func 226) #[] #[]) := HB.out.cell 1 rfl
   have KL : CR 226 #[.agg #[.int .i64 c, .int .i64 y]] W1 (.int .i64 (start c 1 y)) := by rw [start_1]; exact impl_march c y W1 KT hc (by omega) (by omega)
   clear KT hc hs
   generalize start c 1 y = R at *
 rotate_left
 focus
   have ck : W1.cell? ⟨w.heap.size, 2, none⟩ = some (.func (.func 227) #[] #[]) := HB.out.cell 2 rfl
   have KL : CR 227 #[.agg #[.int .i64 c, .int .i64 y]] W1 (.int .i64 (start c 2 y)) := by rw [start_2]; exact impl_lady c y W1 KT hc (by omega) (by omega)
   clear KT hc hs
   generalize start c 2 y = R at *
 rotate_left
 focus
   have ck : W1.cell? ⟨w.heap.size, 3, none⟩ = some (.func (.func 228) #[] #[]) := HB.out.cell 3 rfl
   have KL : CR 228 #[.agg #[.int .i64 c, .int .i64 y]] W1 (.int .i64 (start c 3 y)) := by rw [start_3]; exact impl_pisa c y W1 KT hc (by omega) (by omega)
   clear KT hc hs
   generalize start c 3 y = R at *
 rotate_left
 focus
   have ck : W1.cell? ⟨w.heap.size, 4, none⟩ = some (.func (.func 229) #[] #[]) := HB.out.cell 4 rfl
   have KL : CR 229 #[.agg #[.int .i64 c, .int .i64 y]] W1 (.int .i64 (start c 4 y)) := by rw [start_4]; exact impl_easter c y W1 KT hc (by omega) (by omega)
   clear KT hc hs
   generalize start c 4 y = R at *
 rotate_left
 focus
   have ck : W1.cell? ⟨w.heap.size, 5, none⟩ = some (.func (.func 230) #[] #[]) := HB.out.cell 5 rfl
   have KL : CR 230 #[.agg #[.int .i64 c, .int .i64 y]] W1 (.int .i64 (start c 5 y)) := by rw [start_5]; exact impl_september c y W1 KT hc (by omega) (by omega)
   clear KT hc hs
   generalize start c 5 y = R at *
 rotate_left
 focus
   have ck : W1.cell? ⟨w.heap.size, 6, none⟩ = some (.func (.func 231) #[] #[]) := HB.out.cell 6 rfl
   have KL : CR 231 #[.agg #[.int .i64 c, .int .i64 y]] W1 (.int .i64 (start c 6 y)) := by rw [start_6]; exact impl_yule c y W1 KT hc (by omega) (by omega)
   clear KT hc hs
   generalize start c 6 y = R at *
 rotate_left
 all_goals
  go_enter Tryz.func182, Tryz.ntmps182
  go_wp2_with (refine wpList_store_row _ rfl 244 _ _ rfl w.heap.size #[.nilFunc, .nilFunc, .nilFunc, .nilFunc, .nilFunc, .nilFunc, .nilFunc] #[.func (.func 225) #[] #[], .func (.func 226) #[] #[], .func (.func 227) #[] #[], .func (.func 228) #[] #[], .func (.func 229) #[] #[], .func (.func 230) #[] #[], .func (.func 231) #[] #[]] rfl rfl (Blk.new w _ _) beg_size rfl beg_one ?_; rw [← HW1.out])
  refine KL.mono ?_
  rintro e w1 ⟨rfl, hb⟩
  go_wp2
  go_ret
  exact ⟨rfl, HL.out.trans (hb.mono HL.out.size)⟩
end Go.Proofs.YtdmlhiailjnhcaaGreatDoor.ctr
