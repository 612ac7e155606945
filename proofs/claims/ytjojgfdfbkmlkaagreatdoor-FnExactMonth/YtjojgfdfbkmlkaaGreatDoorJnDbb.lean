/- Contracts of the program's isBehind, reignNamed, checkReigns and ReignsOk: each answers its plain function, where the table of months and errNoTable hold what they do. Contract of the model's ReignsOk: it answers its plain function. A regime's plain check: which segments, which patches, which rules are right. Contracts of cmp.Compare and cmp.Or at ints, and of the heap's Less: one segment is ahead of another by From, then To, then its number. A row of structs of ints that lies in a block of its own with room behind it ('PRow'): what is read, what stores make of it, what append makes of it. Contract of the heap's Swap: two segments take each other's place; nothing else turns. The heap's state, and the contract of its method Push: a segment comes to the end of the row. -/
import Derived.Test.YtjojgfdfbkmlkaaGreatDoorJnDba
import Derived.Test.YtjojgfdfbkmlkaaGreatDoorJnDaw
import Derived.Test.YtjojgfdfbkmlkaaGreatDoorJnDav
import Derived.Test.YtjojgfdfbkmlkaaGreatDoorJnDac
import Derived.BigRegion
import Derived.Test.YtjojgfdfbkmlkaaGreatDoorJnDaq
import Derived.Laws.AppendOwn
import Derived.Handy
import Derived.Deep.RegionLaw
import Derived.Deep.AppendLies
namespace Go.Proofs.YtjojgfdfbkmlkaaGreatDoor.ctr
open Go.RowKit
def behB (la : List Rgn) (f : Int) : Bool := decide (la.length = 0) || decide ((rgA la (la.length - 1)).to < f)
def namedR (l : List Rgn) (s : ByteArray) : Int := rfind (isNamed s) l
noncomputable def okAt (l : List Rgn) (i : Nat) : Bool := rgnB (rgA l i) && (behB (l.take i) (rgA l i).fr && decide (namedR (l.take i) (rgA l i).name = -1))
noncomputable def okTo (l : List Rgn) : Nat → Bool
  | 0 => true
  | k + 1 => okTo l k && okAt l k
noncomputable def reignsOk (l : List Rgn) : Bool := decide (l.length ≤ 30) && okTo l l.length
theorem okTo_bad {l : List Rgn} {k : Nat} (h : okAt l k = false) : ∀ n, k < n → okTo l n = false
  | 0, hn => by omega
  | n + 1, hn => by
    unfold okTo
    by_cases e : k = n
    · subst e; rw [h, Bool.and_false]
    · rw [okTo_bad h n (by omega), Bool.false_and]
theorem okTo_next {l : List Rgn} {k : Nat} (h : okTo l k = true) (h' : okAt l k = true) : okTo l (k + 1) = true := by unfold okTo; rw [h, h']; rfl
theorem ok_bad {l : List Rgn} {k : Nat} (h : okAt l k = false) (hk : k < l.length) : reignsOk l = false := by unfold reignsOk; rw [okTo_bad h _ hk, Bool.and_false]
theorem ok_long {l : List Rgn} (h : 30 < l.length) : reignsOk l = false := by unfold reignsOk; rw [decide_eq_false (by omega), Bool.false_and]
theorem ok_all {l : List Rgn} (h : okTo l l.length = true) : reignsOk l = decide (l.length ≤ 30) := by unfold reignsOk; rw [h, Bool.and_true]
noncomputable def badV (l : List Rgn) : Nat → Nat → Value
  | 0, _ => .nilIface
  | n + 1, k => if okAt l k = true then badV l n (k + 1) else .iface 256 (.agg #[.int .i64 (k : Int)])
noncomputable def errV (l : List Rgn) : Value := if 30 < l.length then .iface 256 (.agg #[.int .i64 30]) else badV l l.length 0
theorem bad_next {l : List Rgn} {k : Nat} {V : Value} (hk : k < l.length) (h : okAt l k = true) (H : badV l (l.length - k) k = V) : badV l (l.length - (k + 1)) (k + 1) = V := by
  rw [show l.length - k = (l.length - (k + 1)) + 1 by omega, badV, if_pos h] at H
  exact H
theorem bad_stop {l : List Rgn} {k : Nat} {V : Value} (hk : k < l.length) (h : okAt l k = false) (H : badV l (l.length - k) k = V) : V = .iface 256 (.agg #[.int .i64 (k : Int)]) := by
  rw [show l.length - k = (l.length - (k + 1)) + 1 by omega, badV, if_neg (by rw [h]; simp)] at H
  exact H.symm
theorem bad_end {l : List Rgn} {k : Nat} {V : Value} (hk : l.length ≤ k) (H : badV l (l.length - k) k = V) : V = .nilIface := by
  rw [show l.length - k = 0 by omega] at H
  exact H.symm
theorem errV_cases (l : List Rgn) : (reignsOk l = true ∧ errV l = .nilIface) ∨ (reignsOk l = false ∧ ∃ z : Int, errV l = .iface 256 (.agg #[.int .i64 z])) := by
  unfold errV
  by_cases hl : 30 < l.length
  · rw [if_pos hl]
    exact .inr ⟨ok_long hl, _, rfl⟩
  rw [if_neg hl]
  have go : ∀ n k, n + k = l.length → okTo l k = true → (reignsOk l = true ∧ badV l (l.length - k) k = .nilIface) ∨ (reignsOk l = false ∧ ∃ z : Int, badV l (l.length - k) k = .iface 256 (.agg #[.int .i64 z])) := by
    intro n
    induction n with
    | zero =>
      intro k hk ho
      obtain rfl : k = l.length := by omega
      refine .inl ⟨?_, bad_end (Nat.le_refl _) rfl⟩
      rw [ok_all ho]
      exact decide_eq_true (by omega)
    | succ n ih =>
      intro k hk ho
      cases h : okAt l k
      · exact .inr ⟨ok_bad h (by omega), _, bad_stop (by omega) h rfl⟩
      · have := ih (k + 1) (by omega) (okTo_next ho h)
        rw [bad_next (by omega) h rfl] at this
        exact this
  exact go l.length 0 (by omega) rfl
theorem behB_take {l : List Rgn} {i : Nat} (hi : i ≤ l.length) (f : Int) : behB (l.take i) f = (decide (i = 0) || decide ((rgA l (i - 1)).to < f)) := by
  unfold behB
  rw [show (l.take i).length = i by simp [hi]]
  by_cases h : i = 0
  · subst h; rfl
  · rw [rgA_take (by omega)]
set_option maxHeartbeats 1000000 in
theorem implBehind (v : Value) (la : List Rgn) (s : ByteArray) (f t : Int) (w : World) (h : RRow w v la) : Calls Tryz.prog 240 #[v, .agg #[.string s, .int .i64 f, .int .i64 t]] w fun e w' => e = .returned (.bool (behB la f)) ∧ Below w.heap.size w w' := by
  obtain ⟨W0, hW0, c0, c1, c2, hBl⟩ := rgn_box w s f t 151
  obtain ⟨a, cap, rfl, hl, hm, _, H⟩ := h
  have HW0 := hideP hW0
  have HBl := hideP hBl
  unfold maxLen at hm
  by_cases hz : la.length = 0
  · have HR : Hid (behB la f = true) := by unfold Hid behB; rw [decide_eq_true hz]; rfl
    clear H hW0 hBl
    rw [hz]
    go_enter Tryz.func240, Tryz.ntmps240
    go_wp2_with fail
    rw [← HW0.out]
    refine wp_region_later (W := W0) (Below.refl _ _) (by kernel_rfl) (by kernel_rfl) ?_
    repeat (go_big_quiet_step (fail))
    refine wpQuiet_nil ?_
    intro _ hw'
    obtain ⟨x, rfl⟩ := hw'
    go_wp2
    go_ret
    exact ⟨ret_bool HR.out.symm, HBl.out x⟩
  · obtain ⟨N, hN⟩ : ∃ N, la.length = N + 1 := ⟨la.length - 1, by omega⟩
    obtain ⟨g, rfl, hg, hr⟩ := H N (by omega)
    have e2 : ∀ x : Later W0, x.w.cell? ⟨g, N * 3 + 2, none⟩ = some (.int .i64 (rgA la N).to) := fun x => (hr.below (hBl x) hg).2.2
    have HR : Hid (behB la f = decide ((rgA la N).to < f)) := by unfold Hid behB; rw [decide_eq_false hz, hN]; rfl
    clear H hW0 hBl hr
    rw [hN] at hl ⊢
    generalize (rgA la N).to = T at *
    have hz1 : ((N : Int) + 1 == 0) = false := by simp; omega
    clear hN hz
    go_enter Tryz.func240, Tryz.ntmps240
    go_wp2_with fail
    rw [← HW0.out]
    refine wp_region_later (W := W0) (Below.refl _ _) (by kernel_rfl) (by kernel_rfl) ?_
    repeat (go_big_quiet_step (fail))
    refine wpQuiet_nil ?_
    intro _ hw'
    obtain ⟨x, rfl⟩ := hw'
    go_wp2
    go_ret
    exact ⟨ret_bool HR.out.symm, HBl.out x⟩
set_option maxHeartbeats 1000000 in
theorem implNamed (v : Value) (l : List Rgn) (s : ByteArray) (w : World) (h : RRow w v l) : Calls Tryz.prog 241 #[v, .string s] w fun e w' => e = .returned (.int .i64 (namedR l s)) ∧ Below w.heap.size w w' := by
  obtain ⟨a, c, rfl, hl, hm, _, H⟩ := h
  have K := hideP H
  unfold maxLen at hm
  clear H
  go_enter Tryz.func241, Tryz.ntmps241
  go_wp2
  go_loopw [9] (fun i wr => ∃ k : Nat, k ≤ l.length ∧ i = .int .i64 (k : Int) ∧ Hid (rfFrom (isNamed s) (l.drop k) k = namedR l s) ∧ Below w.heap.size w wr) (fun i _ => l.length - (intOf i).toNat)
  case atStart => exact ⟨0, Nat.zero_le _, rfl, rfl, Below.refl _ _⟩
  case round =>
    obtain ⟨k, hk, rfl, HF, hB⟩ := hrel
    have HB := hideP hB
    clear hB
    by_cases hlt : k < l.length
    · obtain ⟨g, rfl, hg, x⟩ := K.out k hlt
      obtain ⟨a0, a1, a2⟩ := x.below HB.out hg
      have K1 := hideP (fun h => rf_hit (p := isNamed s) hlt h HF.out)
      have K2 := hideP (fun h => rf_miss (p := isNamed s) hlt h HF.out)
      clear x
      generalize rgA l k = r at *
      cases hq : (r.name.toList == s.toList)
      · have HN := hideP (K2.out (decide_eq_false (str_ne hq)))
        go_wp2
        exact ⟨⟨k + 1, by omega, by go_num, HN.out, HB.out.alloc HB.out.size _⟩, by simp [intOf]; omega⟩
      · have HN := hideP (K1.out (decide_eq_true (str_eq hq)))
        go_wp2
        go_ret
        exact ⟨ret_int HN.out.symm, HB.out.alloc HB.out.size _⟩
    · have HN := hideP (rf_end (by omega) HF.out)
      go_wp2
      go_ret
      exact ⟨ret_int HN.out.symm, HB.out⟩
theorem okAt_parts (l : List Rgn) (i : Nat) : (rgnB (rgA l i) = false ∧ okAt l i = false) ∨ (rgnB (rgA l i) = true ∧ behB (l.take i) (rgA l i).fr = false ∧ okAt l i = false) ∨ (rgnB (rgA l i) = true ∧ behB (l.take i) (rgA l i).fr = true ∧ (∃ q : Nat, namedR (l.take i) (rgA l i).name = (q : Int)) ∧ okAt l i = false) ∨ (rgnB (rgA l i) = true ∧ behB (l.take i) (rgA l i).fr = true ∧ namedR (l.take i) (rgA l i).name = -1 ∧ okAt l i = true) := by
  unfold okAt
  cases h1 : rgnB (rgA l i)
  · exact .inl ⟨rfl, rfl⟩
  right
  cases h2 : behB (l.take i) (rgA l i).fr
  · exact .inl ⟨rfl, rfl, rfl⟩
  right
  rcases rf_cases (isNamed (rgA l i).name) (l.take i) with ⟨h, _⟩ | ⟨q, _, h, _⟩
  · exact .inr ⟨rfl, rfl, h, by unfold namedR; rw [h]; rfl⟩
  · exact .inl ⟨rfl, rfl, ⟨q, h⟩, by unfold namedR; rw [h, decide_eq_false (by omega)]; rfl⟩
set_option maxHeartbeats 2000000 in
theorem implCheck (v : Value) (l : List Rgn) (w : World) (h : RRow w v l) (hT : Tab w) : Calls Tryz.prog 183 #[v] w fun e w' => e = .returned (errV l) ∧ Below w.heap.size w w' := by
  have HH := hideP h
  obtain ⟨a, c, rfl, hl, hm, hn, H⟩ := h
  have K := hideP H
  have HN := hideP hn
  have HT := hideP hT
  unfold maxLen at hm
  clear H hn hT
  by_cases hlong : 30 < l.length
  · have HR : Hid (errV l = .iface 256 (.agg #[.int .i64 30])) := by unfold Hid errV; rw [if_pos hlong]
    go_enter Tryz.func183, Tryz.ntmps183
    go_wp2
    go_ret
    exact ⟨by rw [HR.out]; rfl, Below.refl _ _⟩
  have HE : Hid (badV l (l.length - 0) 0 = errV l) := by unfold Hid errV; rw [if_neg hlong]; rfl
  go_enter Tryz.func183, Tryz.ntmps183
  go_wp2
  go_loopw [12] (fun i wr => ∃ k : Nat, k ≤ l.length ∧ i = .int .i64 (k : Int) ∧ Hid (badV l (l.length - k) k = errV l) ∧ Below w.heap.size w wr) (fun i _ => l.length - (intOf i).toNat)
  case atStart => exact ⟨0, Nat.zero_le _, rfl, HE.out, Below.refl _ _⟩
  case round =>
    obtain ⟨k, hk, rfl, HF, hB⟩ := hrel
    have HB := hideP hB
    clear hB
    by_cases hlt : k < l.length
    · obtain ⟨g, rfl, hg, x⟩ := K.out k hlt
      obtain ⟨a0, a1, a2⟩ := x.below HB.out hg
      have hnk := HN.out k hlt
      obtain ⟨W0, hW0, c0, c1, c2, hBl⟩ := rgn_box wr (rgA l k).name (rgA l k).fr (rgA l k).to 151
      have hBw : ∀ y : Later W0, Below w.heap.size w y.w := fun y => HB.out.trans ((hBl y).mono HB.out.size)
      have KO : ∀ y : Later W0, Calls Tryz.prog 239 #[.agg #[.string (rgA l k).name, .int .i64 (rgA l k).fr, .int .i64 (rgA l k).to]] y.w fun e w' => e = .returned (.bool (rgnB (rgA l k))) ∧ Below y.w.heap.size y.w w' := fun y => implReignOk _ _ _ y.w hnk (HT.out.later (hBw y))
      have KB : ∀ y : Later W0, Calls Tryz.prog 240 #[.slice (some ⟨g, 0, none⟩) k c, .agg #[.string (rgA l k).name, .int .i64 (rgA l k).fr, .int .i64 (rgA l k).to]] y.w fun e w' => e = .returned (.bool (behB (l.take k) (rgA l k).fr)) ∧ Below y.w.heap.size y.w w' := fun y => implBehind _ _ _ _ _ y.w ((HH.out.below (hBw y)).take (by omega))
      have KN : ∀ y : Later W0, Calls Tryz.prog 241 #[.slice (some ⟨g, 0, none⟩) k c, .string (rgA l k).name] y.w fun e w' => e = .returned (.int .i64 (namedR (l.take k) (rgA l k).name)) ∧ Below y.w.heap.size y.w w' := fun y => implNamed _ _ _ y.w ((HH.out.below (hBw y)).take (by omega))
      have HP := hideP (okAt_parts l k)
      have J1 := hideP (fun h => bad_next hlt h HF.out)
      have J2 := hideP (fun h => bad_stop hlt h HF.out)
      have HW0 := hideP hW0
      have HBw := hideP hBw
      clear x hnk hW0 hBl hBw
      generalize behB (l.take k) (rgA l k).fr = q2 at *
      generalize namedR (l.take k) (rgA l k).name = q3 at *
      generalize rgnB (rgA l k) = q1 at *
      generalize rgA l k = r at *
      rcases HP.out with ⟨rfl, hf⟩ | ⟨rfl, rfl, hf⟩ | ⟨rfl, rfl, ⟨q, rfl⟩, hf⟩ | ⟨rfl, rfl, rfl, hf⟩
      · have HV := hideP (J2.out hf)
        clear hf
        go_wp2_with fail
        rw [← HW0.out]
        refine wp_region_later (W := W0) (Below.refl _ _) (by kernel_rfl) (by kernel_rfl) ?_
        repeat (go_big_quiet_step (first | (go_at_call 239; exact calls_later (KO _)) | fail))
        refine wpQuiet_nil ?_
        intro _ hw'
        obtain ⟨y, rfl⟩ := hw'
        go_wp2
        go_ret
        exact ⟨by rw [HV.out]; rfl, HBw.out y⟩
      · have HV := hideP (J2.out hf)
        clear hf
        go_wp2_with fail
        rw [← HW0.out]
        refine wp_region_later (W := W0) (Below.refl _ _) (by kernel_rfl) (by kernel_rfl) ?_
        repeat (go_big_quiet_step (first | (go_at_call 239; exact calls_later (KO _)) | (go_at_call 240; exact calls_later (KB _)) | fail))
        refine wpQuiet_nil ?_
        intro _ hw'
        obtain ⟨y, rfl⟩ := hw'
        go_wp2
        go_ret
        exact ⟨by rw [HV.out]; rfl, HBw.out y⟩
      · have HV := hideP (J2.out hf)
        have hq0 : (0 : Int) ≤ (q : Int) := by omega
        clear hf
        go_wp2_with fail
        rw [← HW0.out]
        refine wp_region_later (W := W0) (Below.refl _ _) (by kernel_rfl) (by kernel_rfl) ?_
        repeat (go_big_quiet_step (first | (go_at_call 239; exact calls_later (KO _)) | (go_at_call 240; exact calls_later (KB _)) | (go_at_call 241; exact calls_later (KN _)) | fail))
        refine wpQuiet_nil ?_
        intro _ hw'
        obtain ⟨y, rfl⟩ := hw'
        go_wp2
        go_ret
        exact ⟨by rw [HV.out]; rfl, HBw.out y⟩
      · have HV := hideP (J1.out hf)
        clear hf
        go_wp2_with fail
        rw [← HW0.out]
        refine wp_region_later (W := W0) (Below.refl _ _) (by kernel_rfl) (by kernel_rfl) ?_
        repeat (go_big_quiet_step (first | (go_at_call 239; exact calls_later (KO _)) | (go_at_call 240; exact calls_later (KB _)) | (go_at_call 241; exact calls_later (KN _)) | fail))
        refine wpQuiet_nil ?_
        intro _ hw'
        obtain ⟨y, rfl⟩ := hw'
        go_wp2
        exact ⟨⟨k + 1, by omega, by go_num, HV.out, HBw.out y⟩, by simp [intOf]; omega⟩
    · have HV := hideP (bad_end (by omega) HF.out)
      go_wp2
      go_ret
      exact ⟨by rw [HV.out]; rfl, HB.out⟩
set_option maxHeartbeats 1000000 in
theorem implReignsOk (v : Value) (l : List Rgn) (a : Addr) (w : World) (h : RRow w v l) (hT : Tab w) (hS : Sent w a) : Calls Tryz.prog 122 #[v] w fun e w' => e = .returned (.bool (reignsOk l)) ∧ Below w.heap.size w w' := by
  have KC : ∀ y : Later w, Calls Tryz.prog 183 #[v] y.w fun e w' => e = .returned (errV l) ∧ Below y.w.heap.size y.w w' := fun y => implCheck v l y.w (h.below y.below) (hT.later y.below)
  have KG : ∀ y : Later w, y.w.cell? ⟨0, 0, none⟩ = some (.iface 381 (.pointer (some a))) := fun y => hS.later y.below
  have KW : ∀ (z : Int) (y : Later w), Calls Tryz.prog 182 #[.iface 256 (.agg #[.int .i64 z]), .iface 381 (.pointer (some a))] y.w fun e w' => e = .returned (.bool true) ∧ Below y.w.heap.size y.w w' := fun z y => implIsWrong z a y.w (hS.later y.below)
  have HE := hideP (errV_cases l)
  clear h hT hS
  generalize errV l = E at *
  generalize reignsOk l = b at *
  rcases HE.out with ⟨rfl, rfl⟩ | ⟨rfl, z, rfl⟩
  · go_enter Tryz.func122, Tryz.ntmps122
    go_wp2_with fail
    refine wp_region_later (W := w) (Below.refl _ _) (by kernel_rfl) (by kernel_rfl) ?_
    repeat (go_big_quiet_step (first | (go_at_call 183; exact calls_later (KC _)) | (go_at_call 182; exact calls_later (implIsNil a _)) | fail))
    refine wpQuiet_nil ?_
    intro _ hw'
    obtain ⟨y, rfl⟩ := hw'
    go_wp2
    go_ret
    exact ⟨rfl, y.below⟩
  · go_enter Tryz.func122, Tryz.ntmps122
    go_wp2_with fail
    refine wp_region_later (W := w) (Below.refl _ _) (by kernel_rfl) (by kernel_rfl) ?_
    repeat (go_big_quiet_step (first | (go_at_call 183; exact calls_later (KC _)) | (go_at_call 182; exact calls_later (KW z _)) | fail))
    refine wpQuiet_nil ?_
    intro _ hw'
    obtain ⟨y, rfl⟩ := hw'
    go_wp2
    go_ret
    exact ⟨rfl, y.below⟩
end Go.Proofs.YtjojgfdfbkmlkaaGreatDoor.ctr
namespace Go.Proofs.YtjojgfdfbkmlkaaGreatDoor.ctr
open Go.RowKit
set_option maxRecDepth 100000 in
set_option maxHeartbeats 4000000 in
theorem specReignsOk (v : Value) (l : List Rgn) (w : World) (h : RRow w v l) : Calls Tryz.prog 108 #[v] w fun e w' => e = .returned (.bool (reignsOk l)) ∧ Below w.heap.size w w' := by
  obtain ⟨a, c, rfl, hl, hm, hn, H⟩ := h
  have K := hideP H
  have HN := hideP hn
  unfold maxLen at hm
  clear H hn
  go_enter Tryz.func108, Tryz.ntmps108
  go_wp2
  go_loopw [3] (fun i wr => ∃ k : Nat, k ≤ l.length ∧ i = .int .i64 (k : Int) ∧ Hid (okTo l k = true) ∧ Below w.heap.size w wr) (fun i _ => l.length - (intOf i).toNat)
  case atStart => exact ⟨0, Nat.zero_le _, rfl, rfl, Below.refl _ _⟩
  case round =>
    obtain ⟨k, hk, rfl, HF, hB⟩ := hrel
    have HB := hideP hB
    clear hB
    by_cases hlt : k < l.length
    · obtain ⟨g, rfl, hg, x⟩ := K.out k hlt
      obtain ⟨a0, a1, a2⟩ := x.below HB.out hg
      have hnk := HN.out k hlt
      obtain ⟨W0, hW0, c0, c1, c2, hBl⟩ := rgn_box wr (rgA l k).name (rgA l k).fr (rgA l k).to 151
      have hBw : ∀ y : Later W0, Below w.heap.size w y.w := fun y => HB.out.trans ((hBl y).mono HB.out.size)
      have KM : Hid (∀ m, m < k → ∀ y : Later W0, y.w.cell? ⟨g, m * 3, none⟩ = some (.string (rgA l m).name) ∧ y.w.cell? ⟨g, m * 3 + 2, none⟩ = some (.int .i64 (rgA l m).to)) := fun m hmk y => by
        obtain ⟨g', e, hg', z⟩ := K.out m (by omega)
        cases e
        exact ⟨(z.below (hBw y) hg').1, (z.below (hBw y) hg').2.2⟩
      have KN : ∀ y : Later W0, Calls Tryz.prog 105 #[.string (rgA l k).name] y.w fun e w' => e = .returned (.bool (nameOk (rgA l k).name)) ∧ w' = y.w := fun y => specNameOk _ y.w hnk
      have KF : ∀ y : Later W0, Calls Tryz.prog 173 #[.int .i64 (rgA l k).fr] y.w fun e w' => e = .returned (.bool (bothB (rgA l k).fr)) ∧ Below y.w.heap.size y.w w' := fun y => specDated _ y.w
      have KT : ∀ y : Later W0, Calls Tryz.prog 173 #[.int .i64 (rgA l k).to] y.w fun e w' => e = .returned (.bool (bothB (rgA l k).to)) ∧ Below y.w.heap.size y.w w' := fun y => specDated _ y.w
      have J1 := hideP (fun h => okTo_next HF.out (k := k) h)
      have J2 := hideP (fun h => ok_bad (k := k) h hlt)
      have HK : Hid (okAt l k = ((nameOk (rgA l k).name && (decide ((rgA l k).fr ≤ (rgA l k).to) && (bothB (rgA l k).fr && bothB (rgA l k).to))) && (behB (l.take k) (rgA l k).fr && decide (namedR (l.take k) (rgA l k).name = -1)))) := rfl
      have HW0 := hideP hW0
      have HBw := hideP hBw
      have HBH := hideP (behB_take (Nat.le_of_lt hlt) (rgA l k).fr)
      clear x hnk hW0 hBl hBw
      generalize rgA l k = r at *
      obtain ⟨nm, f, t⟩ := r
      dsimp only at a0 a1 a2 c0 c1 c2 KN KF KT HK HBH HW0
      generalize nameOk nm = b1 at *
      generalize hb2 : bothB f = b2 at *
      generalize hb3 : bothB t = b3 at *
      have HX : Hid (okAt l k = false → reignsOk l = false) := J2.out
      clear hb2 hb3
      cases b1
      · have _u := hlt
        have HR := hideP (HX.out (by rw [HK.out]; rfl))
        go_wp2_with fail
        rw [← HW0.out]
        refine wp_region_later (W := W0) (Below.refl _ _) (by kernel_rfl) (by kernel_rfl) ?_
        repeat (go_big_quiet_step (first | (go_at_call 105; exact calls_same (KN _)) | (go_at_call_of 173 f; exact calls_later (KF _)) | (go_at_call_of 173 t; exact calls_later (KT _)) | fail))
        refine wpQuiet_nil ?_
        intro _ hw'
        obtain ⟨y, rfl⟩ := hw'
        go_wp2
        go_ret
        exact ⟨ret_bool HR.out.symm, HBw.out y⟩
      by_cases hft : f ≤ t
      case neg =>
        have hd : decide (t < f) = true := decide_eq_true (by omega)
        have HR := hideP (HX.out (by rw [HK.out]; rw [decide_eq_false hft]; rfl))
        go_wp2_with fail
        rw [← HW0.out]
        refine wp_region_later (W := W0) (Below.refl _ _) (by kernel_rfl) (by kernel_rfl) ?_
        repeat (go_big_quiet_step (first | (go_at_call 105; exact calls_same (KN _)) | (go_at_call_of 173 f; exact calls_later (KF _)) | (go_at_call_of 173 t; exact calls_later (KT _)) | fail))
        refine wpQuiet_nil ?_
        intro _ hw'
        obtain ⟨y, rfl⟩ := hw'
        go_wp2
        go_ret
        exact ⟨ret_bool HR.out.symm, HBw.out y⟩
      have hd : decide (t < f) = false := decide_eq_false (by omega)
      cases b2
      · have _u := hlt
        have HR := hideP (HX.out (by rw [HK.out]; rw [decide_eq_true hft]; rfl))
        go_wp2_with fail
        rw [← HW0.out]
        refine wp_region_later (W := W0) (Below.refl _ _) (by kernel_rfl) (by kernel_rfl) ?_
        repeat (go_big_quiet_step (first | (go_at_call 105; exact calls_same (KN _)) | (go_at_call_of 173 f; exact calls_later (KF _)) | (go_at_call_of 173 t; exact calls_later (KT _)) | fail))
        refine wpQuiet_nil ?_
        intro _ hw'
        obtain ⟨y, rfl⟩ := hw'
        go_wp2
        go_ret
        exact ⟨ret_bool HR.out.symm, HBw.out y⟩
      cases b3
      · have _u := hlt
        have HR := hideP (HX.out (by rw [HK.out]; rw [decide_eq_true hft]; rfl))
        go_wp2_with fail
        rw [← HW0.out]
        refine wp_region_later (W := W0) (Below.refl _ _) (by kernel_rfl) (by kernel_rfl) ?_
        repeat (go_big_quiet_step (first | (go_at_call 105; exact calls_same (KN _)) | (go_at_call_of 173 f; exact calls_later (KF _)) | (go_at_call_of 173 t; exact calls_later (KT _)) | fail))
        refine wpQuiet_nil ?_
        intro _ hw'
        obtain ⟨y, rfl⟩ := hw'
        go_wp2
        go_ret
        exact ⟨ret_bool HR.out.symm, HBw.out y⟩
      have HK2 : Hid (okAt l k = (behB (l.take k) f && decide (namedR (l.take k) nm = -1))) := by unfold Hid; rw [HK.out, decide_eq_true hft]; rfl
      clear HK
      obtain rfl | ⟨j, rfl⟩ : k = 0 ∨ ∃ j, k = j + 1 := by cases k with | zero => exact .inl rfl | succ j => exact .inr ⟨j, rfl⟩
      · have HBE : Hid (behB (l.take 0) f = true) := by unfold Hid; rw [HBH.out]; rfl
        go_wp2_with fail
        rw [← HW0.out]
        refine wp_region_later (W := W0) (Below.refl _ _) (by kernel_rfl) (by kernel_rfl) ?_
        repeat (go_big_quiet_step (first | (go_at_call 105; exact calls_same (KN _)) | (go_at_call_of 173 f; exact calls_later (KF _)) | (go_at_call_of 173 t; exact calls_later (KT _)) | fail))
        refine wpQuiet_nil ?_
        intro _ hw'
        obtain ⟨y, rfl⟩ := hw'
        go_wp2_with fail
        go_loopw [5] (fun q wq => ∃ m : Nat, m ≤ 0 ∧ q = .int .i64 (m : Int) ∧ Hid (rfFrom (isNamed nm) ((l.take (0)).drop m) m = namedR (l.take (0)) nm) ∧ Below W0.heap.size W0 wq) (fun q _ => 0 - (intOf q).toNat)
        case atStart => exact ⟨0, Nat.zero_le _, rfl, rfl, y.below⟩
        case round =>
          obtain ⟨m, hmk, rfl, HG, hC⟩ := hrel
          have HC := hideP hC
          clear hC
          have hlen : (l.take (0)).length = 0 := by rw [List.length_take]; omega
          have HLn := hideP hlen
          clear hlen
          have GN := hideP (rf_end (by rw [HLn.out]; omega) HG.out)
          obtain rfl : m = 0 := by omega
          have HR := hideP (J1.out (by rw [HK2.out, GN.out, HBE.out]; rfl))
          have HCw : Hid (Below w.heap.size w wr) := HBw.out ⟨wr, HC.out⟩
          go_wp2
          exact ⟨⟨0 + 1, by omega, by go_num, HR.out, HCw.out⟩, by simp [intOf]; omega⟩
      · obtain ⟨_, q2⟩ : _ ∧ (∀ y : Later W0, y.w.cell? ⟨g, j * 3 + 2, none⟩ = some (.int .i64 (rgA l j).to)) := ⟨trivial, fun y => (KM.out j (by omega) y).2⟩
        have HBH2 : Hid (behB (l.take (j + 1)) f = decide ((rgA l j).to < f)) := by unfold Hid; rw [HBH.out, decide_eq_false (by omega)]; rfl
        clear HBH
        generalize (rgA l j).to = T at *
        have hj0 : decide ((0 : Int) < (j : Int) + 1) = true := decide_eq_true (by omega)
        by_cases hTf : T < f
        case neg =>
          have hd2 : decide (f ≤ T) = true := decide_eq_true (by omega)
          have HR := hideP (HX.out (by rw [HK2.out, HBH2.out, decide_eq_false hTf]; rfl))
          go_wp2_with fail
          rw [← HW0.out]
          refine wp_region_later (W := W0) (Below.refl _ _) (by kernel_rfl) (by kernel_rfl) ?_
          repeat (go_big_quiet_step (first | (go_at_call 105; exact calls_same (KN _)) | (go_at_call_of 173 f; exact calls_later (KF _)) | (go_at_call_of 173 t; exact calls_later (KT _)) | fail))
          refine wpQuiet_nil ?_
          intro _ hw'
          obtain ⟨y, rfl⟩ := hw'
          go_wp2
          go_ret
          exact ⟨ret_bool HR.out.symm, HBw.out y⟩
        have hd2 : decide (f ≤ T) = false := decide_eq_false (by omega)
        have HBE : Hid (behB (l.take (j + 1)) f = true) := by unfold Hid; rw [HBH2.out, decide_eq_true hTf]
        go_wp2_with fail
        rw [← HW0.out]
        refine wp_region_later (W := W0) (Below.refl _ _) (by kernel_rfl) (by kernel_rfl) ?_
        repeat (go_big_quiet_step (first | (go_at_call 105; exact calls_same (KN _)) | (go_at_call_of 173 f; exact calls_later (KF _)) | (go_at_call_of 173 t; exact calls_later (KT _)) | fail))
        refine wpQuiet_nil ?_
        intro _ hw'
        obtain ⟨y, rfl⟩ := hw'
        go_wp2_with fail
        go_loopw [5] (fun q wq => ∃ m : Nat, m ≤ (j + 1) ∧ q = .int .i64 (m : Int) ∧ Hid (rfFrom (isNamed nm) ((l.take ((j + 1))).drop m) m = namedR (l.take ((j + 1))) nm) ∧ Below W0.heap.size W0 wq) (fun q _ => (j + 1) - (intOf q).toNat)
        case atStart => exact ⟨0, Nat.zero_le _, rfl, rfl, y.below⟩
        case round =>
          obtain ⟨m, hmk, rfl, HG, hC⟩ := hrel
          have HC := hideP hC
          clear hC
          have hlen : (l.take ((j + 1))).length = (j + 1) := by rw [List.length_take]; omega
          have HLn := hideP hlen
          clear hlen
          by_cases hml : m < (j + 1)
          · have e0 := fun y => (KM.out m hml y).1
            have G1 := hideP (fun h => rf_hit (p := isNamed nm) (by rw [HLn.out]; exact hml) h HG.out)
            have G2 := hideP (fun h => rf_miss (p := isNamed nm) (by rw [HLn.out]; exact hml) h HG.out)
            rw [rgA_take hml] at G1 G2
            generalize rgA l m = r2 at *
            cases hq : (r2.name.toList == nm.toList)
            · have GN := hideP (G2.out (decide_eq_false (str_ne hq)))
              go_wp2_with fail
              refine wp_region_later (W := W0) HC.out (by kernel_rfl) (by kernel_rfl) ?_
              repeat (go_big_quiet_step (fail))
              refine wpQuiet_nil ?_
              intro _ hw'
              obtain ⟨y2, rfl⟩ := hw'
              go_wp2
              exact ⟨⟨m + 1, by omega, by go_num, GN.out, y2.below⟩, by simp [intOf]; omega⟩
            · have GN := hideP (G1.out (decide_eq_true (str_eq hq)))
              have HR := hideP (HX.out (by rw [HK2.out, GN.out, decide_eq_false (by omega), Bool.and_false]))
              go_wp2_with fail
              refine wp_region_later (W := W0) HC.out (by kernel_rfl) (by kernel_rfl) ?_
              repeat (go_big_quiet_step (fail))
              refine wpQuiet_nil ?_
              intro _ hw'
              obtain ⟨y2, rfl⟩ := hw'
              go_wp2
              go_ret
              exact ⟨ret_bool HR.out.symm, HBw.out y2⟩
          · have GN := hideP (rf_end (by rw [HLn.out]; omega) HG.out)
            have HR := hideP (J1.out (by rw [HK2.out, GN.out, HBE.out]; rfl))
            have HCw : Hid (Below w.heap.size w wr) := HBw.out ⟨wr, HC.out⟩
            go_wp2
            exact ⟨⟨(j + 1) + 1, by omega, by go_num, HR.out, HCw.out⟩, by simp [intOf]; omega⟩
    · have hkn : k = l.length := by omega
      have HR := hideP (ok_all (by rw [← hkn]; exact HF.out))
      subst hkn
      go_wp2
      go_ret
      exact ⟨ret_bool (by rw [HR.out]; exact decide_eq_decide.2 (by omega)), HB.out⟩
end Go.Proofs.YtjojgfdfbkmlkaaGreatDoor.ctr
namespace Go.Proofs.YtjojgfdfbkmlkaaGreatDoor.ctr
open Go.RowKit
def allTo (p : Nat → Bool) (k : Nat) : Bool := (List.range k).all p
theorem allTo_next {p : Nat → Bool} {k : Nat} (h : allTo p k = true) (hk : p k = true) : allTo p (k + 1) = true := by
  unfold allTo at *
  rw [List.range_succ, List.all_append, h]
  simp [hk]
theorem allTo_bad {p : Nat → Bool} {k n : Nat} (hk : p k = false) (h : k < n) : allTo p n = false := by
  unfold allTo
  rw [List.all_eq_false]
  exact ⟨k, List.mem_range.2 h, by rw [hk]; simp⟩
theorem allTo_at {p : Nat → Bool} {k n : Nat} (h : allTo p n = true) (hk : k < n) : p k = true := by
  unfold allTo at h
  exact List.all_eq_true.1 h k (List.mem_range.2 hk)
def segFit (f t : Int) (l : List Seg) (k : Nat) : Bool := segOkB (atK segK l k) && (decide (f ≤ (atK segK l k).fr) && (decide ((atK segK l k).to ≤ t) && (decide (k = 0) || decide ((atK segK l (k - 1)).fr < (atK segK l k).fr))))
noncomputable def segsB (f t : Int) (l : List Seg) : Bool := inB l.length 1 20 && (allTo (segFit f t l) l.length && decide (tilesZ f t l = 0))
theorem segs_short {f t : Int} {l : List Seg} (h : inB l.length 1 20 = false) : segsB f t l = false := by unfold segsB; rw [h, Bool.false_and]
theorem segs_bad {f t : Int} {l : List Seg} {k : Nat} (h : segFit f t l k = false) (hk : k < l.length) : segsB f t l = false := by unfold segsB; rw [allTo_bad h hk, Bool.false_and, Bool.and_false]
theorem segs_end {f t : Int} {l : List Seg} (h : inB l.length 1 20 = true) (ha : allTo (segFit f t l) l.length = true) : segsB f t l = decide (tilesZ f t l = 0) := by unfold segsB; rw [h, ha, Bool.true_and, Bool.true_and]
theorem segFit_ok {f t : Int} {l : List Seg} {k : Nat} (h : segFit f t l k = true) : segOkB (atK segK l k) = true ∧ f ≤ (atK segK l k).fr ∧ (atK segK l k).to ≤ t := by
  unfold segFit at h
  simp only [Bool.and_eq_true, decide_eq_true_eq] at h
  exact ⟨h.1, h.2.1, h.2.2.1⟩
theorem segOk_days {s : Seg} (h : segOkB s = true) : s.fr ≤ s.to ∧ 400 ≤ s.to := by
  unfold segOkB at h
  simp only [Bool.and_eq_true, decide_eq_true_eq] at h
  refine ⟨h.2.2.1, ?_⟩
  by_cases hs : 400 ≤ s.to
  · exact hs
  · have := h.2.1; unfold dayB at this; rw [inB_false (.inl (by omega))] at this; cases this
theorem segs_days {f t : Int} {l : List Seg} (ha : allTo (segFit f t l) l.length = true) : ∀ s ∈ l, -9223372036854775808 ≤ s.to := by
  intro s hs
  obtain ⟨i, hi, rfl⟩ := List.mem_iff_getElem.1 hs
  have h := (segOk_days (segFit_ok (allTo_at ha hi)).1).2
  rw [atK_eq hi] at h
  omega
theorem segs_order {f t : Int} {l : List Seg} (h : ¬ f ≤ t) : segsB f t l = false := by
  cases hb : inB l.length 1 20
  · exact segs_short hb
  have hl : 0 < l.length := by
    by_cases hl : 0 < l.length
    · exact hl
    · rw [inB_false (.inl (by omega))] at hb; cases hb
  cases hs : segFit f t l 0
  · exact segs_bad hs hl
  · have := segFit_ok hs; have := segOk_days this.1; omega
theorem segFit_zero {f t : Int} {l : List Seg} : segFit f t l 0 = (segOkB (atK segK l 0) && (decide (f ≤ (atK segK l 0).fr) && (decide ((atK segK l 0).to ≤ t) && true))) := rfl
theorem segFit_succ {f t : Int} {l : List Seg} {j : Nat} : segFit f t l (j + 1) = (segOkB (atK segK l (j + 1)) && (decide (f ≤ (atK segK l (j + 1)).fr) && (decide ((atK segK l (j + 1)).to ≤ t) && decide ((atK segK l j).fr < (atK segK l (j + 1)).fr)))) := by
  unfold segFit
  rw [decide_eq_false (p := j + 1 = 0) (by omega), Bool.false_or]
  rfl
def patB (p : Pat) : Bool := inB p.mon 1 12 && inB p.dom 1 31
def patFit (f t : Int) (l : List Pat) (k : Nat) : Bool := patB (atK patK l k) && (inB (atK patK l k).day f t && (decide (k = 0) || decide ((atK patK l (k - 1)).day < (atK patK l k).day)))
def patsB (f t : Int) (l : List Pat) : Bool := decide ((l.length : Int) ≤ 8) && allTo (patFit f t l) l.length
theorem pats_bad {f t : Int} {l : List Pat} {k : Nat} (h : patFit f t l k = false) (hk : k < l.length) : patsB f t l = false := by unfold patsB; rw [allTo_bad h hk, Bool.and_false]
theorem pats_end {f t : Int} {l : List Pat} (ha : allTo (patFit f t l) l.length = true) : patsB f t l = decide ((l.length : Int) ≤ 8) := by unfold patsB; rw [ha, Bool.and_true]
theorem patFit_zero {f t : Int} {l : List Pat} : patFit f t l 0 = (patB (atK patK l 0) && (inB (atK patK l 0).day f t && true)) := rfl
theorem patFit_succ {f t : Int} {l : List Pat} {j : Nat} : patFit f t l (j + 1) = (patB (atK patK l (j + 1)) && (inB (atK patK l (j + 1)).day f t && decide ((atK patK l j).day < (atK patK l (j + 1)).day))) := by
  unfold patFit
  rw [decide_eq_false (p := j + 1 = 0) (by omega), Bool.false_or]
  rfl
theorem fit_no1 {f t : Int} {l : List Seg} {k : Nat} (h : segOkB (atK segK l k) = false) : segFit f t l k = false := by unfold segFit; rw [h, Bool.false_and]
theorem fit_no2 {f t : Int} {l : List Seg} {k : Nat} (h : (atK segK l k).fr < f) : segFit f t l k = false := by unfold segFit; rw [decide_eq_false (by omega : ¬ f ≤ (atK segK l k).fr), Bool.false_and, Bool.and_false]
theorem fit_no3 {f t : Int} {l : List Seg} {k : Nat} (h : t < (atK segK l k).to) : segFit f t l k = false := by unfold segFit; rw [decide_eq_false (by omega : ¬ (atK segK l k).to ≤ t), Bool.false_and, Bool.and_false, Bool.and_false]
theorem fit_no4 {f t : Int} {l : List Seg} {k j : Nat} (e : k = j + 1) (h : (atK segK l k).fr ≤ (atK segK l j).fr) : segFit f t l k = false := by subst e; rw [segFit_succ, decide_eq_false (by omega : ¬ (atK segK l j).fr < (atK segK l (j + 1)).fr), Bool.and_false, Bool.and_false, Bool.and_false]
theorem fit_yes {f t : Int} {l : List Seg} {k : Nat} (h1 : segOkB (atK segK l k) = true) (h2 : f ≤ (atK segK l k).fr) (h3 : (atK segK l k).to ≤ t) (h4 : ∀ j, k = j + 1 → (atK segK l j).fr < (atK segK l k).fr) : segFit f t l k = true := by
  cases k with
  | zero => rw [segFit_zero, h1, decide_eq_true h2, decide_eq_true h3]; rfl
  | succ j => rw [segFit_succ, h1, decide_eq_true h2, decide_eq_true h3, decide_eq_true (h4 j rfl)]; rfl
theorem pfit_no1 {f t : Int} {l : List Pat} {k : Nat} (h : patB (atK patK l k) = false) : patFit f t l k = false := by unfold patFit; rw [h, Bool.false_and]
theorem pfit_no2 {f t : Int} {l : List Pat} {k : Nat} (h : inB (atK patK l k).day f t = false) : patFit f t l k = false := by unfold patFit; rw [h, Bool.false_and, Bool.and_false]
theorem pfit_no4 {f t : Int} {l : List Pat} {k j : Nat} (e : k = j + 1) (h : (atK patK l k).day ≤ (atK patK l j).day) : patFit f t l k = false := by subst e; rw [patFit_succ, decide_eq_false (by omega : ¬ (atK patK l j).day < (atK patK l (j + 1)).day), Bool.and_false, Bool.and_false]
theorem pfit_yes {f t : Int} {l : List Pat} {k : Nat} (h1 : patB (atK patK l k) = true) (h2 : inB (atK patK l k).day f t = true) (h4 : ∀ j, k = j + 1 → (atK patK l j).day < (atK patK l k).day) : patFit f t l k = true := by
  cases k with
  | zero => rw [patFit_zero, h1, h2]; rfl
  | succ j => rw [patFit_succ, h1, h2, decide_eq_true (h4 j rfl)]; rfl
def ruleB (z : Int) : Bool := decide (z = 0) || decide (z = 1)
noncomputable def regimeB (r : Rgm) : Bool := nameOk r.name && (dayB r.fr && (dayB r.to && (segsB r.fr r.to r.segs && (patsB r.fr r.to r.pats && (reignsOk r.rgns && ruleB r.rule)))))
theorem pat_box (w : World) (a b c : Int) (t : TypeId) : ∃ W0, W0 = w.alloc (.cells #[.int .i64 a, .int .i64 b, .int .i64 c] t) ∧ (∀ x : Later W0, x.w.cell? ⟨w.heap.size, 0, none⟩ = some (.int .i64 a)) ∧ (∀ x : Later W0, x.w.cell? ⟨w.heap.size, 1, none⟩ = some (.int .i64 b)) ∧ (∀ x : Later W0, x.w.cell? ⟨w.heap.size, 2, none⟩ = some (.int .i64 c)) ∧ ∀ x : Later W0, Below w.heap.size w x.w :=
  ⟨_, rfl, Later.new rfl 0 rfl, Later.new rfl 1 rfl, Later.new rfl 2 rfl, fun x => below_alloc x.below⟩
end Go.Proofs.YtjojgfdfbkmlkaaGreatDoor.ctr
namespace Go.Proofs.YtjojgfdfbkmlkaaGreatDoor.ctr
open Go.RowKit
def cmpI (a b : Int) : Int := if a < b then -1 else if b < a then 1 else 0
def or3 (x y z : Int) : Int := if x ≠ 0 then x else if y ≠ 0 then y else z
theorem cmpI_cases (a b : Int) : (a < b ∧ cmpI a b = -1) ∨ (a = b ∧ cmpI a b = 0) ∨ (b < a ∧ cmpI a b = 1) := by
  unfold cmpI
  rcases Int.lt_trichotomy a b with h | h | h
  · exact .inl ⟨h, by rw [if_pos h]⟩
  · exact .inr (.inl ⟨h, by rw [if_neg (by omega), if_neg (by omega)]⟩)
  · exact .inr (.inr ⟨h, by rw [if_neg (by omega), if_pos h]⟩)
theorem or_lt (a b : PSeg) : decide (or3 (cmpI a.s.fr b.s.fr) (cmpI a.s.to b.s.to) (cmpI a.at' b.at') < 0) = ltP a b := by
  have e : ∀ x y : Bool, (x = true ↔ y = true) → x = y := by decide
  apply e
  rw [ltP_iff, decide_eq_true_eq]
  unfold or3
  rcases cmpI_cases a.s.fr b.s.fr with ⟨h, k⟩ | ⟨h, k⟩ | ⟨h, k⟩ <;> rw [k]
  · simp; omega
  · rcases cmpI_cases a.s.to b.s.to with ⟨h', k'⟩ | ⟨h', k'⟩ | ⟨h', k'⟩ <;> rw [k']
    · simp; omega
    · rcases cmpI_cases a.at' b.at' with ⟨h2, k2⟩ | ⟨h2, k2⟩ | ⟨h2, k2⟩ <;> rw [k2] <;> simp <;> omega
    · simp; omega
  · simp; omega
def psK : IK PSeg := ⟨6, fun p => [p.s.fr, p.s.to, p.s.cal, p.s.sty, p.s.off, p.at'], fun zs => ⟨⟨zs.getD 0 0, zs.getD 1 0, zs.getD 2 0, zs.getD 3 0, zs.getD 4 0⟩, zs.getD 5 0⟩, p0, fun _ => rfl, fun zs h => by
  match zs, h with
  | [_, _, _, _, _, _], _ => rfl⟩
theorem IAt.ps {w : World} {g k : Nat} {r : PSeg} (h : IAt psK w g k r) : w.cell? ⟨g, k * 6, none⟩ = some (.int .i64 r.s.fr) ∧ w.cell? ⟨g, k * 6 + 1, none⟩ = some (.int .i64 r.s.to) ∧ w.cell? ⟨g, k * 6 + 2, none⟩ = some (.int .i64 r.s.cal) ∧ w.cell? ⟨g, k * 6 + 3, none⟩ = some (.int .i64 r.s.sty) ∧ w.cell? ⟨g, k * 6 + 4, none⟩ = some (.int .i64 r.s.off) ∧ w.cell? ⟨g, k * 6 + 5, none⟩ = some (.int .i64 r.at') :=
  ⟨h 0 _ rfl, h 1 _ rfl, h 2 _ rfl, h 3 _ rfl, h 4 _ rfl, h 5 _ rfl⟩
theorem cmpNaN (a : Int) (w : World) : Calls Tryz.prog 257 #[.int .i64 a] w fun e w' => e = .returned (.bool false) ∧ w' = w := by
  go_enter Tryz.func257, Tryz.ntmps257
  go_wp2
  go_ret
  exact ⟨rfl, rfl⟩
theorem cmpCmp (a b : Int) (w : World) : Calls Tryz.prog 431 #[.int .i64 a, .int .i64 b] w fun e w' => e = .returned (.int .i64 (cmpI a b)) ∧ w' = w := by
  unfold cmpI
  by_cases h1 : a < b
  · rw [if_pos h1]
    go_enter Tryz.func431, Tryz.ntmps431
    go_wp2_with (go_at_call 257; refine (cmpNaN _ _).mono ?_; rintro e w1 ⟨rfl, rfl⟩)
    go_ret
    exact ⟨rfl, rfl⟩
  rw [if_neg h1]
  by_cases h2 : b < a
  · rw [if_pos h2]
    go_enter Tryz.func431, Tryz.ntmps431
    go_wp2_with (go_at_call 257; refine (cmpNaN _ _).mono ?_; rintro e w1 ⟨rfl, rfl⟩)
    go_ret
    exact ⟨rfl, rfl⟩
  rw [if_neg h2]
  go_enter Tryz.func431, Tryz.ntmps431
  go_wp2_with (go_at_call 257; refine (cmpNaN _ _).mono ?_; rintro e w1 ⟨rfl, rfl⟩)
  go_ret
  exact ⟨rfl, rfl⟩
set_option maxHeartbeats 1000000 in
theorem cmpOr (x y z : Int) (g : Nat) (w : World) (h0 : w.cell? ⟨g, 0, none⟩ = some (.int .i64 x)) (h1 : w.cell? ⟨g, 1, none⟩ = some (.int .i64 y)) (h2 : w.cell? ⟨g, 2, none⟩ = some (.int .i64 z)) : Calls Tryz.prog 430 #[.slice (some ⟨g, 0, none⟩) 3 3] w fun e w' => e = .returned (.int .i64 (or3 x y z)) ∧ w' = w := by
  obtain ⟨R, hR⟩ : ∃ R, R = or3 x y z := ⟨_, rfl⟩
  have HR := hideP hR
  rw [← hR]
  clear hR
  go_enter Tryz.func430, Tryz.ntmps430
  go_wp2
  go_loopw [8] (fun i wr => ∃ k : Nat, k ≤ 3 ∧ i = .int .i64 (k : Int) ∧ Hid ((0 < k → x = 0) ∧ (1 < k → y = 0) ∧ (2 < k → z = 0)) ∧ wr = w) (fun i _ => 3 - (intOf i).toNat)
  case atStart => exact ⟨0, by omega, rfl, ⟨by omega, by omega, by omega⟩, rfl⟩
  case round =>
    obtain ⟨k, hk, rfl, HH, rfl⟩ := hrel
    have k0 := HH.out.1
    have k1 := HH.out.2.1
    have k2 := HH.out.2.2
    clear HH
    rcases (show k = 0 ∨ k = 1 ∨ k = 2 ∨ k = 3 by omega) with rfl | rfl | rfl | rfl
    · clear k0 k1 k2
      by_cases hx : x = 0
      · have HN : Hid ((0 < 1 → x = 0) ∧ (1 < 1 → y = 0) ∧ (2 < 1 → z = 0)) := ⟨fun _ => hx, by omega, by omega⟩
        have hq : (x == 0) = true := by simp [hx]
        clear hx
        go_wp2
        exact ⟨⟨1, by omega, rfl, HN.out, trivial⟩, by simp [intOf]⟩
      · have hq : (x == 0) = false := by simp [hx]
        have HN : Hid (R = x) := by unfold Hid; rw [HR.out, or3, if_pos hx]
        go_wp2
        go_ret
        exact ⟨ret_int HN.out.symm, rfl⟩
    · have HX := hideP (k0 (by omega))
      clear k0 k1 k2
      by_cases hy : y = 0
      · have HN : Hid ((0 < 2 → x = 0) ∧ (1 < 2 → y = 0) ∧ (2 < 2 → z = 0)) := ⟨fun _ => HX.out, fun _ => hy, by omega⟩
        have hq : (y == 0) = true := by simp [hy]
        clear hy
        go_wp2
        exact ⟨⟨2, by omega, rfl, HN.out, trivial⟩, by simp [intOf]⟩
      · have hq : (y == 0) = false := by simp [hy]
        have HN : Hid (R = y) := by unfold Hid; rw [HR.out, or3, if_neg (by simp [HX.out]), if_pos hy]
        go_wp2
        go_ret
        exact ⟨ret_int HN.out.symm, rfl⟩
    · have HX := hideP (k0 (by omega))
      have HY := hideP (k1 (by omega))
      clear k0 k1 k2
      have HN : Hid (R = z) := by unfold Hid; rw [HR.out, or3, if_neg (by simp [HX.out]), if_neg (by simp [HY.out])]
      by_cases hz : z = 0
      · have HM : Hid ((0 < 3 → x = 0) ∧ (1 < 3 → y = 0) ∧ (2 < 3 → z = 0)) := ⟨fun _ => HX.out, fun _ => HY.out, fun _ => hz⟩
        have hq : (z == 0) = true := by simp [hz]
        clear hz
        go_wp2
        exact ⟨⟨3, by omega, rfl, HM.out, trivial⟩, by simp [intOf]⟩
      · have hq : (z == 0) = false := by simp [hz]
        go_wp2
        go_ret
        exact ⟨ret_int HN.out.symm, rfl⟩
    · have HN : Hid (R = 0) := by unfold Hid; rw [HR.out, or3, if_neg (by simp [k0 (by omega)]), if_neg (by simp [k1 (by omega)]), k2 (by omega)]
      clear k0 k1 k2
      go_wp2
      go_ret
      exact ⟨ret_int HN.out.symm, rfl⟩
end Go.Proofs.YtjojgfdfbkmlkaaGreatDoor.ctr
namespace Go.Proofs.YtjojgfdfbkmlkaaGreatDoor.ctr
open Go.RowKit
def CIs {α : Type} (K : IK α) (cur : Array Value) (L : List α) : Prop := ∀ k, k < L.length → ∀ (j : Nat) (z : Int), (K.iv (atK K L k))[j]? = some z → cur[k * K.m + j]? = some (.int .i64 z)
def PRow {α : Type} (K : IK α) (T : TypeId) (w : World) (g cap : Nat) (L : List α) : Prop := ∃ cur, Blk w g cur T ∧ cur.size = cap * K.m ∧ L.length ≤ cap ∧ cap ≤ maxLen ∧ CIs K cur L
theorem atK_set {α : Type} {K : IK α} {L : List α} {i k : Nat} {x : α} (hi : i < L.length) : atK K (L.set i x) k = if k = i then x else atK K L k := by
  unfold atK
  simp only [List.getD, List.getElem?_set]
  by_cases e : i = k
  · subst e; simp [hi]
  · simp [e, Ne.symm e]
theorem CIs.set {α : Type} {K : IK α} {cur : Array Value} {L : List α} (h : CIs K cur L) {i cap : Nat} (x : α) (hi : i < L.length) (hc : L.length ≤ cap) (hs : cur.size = cap * K.m) : CIs K (setI cur (i * K.m) 0 (K.iv x)) (L.set i x) := by
  intro k hk j z e
  have hk' : k < L.length := by simpa using hk
  have hl : (K.iv x).length = K.m := K.len x
  have h1 : (i + 1) * K.m ≤ cap * K.m := Nat.mul_le_mul_right _ (by omega)
  have e1 : (i + 1) * K.m = i * K.m + K.m := by rw [Nat.add_mul]; omega
  rw [atK_set hi] at e
  by_cases q : k = i
  · subst q
    rw [if_pos rfl] at e
    have := setI_new (K.iv x) cur (k * K.m) 0 j z (by omega) e
    rw [Nat.add_zero] at this
    exact this
  · rw [if_neg q] at e
    have hj : j < K.m := by rw [← K.len (atK K L k)]; exact (List.getElem?_eq_some_iff.1 e).1
    rw [setI_old _ _ _ _ _ (by
      rcases Nat.lt_or_gt_of_ne q with q | q
      · left
        have : (k + 1) * K.m ≤ i * K.m := Nat.mul_le_mul_right _ q
        rw [Nat.add_mul] at this
        omega
      · right
        have : (i + 1) * K.m ≤ k * K.m := Nat.mul_le_mul_right _ q
        omega)]
    exact h k hk' j z e
theorem PRow.lt {α : Type} {K : IK α} {T : TypeId} {w : World} {g cap : Nat} {L : List α} (h : PRow K T w g cap L) : g < w.heap.size := by obtain ⟨cur, h, _⟩ := h; exact h.lt
theorem PRow.at {α : Type} {K : IK α} {T : TypeId} {w : World} {g cap : Nat} {L : List α} (h : PRow K T w g cap L) {k : Nat} (hk : k < L.length) : IAt K w g k (atK K L k) := by
  obtain ⟨cur, hB, _, _, _, hC⟩ := h
  exact fun j z e => hB.cell _ (hC k hk j z e)
theorem PRow.below {α : Type} {K : IK α} {T : TypeId} {B : Nat} {w w' : World} {g cap : Nat} {L : List α} (h : PRow K T w g cap L) (hb : Below B w w') (hg : g < B) : PRow K T w' g cap L := by
  obtain ⟨cur, hB, r⟩ := h
  exact ⟨cur, hB.below hb hg, r⟩
theorem PRow.grown {α : Type} {K : IK α} {T : TypeId} {w w' : World} {g cap : Nat} {L : List α} {r : Option Nat} (h : PRow K T w g cap L) (hb : w.grownBy w' r) (hg : some g ≠ r) : PRow K T w' g cap L := by
  obtain ⟨cur, hB, q⟩ := h
  exact ⟨cur, (hb.block g hB.lt hg).trans hB, q⟩
theorem PRow.row {α : Type} {K : IK α} {T : TypeId} {w : World} {g cap : Nat} {L : List α} (h : PRow K T w g cap L) : IRow K w (.slice (some ⟨g, 0, none⟩) L.length cap) L := by
  obtain ⟨cur, hB, _, h1, h2, hC⟩ := h
  exact ⟨_, cap, rfl, h1, h2, fun k hk => ⟨g, rfl, hB.lt, fun j z e => hB.cell _ (hC k hk j z e)⟩⟩
theorem CIs.take {α : Type} {K : IK α} {cur : Array Value} {L : List α} (h : CIs K cur L) (hm : 0 < K.m) {cap : Nat} (hc : L.length ≤ cap) (hs : cur.size = cap * K.m) : cur.toList.take (L.length * K.m) = icells K L := by
  have h1 : L.length * K.m ≤ cap * K.m := Nat.mul_le_mul_right _ hc
  apply List.ext_getElem?
  intro q
  by_cases hq : q < L.length * K.m
  · rw [List.getElem?_take, if_pos hq]
    have hk : q / K.m < L.length := Nat.div_lt_of_lt_mul (by rw [Nat.mul_comm]; exact hq)
    have hj : q % K.m < K.m := Nat.mod_lt _ hm
    have hd : q / K.m * K.m + q % K.m = q := by rw [Nat.mul_comm]; exact Nat.div_add_mod q K.m
    have e : (K.iv (atK K L (q / K.m)))[q % K.m]? = some ((K.iv (atK K L (q / K.m)))[q % K.m]'(by rw [K.len]; exact hj)) := by simp
    have a := h _ hk _ _ e
    have b := icells_at L _ _ _ hk e
    rw [hd] at a b
    rw [b]
    simpa using a
  · rw [List.getElem?_eq_none (by simp; omega), List.getElem?_eq_none (by rw [icells_len]; omega)]
theorem CIs.of_take {α : Type} {K : IK α} {cur : Array Value} {L : List α} (h : cur.toList.take (L.length * K.m) = icells K L) : CIs K cur L := by
  intro k hk j z e
  have hj : j < K.m := by rw [← K.len (atK K L k)]; exact (List.getElem?_eq_some_iff.1 e).1
  have b := icells_at L k j z hk e
  have hq : k * K.m + j < L.length * K.m := by
    have : (k + 1) * K.m ≤ L.length * K.m := Nat.mul_le_mul_right _ hk
    rw [Nat.add_mul] at this
    omega
  rw [← h, List.getElem?_take, if_pos hq] at b
  simpa using b
theorem PRow.owns {α : Type} {K : IK α} {T : TypeId} {w : World} {g cap base : Nat} {L : List α} (h : PRow K T w g cap L) (hm : 0 < K.m) (hg : base ≤ g) : w.ownsRow base T K.m (.slice (some ⟨g, 0, none⟩) L.length cap) L.length (icells K L) := by
  obtain ⟨cur, hB, hs, h1, h2, hC⟩ := h
  exact ⟨icells_len L, .inr ⟨g, cap, cur, rfl, hg, hB, h1, h2, hs, hC.take hm h1 hs⟩⟩
theorem PRow.of_owns {α : Type} {K : IK α} {T : TypeId} {w : World} {base : Nat} {v : Value} {L : List α} (h : w.ownsRow base T K.m v L.length (icells K L)) (h0 : 0 < L.length) : ∃ g cap, v = .slice (some ⟨g, 0, none⟩) L.length cap ∧ base ≤ g ∧ PRow K T w g cap L := by
  obtain ⟨_, ⟨_, h⟩ | ⟨g, cap, cur, rfl, hg, hB, h1, h2, hs, hC⟩⟩ := h
  · omega
  · exact ⟨g, cap, rfl, hg, cur, hB, hs, h1, h2, CIs.of_take hC⟩
theorem icells_app {α : Type} {K : IK α} : ∀ (l l' : List α), icells K (l ++ l') = icells K l ++ icells K l'
  | [], l' => rfl
  | a :: l, l' => by rw [List.cons_append, icells, icells, icells_app l l', List.append_assoc]
theorem icell_one {α : Type} {K : IK α} {l : List α} : ∀ u ∈ icells K l, u.oneCell' = true := by
  induction l with
  | nil => simp [icells]
  | cons a l ih =>
    intro u hu
    rcases List.mem_append.1 hu with h | h
    · obtain ⟨z, _, rfl⟩ := List.mem_map.1 h
      rfl
    · exact ih u h
theorem PRow.shorter {α : Type} {K : IK α} {T : TypeId} {w : World} {g cap : Nat} {L : List α} (h : PRow K T w g cap L) (n : Nat) : PRow K T w g cap (L.take n) := by
  obtain ⟨cur, hB, hs, h1, h2, hC⟩ := h
  refine ⟨cur, hB, hs, by simp; omega, h2, fun k hk j z e => hC k (by simp at hk; omega) j z ?_⟩
  simp at hk
  have hkn : k < n := by omega
  have : atK K (L.take n) k = atK K L k := by simp [atK, List.getD, hkn]
  rw [← this]
  exact e
end Go.Proofs.YtjojgfdfbkmlkaaGreatDoor.ctr
namespace Go.Proofs.YtjojgfdfbkmlkaaGreatDoor.ctr
open Go.RowKit
def putI (w : World) (g b : Nat) : Nat → List Int → World
  | _, [] => w
  | j, z :: zs => putI (w.setCell ⟨g, b + j, none⟩ (.int .i64 z)) g b (j + 1) zs
theorem putI_blk : ∀ (zs : List Int) (w : World) (g b j : Nat) (cur : Array Value) (T : TypeId), Blk w g cur T → Blk (putI w g b j zs) g (setI cur b j zs) T
  | [], _, _, _, _, _, _, h => h
  | _ :: zs, _, g, b, j, _, T, h => putI_blk zs _ g b (j + 1) _ T (h.set (b + j) _)
theorem putI_grown : ∀ (zs : List Int) (w : World) (g b j : Nat), w.grownBy (putI w g b j zs) (some g)
  | [], _, _, _, _ => ⟨rfl, rfl, rfl, Nat.le_refl _, fun _ _ _ => rfl⟩
  | z :: zs, w, g, b, j => by
    have h := putI_grown zs (w.setCell ⟨g, b + j, none⟩ (.int .i64 z)) g b (j + 1)
    refine ⟨h.os, h.tape, h.output, Nat.le_trans (by rw [World.size_setCell]; exact Nat.le_refl _) h.size, fun k hk hn => ?_⟩
    rw [putI, h.block k (by rw [World.size_setCell]; exact hk) hn]
    exact Below.heap_setCell w _ _ k (fun e => hn (by rw [e]))
theorem grown_two {w w1 w2 : World} {r : Option Nat} (h : w.grownBy w1 r) (k : w1.grownBy w2 r) : w.grownBy w2 r := ⟨k.os.trans h.os, k.tape.trans h.tape, k.output.trans h.output, Nat.le_trans h.size k.size, fun j hj hn => (k.block j (Nat.lt_of_lt_of_le hj h.size) hn).trans (h.block j hj hn)⟩
theorem PRow.put {α : Type} {K : IK α} {T : TypeId} {w : World} {g cap : Nat} {L : List α} (h : PRow K T w g cap L) {i : Nat} (hi : i < L.length) (x : α) : PRow K T (putI w g (i * K.m) 0 (K.iv x)) g cap (L.set i x) := by
  obtain ⟨cur, hB, hs, h1, h2, hC⟩ := h
  exact ⟨_, putI_blk _ w g _ 0 cur T hB, by rw [setI_size, hs], by simpa using h1, h2, hC.set x hi h1 hs⟩
theorem PRow.swapped {w : World} {g cap i j : Nat} {T : TypeId} {L : List PSeg} (h : PRow psK T w g cap L) (hi : i < L.length) (hj : j < L.length) : PRow psK T (putI (putI w g (i * 6) 0 (psK.iv (atK psK L j))) g (j * 6) 0 (psK.iv (atK psK L i))) g cap (swP L i j) ∧ w.grownBy (putI (putI w g (i * 6) 0 (psK.iv (atK psK L j))) g (j * 6) 0 (psK.iv (atK psK L i))) (some g) :=
  ⟨(h.put hi (atK psK L j)).put (by simpa using hj) (atK psK L i), grown_two (putI_grown _ _ _ _ _) (putI_grown _ _ _ _ _)⟩
theorem end_void {P : Program} {fn : Func} {R : Ending → World → Prop} {a : Act} {w : World} (hr : fn.results = #[]) (hd : a.defers = []) (hR : R (.returned (.tuple #[])) w) : bodyPost P fn R .normal a w := ⟨hd, .tuple #[], by simp [results, hr], hR⟩
theorem swap_world (w : World) (g i j : Nat) (a b : PSeg) : ((((((((((((w.setCell ⟨g, i * 6, none⟩ (.int .i64 b.s.fr)).setCell ⟨g, i * 6 + 1, none⟩ (.int .i64 b.s.to)).setCell ⟨g, i * 6 + 2, none⟩ (.int .i64 b.s.cal)).setCell ⟨g, i * 6 + 3, none⟩ (.int .i64 b.s.sty)).setCell ⟨g, i * 6 + 4, none⟩ (.int .i64 b.s.off)).setCell ⟨g, i * 6 + 5, none⟩ (.int .i64 b.at')).setCell ⟨g, j * 6, none⟩ (.int .i64 a.s.fr)).setCell ⟨g, j * 6 + 1, none⟩ (.int .i64 a.s.to)).setCell ⟨g, j * 6 + 2, none⟩ (.int .i64 a.s.cal)).setCell ⟨g, j * 6 + 3, none⟩ (.int .i64 a.s.sty)).setCell ⟨g, j * 6 + 4, none⟩ (.int .i64 a.s.off)).setCell ⟨g, j * 6 + 5, none⟩ (.int .i64 a.at')) = putI (putI w g (i * 6) 0 (psK.iv b)) g (j * 6) 0 (psK.iv a) := rfl
theorem PRow.drew {α : Type} {K : IK α} {T : TypeId} {w : World} {g cap : Nat} {L : List α} (h : PRow K T w g cap L) : PRow K T w.drew g cap L := h
theorem grown_drew {w w1 : World} {r : Option Nat} (h : w.grownBy w1 r) : w.grownBy w1.drew r := ⟨h.os, h.tape, h.output, h.size, h.block⟩
set_option maxHeartbeats 1000000 in
theorem heapSwap (g cap i j : Nat) (L : List PSeg) (w : World) (hP : PRow psK 336 w g cap L) (hi : i < L.length) (hj : j < L.length) :
    Calls Tryz.prog 429 #[.slice (some ⟨g, 0, none⟩) L.length cap, .int .i64 (i : Int), .int .i64 (j : Int)] w fun e w' => e = .returned (.tuple #[]) ∧ PRow psK 336 w' g cap (swP L i j) ∧ w.grownBy w' (some g) := by
  obtain ⟨a0, a1, a2, a3, a4, a5⟩ := (hP.at hi).ps
  obtain ⟨b0, b1, b2, b3, b4, b5⟩ := (hP.at hj).ps
  have hf : ∀ k, w.frozen? ⟨g, k, none⟩ = false := by obtain ⟨cur, hB, _⟩ := hP; exact hB.thaw
  have hc : L.length ≤ cap := by obtain ⟨cur, _, _, h, _⟩ := hP; exact h
  have hm : cap ≤ maxLen := by obtain ⟨cur, _, _, _, h, _⟩ := hP; exact h
  unfold maxLen at hm
  have HP := hideP hP
  clear hP
  by_cases hij : i = j
  · subst hij
    clear b0 b1 b2 b3 b4 b5
    have HS := hideP (HP.out.swapped hi hi)
    generalize atK psK L i = a at *
    go_enter Tryz.func429, Tryz.ntmps429
    go_wp2_with fail
    go_region
    all_goals go_wp2_with fail
    all_goals rw [swap_world]
    all_goals exact end_void Tryz.results429 rfl ⟨rfl, HS.out.1.drew, grown_drew HS.out.2⟩
  · have HS := hideP (HP.out.swapped hi hj)
    generalize atK psK L i = a at *
    generalize atK psK L j = b at *
    go_enter Tryz.func429, Tryz.ntmps429
    go_wp2_with fail
    go_region
    all_goals go_wp2_with fail
    all_goals rw [swap_world]
    all_goals exact end_void Tryz.results429 rfl ⟨rfl, HS.out.1.drew, grown_drew HS.out.2⟩
end Go.Proofs.YtjojgfdfbkmlkaaGreatDoor.ctr
namespace Go.Proofs.YtjojgfdfbkmlkaaGreatDoor.ctr
open Go.RowKit
structure HS (base : Nat) (w : World) (hb g cap : Nat) (L : List PSeg) : Prop where
  box : Blk w hb #[.slice (some ⟨g, 0, none⟩) L.length cap] 333
  row : PRow psK 336 w g cap L
  ne : g ≠ hb
  lo : base ≤ hb
  lg : base ≤ g
theorem HS.next {base : Nat} {w w' : World} {hb g cap : Nat} {L : List PSeg} (h : HS base w hb g cap L) (hB : Below w.heap.size w w') : HS base w' hb g cap L := ⟨h.box.below hB h.box.lt, h.row.below hB h.row.lt, h.ne, h.lo, h.lg⟩
theorem HS.sz {base : Nat} {w : World} {hb g cap : Nat} {L : List PSeg} (h : HS base w hb g cap L) : base ≤ w.heap.size := Nat.le_trans h.lo (Nat.le_of_lt h.box.lt)
theorem below_grown2 {base : Nat} {w w' : World} {r : Option Nat} (h : w.grownBy w' r) (hs : base ≤ w.heap.size) (hr : ∀ k, r = some k → base ≤ k) : Below base w w' := ⟨h.os, h.tape, h.output, h.size, fun k hk => h.block k (by omega) (fun e => by have := hr k e.symm; omega)⟩
theorem info_ps : (Tryz.prog.info? 336).map (fun i => (i.zero, i.size, i.bytes)) = some (some (.agg #[.int .i64 0, .int .i64 0, .int .i64 0, .int .i64 0, .int .i64 0, .int .i64 0]), 6, 48) := by kernel_rfl
theorem news_ps (w : World) (x : PSeg) (t : TypeId) : ∀ j u, (icell psK x)[j]? = some u → (w.alloc (.cells (icell psK x).toArray t)).cell? ((⟨w.heap.size, 0, none⟩ : Addr).add j) = some u := by
  intro j u h
  have := (Blk.new w (icell psK x).toArray t).cell j (v := u) (by simpa using h)
  rw [show ((⟨w.heap.size, 0, none⟩ : Addr).add j) = ⟨w.heap.size, j, none⟩ from by unfold Addr.add; split <;> simp_all]
  exact this
theorem push_done {base hb g cap : Nat} {L : List PSeg} {x : PSeg} {w w1 : World} {o : Obj} {g' cap' : Nat} (h : HS base w hb g cap L) (hown : w1.ownsRow base 336 6 (.slice (some ⟨g', 0, none⟩) (L.length + 1) cap') (L.length + 1) (icells psK L ++ icell psK x)) (hgrow : (w.alloc o).drew.grownBy w1 (Value.slice (some ⟨g, 0, none⟩) L.length cap).ownBlock) (hat : (Value.slice (some ⟨g, 0, none⟩) L.length cap).ownBlock = some g' ∨ g' = w.heap.size + 1) :
    HS base (w1.setCell ⟨hb, 0, none⟩ (.slice (some ⟨g', 0, none⟩) (L.length + 1) cap')) hb g' cap' (L ++ [x]) ∧ Below base w (w1.setCell ⟨hb, 0, none⟩ (.slice (some ⟨g', 0, none⟩) (L.length + 1) cap')) := by
  have hlen : (L ++ [x]).length = L.length + 1 := by simp
  have hne : g' ≠ hb := by
    rcases hat with e | e
    · have e' : g = g' := by simpa [Value.ownBlock] using e
      rw [← e']; exact h.ne
    · have := h.box.lt; omega
  have hg' : base ≤ g' := by
    rcases hat with e | e
    · have e' : g = g' := by simpa [Value.ownBlock] using e
      rw [← e']; exact h.lg
    · have := h.sz; omega
  have hB : Blk w1 hb #[.slice (some ⟨g, 0, none⟩) L.length cap] 333 := by
    refine (hgrow.block hb ?_ ?_).trans (h.box.alloc o)
    · show hb < (w.alloc o).heap.size
      rw [World.size_alloc]
      have := h.box.lt
      omega
    · exact fun e => h.ne (by simpa [Value.ownBlock] using e.symm)
  obtain ⟨g2, c2, e2, _, hP⟩ := PRow.of_owns (K := psK) (L := L ++ [x]) (v := .slice (some ⟨g', 0, none⟩) (L.length + 1) cap') (by rw [hlen, icells_app, show icells psK [x] = icell psK x by simp [icells]]; exact hown) (by simp)
  have e3 : g' = g2 ∧ cap' = c2 := by simpa using e2
  obtain ⟨rfl, rfl⟩ := e3
  refine ⟨⟨by rw [hlen]; exact hB.set 0 _, ?_, hne, h.lo, hg'⟩, ?_⟩
  · obtain ⟨cur, q1, q2⟩ := hP
    exact ⟨cur, q1.other (Ne.symm hne), q2⟩
  · have h1 : Below base w (w.alloc o).drew := ((Below.refl base w).alloc h.sz o).drew
    have h2 : Below base (w.alloc o).drew w1 := below_grown2 hgrow (by show base ≤ (w.alloc o).heap.size; rw [World.size_alloc]; have := h.sz; omega) (fun k e => by
      have e' : g = k := by simpa [Value.ownBlock] using e
      rw [← e']; exact h.lg)
    exact (h1.trans h2).setCell (p := ⟨hb, 0, none⟩) h.lo _
theorem is_ps (v : Value) (w : World) : (Instr.typeAssert (.iface 336 v) 20 336 false).run Tryz.prog w = .ok v w := by kernel_rfl
set_option maxRecDepth 100000 in
set_option maxHeartbeats 2000000 in
theorem heapPushM (base hb g cap : Nat) (L : List PSeg) (x : PSeg) (w : World) (h : HS base w hb g cap L) (hl : L.length < 1048576) :
    Calls Tryz.prog 428 #[.pointer (some ⟨hb, 0, none⟩), .iface 336 (.agg #[.int .i64 x.s.fr, .int .i64 x.s.to, .int .i64 x.s.cal, .int .i64 x.s.sty, .int .i64 x.s.off, .int .i64 x.at'])] w fun e w' => e = .returned (.tuple #[]) ∧ ∃ g' cap', HS base w' hb g' cap' (L ++ [x]) ∧ Below base w w' := by
  obtain ⟨i0, hi, he⟩ := Option.map_eq_some_iff.1 info_ps
  simp only [Prod.mk.injEq] at he
  obtain ⟨hz0, hz1, hz2⟩ := he
  have hc := h.box.cell 0 rfl
  have hf := h.box.thaw 0
  have hlt := h.box.lt
  have hown : Hid ((w.alloc (.cells (icell psK x).toArray 336)).ownsRow base 336 6 (.slice (some ⟨g, 0, none⟩) L.length cap) L.length (icells psK L)) := (h.row.owns (by decide) h.lg).alloc _
  have hnews := hideP (news_ps w x 336)
  have HK : Hid ((w.alloc (.cells #[.int .i64 x.s.fr, .int .i64 x.s.to, .int .i64 x.s.cal, .int .i64 x.s.sty, .int .i64 x.s.off, .int .i64 x.at'] 336)).drew.cell? ⟨hb, 0, none⟩ = some (.slice (some ⟨g, 0, none⟩) L.length cap) ∧ (w.alloc (.cells #[.int .i64 x.s.fr, .int .i64 x.s.to, .int .i64 x.s.cal, .int .i64 x.s.sty, .int .i64 x.s.off, .int .i64 x.at'] 336)).drew.frozen? ⟨hb, 0, none⟩ = false) := ⟨(h.box.alloc _).cell 0 rfl, (h.box.alloc _).thaw 0⟩
  have HLT : Hid (hb < (w.alloc (.cells #[.int .i64 x.s.fr, .int .i64 x.s.to, .int .i64 x.s.cal, .int .i64 x.s.sty, .int .i64 x.s.off, .int .i64 x.at'] 336)).drew.heap.size) := by
    show hb < (w.alloc _).heap.size
    rw [World.size_alloc]
    have := h.box.lt
    omega
  have HNE : Hid (some hb ≠ (Value.slice (some ⟨g, 0, none⟩) L.length cap).ownBlock) := fun e => h.ne (by simpa [Value.ownBlock] using e.symm)
  have H := hideP h
  have hsz := hideP h.sz
  have hta := is_ps
  clear h
  go_enter Tryz.func428, Tryz.ntmps428
  go_wp2_with fail
  go_region_law
    ((refine step_append_lies _ (by rfl) _ _ 333 (by rfl) base 336 i0 (.agg #[.int .i64 0, .int .i64 0, .int .i64 0, .int .i64 0, .int .i64 0, .int .i64 0]) 6 48 Tryz.underlying333 hi hz0 hz1 hz2 rfl (by decide) _ L.length (icells psK L) (by rfl) hown.out ⟨w.heap.size, 0, none⟩ 1 1 (icell psK x) (by rfl) rfl hnews.out (by simp [icell, Value.oneCell']) (by omega) (by unfold maxLen; omega) (by omega) (by have := hsz.out; show base ≤ (w.alloc _).heap.size; rw [World.size_alloc]; omega) (w.heap.size + 1) (by simp) ?_; intro g' cap' w1 hown1 hgrow hat hlt1; have q1 := (hgrow.cell_far ⟨hb, 0, none⟩ HLT.out HNE.out).trans HK.out.1; have q2 := (hgrow.frozen_far ⟨hb, 0, none⟩ HLT.out HNE.out).trans HK.out.2))
  all_goals
    have HD := hideP (push_done H.out hown1 hgrow hat)
    clear hown1 hgrow hat hlt1 q1 q2
    go_wp2_with fail
    exact end_void Tryz.results428 rfl ⟨rfl, _, _, HD.out⟩
end Go.Proofs.YtjojgfdfbkmlkaaGreatDoor.ctr
