/- errors.Is by its contracts, where the target is the program's errNoTable: false at nil, true at a wrongReign (whose Unwrap answers that variable). Go's own text is walked. Contracts of the program's isBehind, reignNamed, checkReigns and ReignsOk: each answers its plain function, where the table of months and errNoTable hold what they do. Contract of the model's ReignsOk: it answers its plain function. -/
import Derived.Test.YtilpencbbdpgfaaGreatDoorJnQaa
import Derived.LaidEql
import Derived.Stop.Asserts
import Derived.RowKitTokens
import Derived.Test.YtilpencbbdpgfaaGreatDoorJnQaj
namespace Go.Proofs.YtilpencbbdpgfaaGreatDoor.ctr
open Go.RowKit Go.Extern.Stop Go.Stop Go.Extern
theorem isTypeOf (v : Value) (w : World) : (Extern.ReflectliteType.typeOf #[.iface 380 v]).run Tryz.prog w = .ok (.iface 300 (.agg #[.pointer (some ⟨10, 380, none⟩)])) w := by kernel_rfl
def cmpEntry : Array Value → Sem Value := Extern.ReflectliteType.method fun t => do Rtype.noPackHeld "Comparable" t; pure (.bool (← typeInfo t).comparable)
theorem isComparable (w : World) : (cmpEntry #[.agg #[.pointer (some ⟨10, 380, none⟩)]]).run Tryz.prog w = .ok (.bool true) w := by kernel_rfl
theorem isMethodComparable (v : Value) (w : World) : (Go.method 411 300 v "Comparable").run Tryz.prog w = .ok (417, v) w := by kernel_rfl
theorem isComp : (Tryz.prog.info? 380).map (·.comparable) = some true := by kernel_rfl
theorem isSize : (Tryz.prog.info? 399).map (·.size) = some 1 := by kernel_rfl
theorem noIsR (v : Value) (xT : TypeId) (w : World) : (Instr.typeAssert (.iface 253 v) xT 302 true).run Tryz.prog w = .ok (.tuple #[.nilIface, .bool false]) w := run_typeAssert_lacksB Tryz.underlying302 (by kernel_rfl) (by kernel_rfl) v xT w
theorem hasUnwrapR (v : Value) (xT : TypeId) (w : World) : (Instr.typeAssert (.iface 253 v) xT 305 true).run Tryz.prog w = .ok (.tuple #[.iface 253 v, .bool true]) w := run_typeAssert_hasB Tryz.underlying305 (by kernel_rfl) v xT w
theorem methodUnwrap (v : Value) (w : World) : (Go.method 411 253 v "Unwrap").run Tryz.prog w = .ok (401, v) w := by kernel_rfl
def Sent (w : World) (a : Addr) : Prop := w.cell? ⟨0, 0, none⟩ = some (.iface 380 (.pointer (some a)))
theorem Sent.later {w w' : World} {a : Addr} (h : Sent w a) (hb : Below w.heap.size w w') : Sent w' a := Later.at h ⟨w', hb⟩
theorem implUnwrap (z : Int) (a : Addr) (w : World) (h : Sent w a) : Calls Tryz.prog 401 #[.agg #[.int .i64 z]] w fun e w' => e = .returned (.iface 380 (.pointer (some a))) ∧ Below w.heap.size w w' := by
  have hb : Below w.heap.size w (w.alloc (.cells #[.int .i64 z] 253)) := (Below.refl _ _).alloc (Nat.le_refl _) _
  have h1 : Sent (w.alloc (.cells #[.int .i64 z] 253)) a := h.later hb
  have HB := hideP hb
  unfold Sent at h1
  clear hb h
  go_enter Tryz.func401, Tryz.ntmps401
  go_wp2
  go_ret
  exact ⟨rfl, HB.out⟩
set_option maxHeartbeats 2000000 in
theorem isWrong (z : Int) (a : Addr) (w : World) (h : Sent w a) : Calls Tryz.prog 247 #[.iface 253 (.agg #[.int .i64 z]), .iface 380 (.pointer (some a)), .bool true] w fun e w' => e = .returned (.bool true) ∧ Below w.heap.size w w' := by
  obtain ⟨i, hi, hcmp⟩ := Option.map_eq_some_iff.1 isComp
  obtain ⟨j, hj, hjs⟩ := Option.map_eq_some_iff.1 isSize
  have nW := noIsR
  have uW := hasUnwrapR
  have mU := methodUnwrap
  have heq := fun W => run_eql_iface_ptr_same (P := Tryz.prog) W a Tryz.underlying192 Tryz.underlying380 hi hcmp hj
  have hty := fun W => run_eql_iface_types (P := Tryz.prog) 253 380 (.agg #[.int .i64 z]) (.pointer (some a)) Tryz.underlying192 (by decide) W
  go_enter Tryz.func247, Tryz.ntmps247
  go_wp2
  refine wp_loop_rounds 2 ?_
  rw [rounds_succ]
  go_wp2_with fail
  refine (implUnwrap z a _ h).mono ?_
  rintro e w1 ⟨rfl, hb⟩
  have HB := hideP hb
  clear hb
  go_wp2
  rw [rounds_succ]
  go_wp2
  go_ret
  exact ⟨rfl, HB.out⟩
set_option maxHeartbeats 2000000 in
theorem implIsWrong (z : Int) (a : Addr) (w : World) (h : Sent w a) : Calls Tryz.prog 188 #[.iface 253 (.agg #[.int .i64 z]), .iface 380 (.pointer (some a))] w fun e w' => e = .returned (.bool true) ∧ Below w.heap.size w w' := by
  have h8 := @run_callFunc_extern Tryz.prog 246 _ Extern.ReflectliteType.typeOf Tryz.func246 (by kernel_rfl) (by kernel_rfl) (by kernel_rfl) (by kernel_rfl)
  have h32 := @run_callFunc_extern Tryz.prog 417 _ cmpEntry Tryz.func417 (by kernel_rfl) (by kernel_rfl) (by kernel_rfl) (by kernel_rfl)
  have tT := isTypeOf
  have cT := isComparable
  have mR := isMethodComparable
  go_enter Tryz.func188, Tryz.ntmps188
  go_wp2_with fail
  refine (isWrong z a _ h).mono ?_
  rintro e w1 ⟨rfl, hb⟩
  have HB := hideP hb
  clear hb
  go_wp2
  go_ret
  exact ⟨rfl, HB.out⟩
theorem implIsNil (b : Addr) (w : World) : Calls Tryz.prog 188 #[.nilIface, .iface 380 (.pointer (some b))] w fun e w' => e = .returned (.bool false) ∧ Below w.heap.size w w' := by
  have hn := run_eql_iface_nil_left (P := Tryz.prog) w 380 (.pointer (some b)) Tryz.underlying192
  go_enter Tryz.func188, Tryz.ntmps188
  go_wp2
  go_ret
  exact ⟨rfl, Below.refl _ _⟩
end Go.Proofs.YtilpencbbdpgfaaGreatDoor.ctr
namespace Go.Proofs.YtilpencbbdpgfaaGreatDoor.ctr
open Go.RowKit
def behB (la : List Rgn) (f : Int) : Bool := decide (la.length = 0) || decide ((rgA la (la.length - 1)).to < f)
def namedR (l : List Rgn) (s : ByteArray) : Int := rfind (isNamed s) l
noncomputable def okAt (l : List Rgn) (i : Nat) : Bool := rgnB (rgA l i) && (behB (l.take i) (rgA l i).fr && decide (namedR (l.take i) (rgA l i).name = -1))
noncomputable def okTo (l : List Rgn) : Nat → Bool
  | 0 => true
  | k + 1 => okTo l k && okAt l k
noncomputable def reignsOk (l : List Rgn) : Bool := decide (l.length ≤ 30) && okTo l l.length
theorem okTo_bad {l : List Rgn} {k : Nat} (h : okAt l k = false) : ∀ n, k < n → okTo l n = false
  | 0, hn => by omega
  | n + 1, hn => by
    unfold okTo
    by_cases e : k = n
    · subst e; rw [h, Bool.and_false]
    · rw [okTo_bad h n (by omega), Bool.false_and]
theorem okTo_next {l : List Rgn} {k : Nat} (h : okTo l k = true) (h' : okAt l k = true) : okTo l (k + 1) = true := by unfold okTo; rw [h, h']; rfl
theorem ok_bad {l : List Rgn} {k : Nat} (h : okAt l k = false) (hk : k < l.length) : reignsOk l = false := by unfold reignsOk; rw [okTo_bad h _ hk, Bool.and_false]
theorem ok_long {l : List Rgn} (h : 30 < l.length) : reignsOk l = false := by unfold reignsOk; rw [decide_eq_false (by omega), Bool.false_and]
theorem ok_all {l : List Rgn} (h : okTo l l.length = true) : reignsOk l = decide (l.length ≤ 30) := by unfold reignsOk; rw [h, Bool.and_true]
noncomputable def badV (l : List Rgn) : Nat → Nat → Value
  | 0, _ => .nilIface
  | n + 1, k => if okAt l k = true then badV l n (k + 1) else .iface 253 (.agg #[.int .i64 (k : Int)])
noncomputable def errV (l : List Rgn) : Value := if 30 < l.length then .iface 253 (.agg #[.int .i64 30]) else badV l l.length 0
theorem bad_next {l : List Rgn} {k : Nat} {V : Value} (hk : k < l.length) (h : okAt l k = true) (H : badV l (l.length - k) k = V) : badV l (l.length - (k + 1)) (k + 1) = V := by
  rw [show l.length - k = (l.length - (k + 1)) + 1 by omega, badV, if_pos h] at H
  exact H
theorem bad_stop {l : List Rgn} {k : Nat} {V : Value} (hk : k < l.length) (h : okAt l k = false) (H : badV l (l.length - k) k = V) : V = .iface 253 (.agg #[.int .i64 (k : Int)]) := by
  rw [show l.length - k = (l.length - (k + 1)) + 1 by omega, badV, if_neg (by rw [h]; simp)] at H
  exact H.symm
theorem bad_end {l : List Rgn} {k : Nat} {V : Value} (hk : l.length ≤ k) (H : badV l (l.length - k) k = V) : V = .nilIface := by
  rw [show l.length - k = 0 by omega] at H
  exact H.symm
theorem errV_cases (l : List Rgn) : (reignsOk l = true ∧ errV l = .nilIface) ∨ (reignsOk l = false ∧ ∃ z : Int, errV l = .iface 253 (.agg #[.int .i64 z])) := by
  unfold errV
  by_cases hl : 30 < l.length
  · rw [if_pos hl]
    exact .inr ⟨ok_long hl, _, rfl⟩
  rw [if_neg hl]
  have go : ∀ n k, n + k = l.length → okTo l k = true → (reignsOk l = true ∧ badV l (l.length - k) k = .nilIface) ∨ (reignsOk l = false ∧ ∃ z : Int, badV l (l.length - k) k = .iface 253 (.agg #[.int .i64 z])) := by
    intro n
    induction n with
    | zero =>
      intro k hk ho
      obtain rfl : k = l.length := by omega
      refine .inl ⟨?_, bad_end (Nat.le_refl _) rfl⟩
      rw [ok_all ho]
      exact decide_eq_true (by omega)
    | succ n ih =>
      intro k hk ho
      cases h : okAt l k
      · exact .inr ⟨ok_bad h (by omega), _, bad_stop (by omega) h rfl⟩
      · have := ih (k + 1) (by omega) (okTo_next ho h)
        rw [bad_next (by omega) h rfl] at this
        exact this
  exact go l.length 0 (by omega) rfl
theorem behB_take {l : List Rgn} {i : Nat} (hi : i ≤ l.length) (f : Int) : behB (l.take i) f = (decide (i = 0) || decide ((rgA l (i - 1)).to < f)) := by
  unfold behB
  rw [show (l.take i).length = i by simp [hi]]
  by_cases h : i = 0
  · subst h; rfl
  · rw [rgA_take (by omega)]
set_option maxHeartbeats 1000000 in
theorem implBehind (v : Value) (la : List Rgn) (s : ByteArray) (f t : Int) (w : World) (h : RRow w v la) : Calls Tryz.prog 249 #[v, .agg #[.string s, .int .i64 f, .int .i64 t]] w fun e w' => e = .returned (.bool (behB la f)) ∧ Below w.heap.size w w' := by
  obtain ⟨W0, hW0, c0, c1, c2, hBl⟩ := rgn_box w s f t 142
  obtain ⟨a, cap, rfl, hl, hm, _, H⟩ := h
  have HW0 := hideP hW0
  have HBl := hideP hBl
  unfold maxLen at hm
  by_cases hz : la.length = 0
  · have HR : Hid (behB la f = true) := by unfold Hid behB; rw [decide_eq_true hz]; rfl
    clear H hW0 hBl
    rw [hz]
    go_enter Tryz.func249, Tryz.ntmps249
    go_wp2_with fail
    rw [← HW0.out]
    refine wp_region_later (W := W0) (Below.refl _ _) (by kernel_rfl) (by kernel_rfl) ?_
    repeat (go_big_quiet_step (fail))
    refine wpQuiet_nil ?_
    intro _ hw'
    obtain ⟨x, rfl⟩ := hw'
    go_wp2
    go_ret
    exact ⟨ret_bool HR.out.symm, HBl.out x⟩
  · obtain ⟨N, hN⟩ : ∃ N, la.length = N + 1 := ⟨la.length - 1, by omega⟩
    obtain ⟨g, rfl, hg, hr⟩ := H N (by omega)
    have e2 : ∀ x : Later W0, x.w.cell? ⟨g, N * 3 + 2, none⟩ = some (.int .i64 (rgA la N).to) := fun x => (hr.below (hBl x) hg).2.2
    have HR : Hid (behB la f = decide ((rgA la N).to < f)) := by unfold Hid behB; rw [decide_eq_false hz, hN]; rfl
    clear H hW0 hBl hr
    rw [hN] at hl ⊢
    generalize (rgA la N).to = T at *
    have hz1 : ((N : Int) + 1 == 0) = false := by simp; omega
    clear hN hz
    go_enter Tryz.func249, Tryz.ntmps249
    go_wp2_with fail
    rw [← HW0.out]
    refine wp_region_later (W := W0) (Below.refl _ _) (by kernel_rfl) (by kernel_rfl) ?_
    repeat (go_big_quiet_step (fail))
    refine wpQuiet_nil ?_
    intro _ hw'
    obtain ⟨x, rfl⟩ := hw'
    go_wp2
    go_ret
    exact ⟨ret_bool HR.out.symm, HBl.out x⟩
set_option maxHeartbeats 1000000 in
theorem implNamed (v : Value) (l : List Rgn) (s : ByteArray) (w : World) (h : RRow w v l) : Calls Tryz.prog 250 #[v, .string s] w fun e w' => e = .returned (.int .i64 (namedR l s)) ∧ Below w.heap.size w w' := by
  obtain ⟨a, c, rfl, hl, hm, _, H⟩ := h
  have K := hideP H
  unfold maxLen at hm
  clear H
  go_enter Tryz.func250, Tryz.ntmps250
  go_wp2
  go_loopw [9] (fun i wr => ∃ k : Nat, k ≤ l.length ∧ i = .int .i64 (k : Int) ∧ Hid (rfFrom (isNamed s) (l.drop k) k = namedR l s) ∧ Below w.heap.size w wr) (fun i _ => l.length - (intOf i).toNat)
  case atStart => exact ⟨0, Nat.zero_le _, rfl, rfl, Below.refl _ _⟩
  case round =>
    obtain ⟨k, hk, rfl, HF, hB⟩ := hrel
    have HB := hideP hB
    clear hB
    by_cases hlt : k < l.length
    · obtain ⟨g, rfl, hg, x⟩ := K.out k hlt
      obtain ⟨a0, a1, a2⟩ := x.below HB.out hg
      have K1 := hideP (fun h => rf_hit (p := isNamed s) hlt h HF.out)
      have K2 := hideP (fun h => rf_miss (p := isNamed s) hlt h HF.out)
      clear x
      generalize rgA l k = r at *
      cases hq : (r.name.toList == s.toList)
      · have HN := hideP (K2.out (decide_eq_false (str_ne hq)))
        go_wp2
        exact ⟨⟨k + 1, by omega, by go_num, HN.out, HB.out.alloc HB.out.size _⟩, by simp [intOf]; omega⟩
      · have HN := hideP (K1.out (decide_eq_true (str_eq hq)))
        go_wp2
        go_ret
        exact ⟨ret_int HN.out.symm, HB.out.alloc HB.out.size _⟩
    · have HN := hideP (rf_end (by omega) HF.out)
      go_wp2
      go_ret
      exact ⟨ret_int HN.out.symm, HB.out⟩
theorem okAt_parts (l : List Rgn) (i : Nat) : (rgnB (rgA l i) = false ∧ okAt l i = false) ∨ (rgnB (rgA l i) = true ∧ behB (l.take i) (rgA l i).fr = false ∧ okAt l i = false) ∨ (rgnB (rgA l i) = true ∧ behB (l.take i) (rgA l i).fr = true ∧ (∃ q : Nat, namedR (l.take i) (rgA l i).name = (q : Int)) ∧ okAt l i = false) ∨ (rgnB (rgA l i) = true ∧ behB (l.take i) (rgA l i).fr = true ∧ namedR (l.take i) (rgA l i).name = -1 ∧ okAt l i = true) := by
  unfold okAt
  cases h1 : rgnB (rgA l i)
  · exact .inl ⟨rfl, rfl⟩
  right
  cases h2 : behB (l.take i) (rgA l i).fr
  · exact .inl ⟨rfl, rfl, rfl⟩
  right
  rcases rf_cases (isNamed (rgA l i).name) (l.take i) with ⟨h, _⟩ | ⟨q, _, h, _⟩
  · exact .inr ⟨rfl, rfl, h, by unfold namedR; rw [h]; rfl⟩
  · exact .inl ⟨rfl, rfl, ⟨q, h⟩, by unfold namedR; rw [h, decide_eq_false (by omega)]; rfl⟩
set_option maxHeartbeats 2000000 in
theorem implCheck (v : Value) (l : List Rgn) (w : World) (h : RRow w v l) (hT : Tab w) : Calls Tryz.prog 189 #[v] w fun e w' => e = .returned (errV l) ∧ Below w.heap.size w w' := by
  have HH := hideP h
  obtain ⟨a, c, rfl, hl, hm, hn, H⟩ := h
  have K := hideP H
  have HN := hideP hn
  have HT := hideP hT
  unfold maxLen at hm
  clear H hn hT
  by_cases hlong : 30 < l.length
  · have HR : Hid (errV l = .iface 253 (.agg #[.int .i64 30])) := by unfold Hid errV; rw [if_pos hlong]
    go_enter Tryz.func189, Tryz.ntmps189
    go_wp2
    go_ret
    exact ⟨by rw [HR.out]; rfl, Below.refl _ _⟩
  have HE : Hid (badV l (l.length - 0) 0 = errV l) := by unfold Hid errV; rw [if_neg hlong]; rfl
  go_enter Tryz.func189, Tryz.ntmps189
  go_wp2
  go_loopw [12] (fun i wr => ∃ k : Nat, k ≤ l.length ∧ i = .int .i64 (k : Int) ∧ Hid (badV l (l.length - k) k = errV l) ∧ Below w.heap.size w wr) (fun i _ => l.length - (intOf i).toNat)
  case atStart => exact ⟨0, Nat.zero_le _, rfl, HE.out, Below.refl _ _⟩
  case round =>
    obtain ⟨k, hk, rfl, HF, hB⟩ := hrel
    have HB := hideP hB
    clear hB
    by_cases hlt : k < l.length
    · obtain ⟨g, rfl, hg, x⟩ := K.out k hlt
      obtain ⟨a0, a1, a2⟩ := x.below HB.out hg
      have hnk := HN.out k hlt
      obtain ⟨W0, hW0, c0, c1, c2, hBl⟩ := rgn_box wr (rgA l k).name (rgA l k).fr (rgA l k).to 142
      have hBw : ∀ y : Later W0, Below w.heap.size w y.w := fun y => HB.out.trans ((hBl y).mono HB.out.size)
      have KO : ∀ y : Later W0, Calls Tryz.prog 248 #[.agg #[.string (rgA l k).name, .int .i64 (rgA l k).fr, .int .i64 (rgA l k).to]] y.w fun e w' => e = .returned (.bool (rgnB (rgA l k))) ∧ Below y.w.heap.size y.w w' := fun y => implReignOk _ _ _ y.w hnk (HT.out.later (hBw y))
      have KB : ∀ y : Later W0, Calls Tryz.prog 249 #[.slice (some ⟨g, 0, none⟩) k c, .agg #[.string (rgA l k).name, .int .i64 (rgA l k).fr, .int .i64 (rgA l k).to]] y.w fun e w' => e = .returned (.bool (behB (l.take k) (rgA l k).fr)) ∧ Below y.w.heap.size y.w w' := fun y => implBehind _ _ _ _ _ y.w ((HH.out.below (hBw y)).take (by omega))
      have KN : ∀ y : Later W0, Calls Tryz.prog 250 #[.slice (some ⟨g, 0, none⟩) k c, .string (rgA l k).name] y.w fun e w' => e = .returned (.int .i64 (namedR (l.take k) (rgA l k).name)) ∧ Below y.w.heap.size y.w w' := fun y => implNamed _ _ _ y.w ((HH.out.below (hBw y)).take (by omega))
      have HP := hideP (okAt_parts l k)
      have J1 := hideP (fun h => bad_next hlt h HF.out)
      have J2 := hideP (fun h => bad_stop hlt h HF.out)
      have HW0 := hideP hW0
      have HBw := hideP hBw
      clear x hnk hW0 hBl hBw
      generalize behB (l.take k) (rgA l k).fr = q2 at *
      generalize namedR (l.take k) (rgA l k).name = q3 at *
      generalize rgnB (rgA l k) = q1 at *
      generalize rgA l k = r at *
      rcases HP.out with ⟨rfl, hf⟩ | ⟨rfl, rfl, hf⟩ | ⟨rfl, rfl, ⟨q, rfl⟩, hf⟩ | ⟨rfl, rfl, rfl, hf⟩
      · have HV := hideP (J2.out hf)
        clear hf
        go_wp2_with fail
        rw [← HW0.out]
        refine wp_region_later (W := W0) (Below.refl _ _) (by kernel_rfl) (by kernel_rfl) ?_
        repeat (go_big_quiet_step (first | (go_at_call 248; exact calls_later (KO _)) | fail))
        refine wpQuiet_nil ?_
        intro _ hw'
        obtain ⟨y, rfl⟩ := hw'
        go_wp2
        go_ret
        exact ⟨by rw [HV.out]; rfl, HBw.out y⟩
      · have HV := hideP (J2.out hf)
        clear hf
        go_wp2_with fail
        rw [← HW0.out]
        refine wp_region_later (W := W0) (Below.refl _ _) (by kernel_rfl) (by kernel_rfl) ?_
        repeat (go_big_quiet_step (first | (go_at_call 248; exact calls_later (KO _)) | (go_at_call 249; exact calls_later (KB _)) | fail))
        refine wpQuiet_nil ?_
        intro _ hw'
        obtain ⟨y, rfl⟩ := hw'
        go_wp2
        go_ret
        exact ⟨by rw [HV.out]; rfl, HBw.out y⟩
      · have HV := hideP (J2.out hf)
        have hq0 : (0 : Int) ≤ (q : Int) := by omega
        clear hf
        go_wp2_with fail
        rw [← HW0.out]
        refine wp_region_later (W := W0) (Below.refl _ _) (by kernel_rfl) (by kernel_rfl) ?_
        repeat (go_big_quiet_step (first | (go_at_call 248; exact calls_later (KO _)) | (go_at_call 249; exact calls_later (KB _)) | (go_at_call 250; exact calls_later (KN _)) | fail))
        refine wpQuiet_nil ?_
        intro _ hw'
        obtain ⟨y, rfl⟩ := hw'
        go_wp2
        go_ret
        exact ⟨by rw [HV.out]; rfl, HBw.out y⟩
      · have HV := hideP (J1.out hf)
        clear hf
        go_wp2_with fail
        rw [← HW0.out]
        refine wp_region_later (W := W0) (Below.refl _ _) (by kernel_rfl) (by kernel_rfl) ?_
        repeat (go_big_quiet_step (first | (go_at_call 248; exact calls_later (KO _)) | (go_at_call 249; exact calls_later (KB _)) | (go_at_call 250; exact calls_later (KN _)) | fail))
        refine wpQuiet_nil ?_
        intro _ hw'
        obtain ⟨y, rfl⟩ := hw'
        go_wp2
        exact ⟨⟨k + 1, by omega, by go_num, HV.out, HBw.out y⟩, by simp [intOf]; omega⟩
    · have HV := hideP (bad_end (by omega) HF.out)
      go_wp2
      go_ret
      exact ⟨by rw [HV.out]; rfl, HB.out⟩
set_option maxHeartbeats 1000000 in
theorem implReignsOk (v : Value) (l : List Rgn) (a : Addr) (w : World) (h : RRow w v l) (hT : Tab w) (hS : Sent w a) : Calls Tryz.prog 126 #[v] w fun e w' => e = .returned (.bool (reignsOk l)) ∧ Below w.heap.size w w' := by
  have KC : ∀ y : Later w, Calls Tryz.prog 189 #[v] y.w fun e w' => e = .returned (errV l) ∧ Below y.w.heap.size y.w w' := fun y => implCheck v l y.w (h.below y.below) (hT.later y.below)
  have KG : ∀ y : Later w, y.w.cell? ⟨0, 0, none⟩ = some (.iface 380 (.pointer (some a))) := fun y => hS.later y.below
  have KW : ∀ (z : Int) (y : Later w), Calls Tryz.prog 188 #[.iface 253 (.agg #[.int .i64 z]), .iface 380 (.pointer (some a))] y.w fun e w' => e = .returned (.bool true) ∧ Below y.w.heap.size y.w w' := fun z y => implIsWrong z a y.w (hS.later y.below)
  have HE := hideP (errV_cases l)
  clear h hT hS
  generalize errV l = E at *
  generalize reignsOk l = b at *
  rcases HE.out with ⟨rfl, rfl⟩ | ⟨rfl, z, rfl⟩
  · go_enter Tryz.func126, Tryz.ntmps126
    go_wp2_with fail
    refine wp_region_later (W := w) (Below.refl _ _) (by kernel_rfl) (by kernel_rfl) ?_
    repeat (go_big_quiet_step (first | (go_at_call 189; exact calls_later (KC _)) | (go_at_call 188; exact calls_later (implIsNil a _)) | fail))
    refine wpQuiet_nil ?_
    intro _ hw'
    obtain ⟨y, rfl⟩ := hw'
    go_wp2
    go_ret
    exact ⟨rfl, y.below⟩
  · go_enter Tryz.func126, Tryz.ntmps126
    go_wp2_with fail
    refine wp_region_later (W := w) (Below.refl _ _) (by kernel_rfl) (by kernel_rfl) ?_
    repeat (go_big_quiet_step (first | (go_at_call 189; exact calls_later (KC _)) | (go_at_call 188; exact calls_later (KW z _)) | fail))
    refine wpQuiet_nil ?_
    intro _ hw'
    obtain ⟨y, rfl⟩ := hw'
    go_wp2
    go_ret
    exact ⟨rfl, y.below⟩
end Go.Proofs.YtilpencbbdpgfaaGreatDoor.ctr
namespace Go.Proofs.YtilpencbbdpgfaaGreatDoor.ctr
open Go.RowKit
set_option maxRecDepth 100000 in
set_option maxHeartbeats 4000000 in
theorem specReignsOk (v : Value) (l : List Rgn) (w : World) (h : RRow w v l) : Calls Tryz.prog 104 #[v] w fun e w' => e = .returned (.bool (reignsOk l)) ∧ Below w.heap.size w w' := by
  obtain ⟨a, c, rfl, hl, hm, hn, H⟩ := h
  have K := hideP H
  have HN := hideP hn
  unfold maxLen at hm
  clear H hn
  go_enter Tryz.func104, Tryz.ntmps104
  go_wp2
  go_loopw [3] (fun i wr => ∃ k : Nat, k ≤ l.length ∧ i = .int .i64 (k : Int) ∧ Hid (okTo l k = true) ∧ Below w.heap.size w wr) (fun i _ => l.length - (intOf i).toNat)
  case atStart => exact ⟨0, Nat.zero_le _, rfl, rfl, Below.refl _ _⟩
  case round =>
    obtain ⟨k, hk, rfl, HF, hB⟩ := hrel
    have HB := hideP hB
    clear hB
    by_cases hlt : k < l.length
    · obtain ⟨g, rfl, hg, x⟩ := K.out k hlt
      obtain ⟨a0, a1, a2⟩ := x.below HB.out hg
      have hnk := HN.out k hlt
      obtain ⟨W0, hW0, c0, c1, c2, hBl⟩ := rgn_box wr (rgA l k).name (rgA l k).fr (rgA l k).to 142
      have hBw : ∀ y : Later W0, Below w.heap.size w y.w := fun y => HB.out.trans ((hBl y).mono HB.out.size)
      have KM : Hid (∀ m, m < k → ∀ y : Later W0, y.w.cell? ⟨g, m * 3, none⟩ = some (.string (rgA l m).name) ∧ y.w.cell? ⟨g, m * 3 + 2, none⟩ = some (.int .i64 (rgA l m).to)) := fun m hmk y => by
        obtain ⟨g', e, hg', z⟩ := K.out m (by omega)
        cases e
        exact ⟨(z.below (hBw y) hg').1, (z.below (hBw y) hg').2.2⟩
      have KN : ∀ y : Later W0, Calls Tryz.prog 100 #[.string (rgA l k).name] y.w fun e w' => e = .returned (.bool (nameOk (rgA l k).name)) ∧ w' = y.w := fun y => specNameOk _ y.w hnk
      have KF : ∀ y : Later W0, Calls Tryz.prog 168 #[.int .i64 (rgA l k).fr] y.w fun e w' => e = .returned (.bool (bothB (rgA l k).fr)) ∧ Below y.w.heap.size y.w w' := fun y => specDated _ y.w
      have KT : ∀ y : Later W0, Calls Tryz.prog 168 #[.int .i64 (rgA l k).to] y.w fun e w' => e = .returned (.bool (bothB (rgA l k).to)) ∧ Below y.w.heap.size y.w w' := fun y => specDated _ y.w
      have J1 := hideP (fun h => okTo_next HF.out (k := k) h)
      have J2 := hideP (fun h => ok_bad (k := k) h hlt)
      have HK : Hid (okAt l k = ((nameOk (rgA l k).name && (decide ((rgA l k).fr ≤ (rgA l k).to) && (bothB (rgA l k).fr && bothB (rgA l k).to))) && (behB (l.take k) (rgA l k).fr && decide (namedR (l.take k) (rgA l k).name = -1)))) := rfl
      have HW0 := hideP hW0
      have HBw := hideP hBw
      have HBH := hideP (behB_take (Nat.le_of_lt hlt) (rgA l k).fr)
      clear x hnk hW0 hBl hBw
      generalize rgA l k = r at *
      obtain ⟨nm, f, t⟩ := r
      dsimp only at a0 a1 a2 c0 c1 c2 KN KF KT HK HBH HW0
      generalize nameOk nm = b1 at *
      generalize hb2 : bothB f = b2 at *
      generalize hb3 : bothB t = b3 at *
      have HX : Hid (okAt l k = false → reignsOk l = false) := J2.out
      clear hb2 hb3
      cases b1
      · have _u := hlt
        have HR := hideP (HX.out (by rw [HK.out]; rfl))
        go_wp2_with fail
        rw [← HW0.out]
        refine wp_region_later (W := W0) (Below.refl _ _) (by kernel_rfl) (by kernel_rfl) ?_
        repeat (go_big_quiet_step (first | (go_at_call 100; exact calls_same (KN _)) | (go_at_call_of 168 f; exact calls_later (KF _)) | (go_at_call_of 168 t; exact calls_later (KT _)) | fail))
        refine wpQuiet_nil ?_
        intro _ hw'
        obtain ⟨y, rfl⟩ := hw'
        go_wp2
        go_ret
        exact ⟨ret_bool HR.out.symm, HBw.out y⟩
      by_cases hft : f ≤ t
      case neg =>
        have hd : decide (t < f) = true := decide_eq_true (by omega)
        have HR := hideP (HX.out (by rw [HK.out]; rw [decide_eq_false hft]; rfl))
        go_wp2_with fail
        rw [← HW0.out]
        refine wp_region_later (W := W0) (Below.refl _ _) (by kernel_rfl) (by kernel_rfl) ?_
        repeat (go_big_quiet_step (first | (go_at_call 100; exact calls_same (KN _)) | (go_at_call_of 168 f; exact calls_later (KF _)) | (go_at_call_of 168 t; exact calls_later (KT _)) | fail))
        refine wpQuiet_nil ?_
        intro _ hw'
        obtain ⟨y, rfl⟩ := hw'
        go_wp2
        go_ret
        exact ⟨ret_bool HR.out.symm, HBw.out y⟩
      have hd : decide (t < f) = false := decide_eq_false (by omega)
      cases b2
      · have _u := hlt
        have HR := hideP (HX.out (by rw [HK.out]; rw [decide_eq_true hft]; rfl))
        go_wp2_with fail
        rw [← HW0.out]
        refine wp_region_later (W := W0) (Below.refl _ _) (by kernel_rfl) (by kernel_rfl) ?_
        repeat (go_big_quiet_step (first | (go_at_call 100; exact calls_same (KN _)) | (go_at_call_of 168 f; exact calls_later (KF _)) | (go_at_call_of 168 t; exact calls_later (KT _)) | fail))
        refine wpQuiet_nil ?_
        intro _ hw'
        obtain ⟨y, rfl⟩ := hw'
        go_wp2
        go_ret
        exact ⟨ret_bool HR.out.symm, HBw.out y⟩
      cases b3
      · have _u := hlt
        have HR := hideP (HX.out (by rw [HK.out]; rw [decide_eq_true hft]; rfl))
        go_wp2_with fail
        rw [← HW0.out]
        refine wp_region_later (W := W0) (Below.refl _ _) (by kernel_rfl) (by kernel_rfl) ?_
        repeat (go_big_quiet_step (first | (go_at_call 100; exact calls_same (KN _)) | (go_at_call_of 168 f; exact calls_later (KF _)) | (go_at_call_of 168 t; exact calls_later (KT _)) | fail))
        refine wpQuiet_nil ?_
        intro _ hw'
        obtain ⟨y, rfl⟩ := hw'
        go_wp2
        go_ret
        exact ⟨ret_bool HR.out.symm, HBw.out y⟩
      have HK2 : Hid (okAt l k = (behB (l.take k) f && decide (namedR (l.take k) nm = -1))) := by unfold Hid; rw [HK.out, decide_eq_true hft]; rfl
      clear HK
      obtain rfl | ⟨j, rfl⟩ : k = 0 ∨ ∃ j, k = j + 1 := by cases k with | zero => exact .inl rfl | succ j => exact .inr ⟨j, rfl⟩
      · have HBE : Hid (behB (l.take 0) f = true) := by unfold Hid; rw [HBH.out]; rfl
        go_wp2_with fail
        rw [← HW0.out]
        refine wp_region_later (W := W0) (Below.refl _ _) (by kernel_rfl) (by kernel_rfl) ?_
        repeat (go_big_quiet_step (first | (go_at_call 100; exact calls_same (KN _)) | (go_at_call_of 168 f; exact calls_later (KF _)) | (go_at_call_of 168 t; exact calls_later (KT _)) | fail))
        refine wpQuiet_nil ?_
        intro _ hw'
        obtain ⟨y, rfl⟩ := hw'
        go_wp2_with fail
        go_loopw [5] (fun q wq => ∃ m : Nat, m ≤ 0 ∧ q = .int .i64 (m : Int) ∧ Hid (rfFrom (isNamed nm) ((l.take (0)).drop m) m = namedR (l.take (0)) nm) ∧ Below W0.heap.size W0 wq) (fun q _ => 0 - (intOf q).toNat)
        case atStart => exact ⟨0, Nat.zero_le _, rfl, rfl, y.below⟩
        case round =>
          obtain ⟨m, hmk, rfl, HG, hC⟩ := hrel
          have HC := hideP hC
          clear hC
          have hlen : (l.take (0)).length = 0 := by rw [List.length_take]; omega
          have HLn := hideP hlen
          clear hlen
          have GN := hideP (rf_end (by rw [HLn.out]; omega) HG.out)
          obtain rfl : m = 0 := by omega
          have HR := hideP (J1.out (by rw [HK2.out, GN.out, HBE.out]; rfl))
          have HCw : Hid (Below w.heap.size w wr) := HBw.out ⟨wr, HC.out⟩
          go_wp2
          exact ⟨⟨0 + 1, by omega, by go_num, HR.out, HCw.out⟩, by simp [intOf]; omega⟩
      · obtain ⟨_, q2⟩ : _ ∧ (∀ y : Later W0, y.w.cell? ⟨g, j * 3 + 2, none⟩ = some (.int .i64 (rgA l j).to)) := ⟨trivial, fun y => (KM.out j (by omega) y).2⟩
        have HBH2 : Hid (behB (l.take (j + 1)) f = decide ((rgA l j).to < f)) := by unfold Hid; rw [HBH.out, decide_eq_false (by omega)]; rfl
        clear HBH
        generalize (rgA l j).to = T at *
        have hj0 : decide ((0 : Int) < (j : Int) + 1) = true := decide_eq_true (by omega)
        by_cases hTf : T < f
        case neg =>
          have hd2 : decide (f ≤ T) = true := decide_eq_true (by omega)
          have HR := hideP (HX.out (by rw [HK2.out, HBH2.out, decide_eq_false hTf]; rfl))
          go_wp2_with fail
          rw [← HW0.out]
          refine wp_region_later (W := W0) (Below.refl _ _) (by kernel_rfl) (by kernel_rfl) ?_
          repeat (go_big_quiet_step (first | (go_at_call 100; exact calls_same (KN _)) | (go_at_call_of 168 f; exact calls_later (KF _)) | (go_at_call_of 168 t; exact calls_later (KT _)) | fail))
          refine wpQuiet_nil ?_
          intro _ hw'
          obtain ⟨y, rfl⟩ := hw'
          go_wp2
          go_ret
          exact ⟨ret_bool HR.out.symm, HBw.out y⟩
        have hd2 : decide (f ≤ T) = false := decide_eq_false (by omega)
        have HBE : Hid (behB (l.take (j + 1)) f = true) := by unfold Hid; rw [HBH2.out, decide_eq_true hTf]
        go_wp2_with fail
        rw [← HW0.out]
        refine wp_region_later (W := W0) (Below.refl _ _) (by kernel_rfl) (by kernel_rfl) ?_
        repeat (go_big_quiet_step (first | (go_at_call 100; exact calls_same (KN _)) | (go_at_call_of 168 f; exact calls_later (KF _)) | (go_at_call_of 168 t; exact calls_later (KT _)) | fail))
        refine wpQuiet_nil ?_
        intro _ hw'
        obtain ⟨y, rfl⟩ := hw'
        go_wp2_with fail
        go_loopw [5] (fun q wq => ∃ m : Nat, m ≤ (j + 1) ∧ q = .int .i64 (m : Int) ∧ Hid (rfFrom (isNamed nm) ((l.take ((j + 1))).drop m) m = namedR (l.take ((j + 1))) nm) ∧ Below W0.heap.size W0 wq) (fun q _ => (j + 1) - (intOf q).toNat)
        case atStart => exact ⟨0, Nat.zero_le _, rfl, rfl, y.below⟩
        case round =>
          obtain ⟨m, hmk, rfl, HG, hC⟩ := hrel
          have HC := hideP hC
          clear hC
          have hlen : (l.take ((j + 1))).length = (j + 1) := by rw [List.length_take]; omega
          have HLn := hideP hlen
          clear hlen
          by_cases hml : m < (j + 1)
          · have e0 := fun y => (KM.out m hml y).1
            have G1 := hideP (fun h => rf_hit (p := isNamed nm) (by rw [HLn.out]; exact hml) h HG.out)
            have G2 := hideP (fun h => rf_miss (p := isNamed nm) (by rw [HLn.out]; exact hml) h HG.out)
            rw [rgA_take hml] at G1 G2
            generalize rgA l m = r2 at *
            cases hq : (r2.name.toList == nm.toList)
            · have GN := hideP (G2.out (decide_eq_false (str_ne hq)))
              go_wp2_with fail
              refine wp_region_later (W := W0) HC.out (by kernel_rfl) (by kernel_rfl) ?_
              repeat (go_big_quiet_step (fail))
              refine wpQuiet_nil ?_
              intro _ hw'
              obtain ⟨y2, rfl⟩ := hw'
              go_wp2
              exact ⟨⟨m + 1, by omega, by go_num, GN.out, y2.below⟩, by simp [intOf]; omega⟩
            · have GN := hideP (G1.out (decide_eq_true (str_eq hq)))
              have HR := hideP (HX.out (by rw [HK2.out, GN.out, decide_eq_false (by omega), Bool.and_false]))
              go_wp2_with fail
              refine wp_region_later (W := W0) HC.out (by kernel_rfl) (by kernel_rfl) ?_
              repeat (go_big_quiet_step (fail))
              refine wpQuiet_nil ?_
              intro _ hw'
              obtain ⟨y2, rfl⟩ := hw'
              go_wp2
              go_ret
              exact ⟨ret_bool HR.out.symm, HBw.out y2⟩
          · have GN := hideP (rf_end (by rw [HLn.out]; omega) HG.out)
            have HR := hideP (J1.out (by rw [HK2.out, GN.out, HBE.out]; rfl))
            have HCw : Hid (Below w.heap.size w wr) := HBw.out ⟨wr, HC.out⟩
            go_wp2
            exact ⟨⟨(j + 1) + 1, by omega, by go_num, HR.out, HCw.out⟩, by simp [intOf]; omega⟩
    · have hkn : k = l.length := by omega
      have HR := hideP (ok_all (by rw [← hkn]; exact HF.out))
      subst hkn
      go_wp2
      go_ret
      exact ⟨ret_bool (by rw [HR.out]; exact decide_eq_decide.2 (by omega)), HB.out⟩
end Go.Proofs.YtilpencbbdpgfaaGreatDoor.ctr
