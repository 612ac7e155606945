/- A region that draws its order, one of whose calls may end in a panic; and what else the law reaches. -/
import Derived.Test.YtdmlhiailjnhcaaGreatDoorJnXaa
import Derived.Deep.RegionHeld2
import Derived.Lib.ItoaNum
import Derived.Deep.RegionHeld
namespace Go.Proofs.YtdmlhiailjnhcaaGreatDoor.ctr
open Go.RowKit
section
variable {P : Program} {ops : Array Oper} {Q : Exit → Act → World → Prop}
theorem held_take {md : Region.Mode} {S : World → Prop} {i : Nat} {d : Tmp} {oi : Oper} {v : Value} {fuel : Nat} {listed : Array Bool} {a : Act} {w : World} (hi : ops[i]? = some oi) (hd : oi.dst = some d) (hs : Region.noSelect ops = true) (hf : Region.free md ops listed i = true) (hr : (Region.ready md ops listed).contains i = true) (hQ : ∀ c a w, Q (.panic c) (a.put (some d) v) w → Q (.panic c) a w) (hw : Region.wanted oi (yielded ops a.tmps) = true) (hy : ∀ w, S w → (execOp a.eval oi).run P w = .ok (.value v) w) (hS : S w) (h : wpAnyH P md ops Q S fuel (listed.setIfInBounds i true) (a.put (some d) v) w) : wpAnyH P md ops Q S (fuel + 1) listed a w :=
 wpAnyH_take hi hs hf hr (fun c a' w' h' => by rw [hd] at h'; exact hQ c a' w' h') (Or.inl ⟨hw, hy⟩) hS (by rw [hd]; exact h)
theorem held_one {md : Region.Mode} {S : World → Prop} {f i : Nat} {L : Array Bool} {a : Act} {w : World} (hr : Region.ready md ops L = [i]) (h : wpOp P ops Q i (fun a' w' => S w' ∧ wpAnyH P md ops Q S f (L.setIfInBounds i true) a' w') a w) : wpAnyH P md ops Q S (f + 1) L a w :=
by
 refine ⟨fun q => ?_, fun j hj => ?_⟩
 · rw [hr] at q
   cases q
 · rw [hr] at hj
   obtain rfl := List.mem_singleton.1 hj
   exact h
end
theorem op_skip {P : Program} {ops : Array Oper} {Q : Exit → Act → World → Prop} {i : Nat} {o : Oper} {K : Act → World → Prop} {a : Act} {w w' : World} (hi : ops[i]? = some o) (hd : o.dst = none) (hw : Region.wanted o (yielded ops a.tmps) = true) (hx : (execOp a.eval o).run P w = .ok .skip w') (h : K a w') : wpOp P ops Q i K a w := by
 unfold wpOp
 simp only [hi, hw, if_true]
 left
 unfold Oper.wp
 rw [hx, Oper.upon_skip, hd]
 exact h
def left (m : Int) : List UInt8 := if m = 0 then [] else Lib.decDigits m.natAbs
theorem left_step (m : Int) (h : m ≠ 0) : left m = left (m.tdiv 10) ++ [UInt8.ofNat (48 + m.natAbs % 10)] := by
 have e : (m.tdiv 10).natAbs = m.natAbs / 10 := by rw [Int.natAbs_tdiv]; rfl
 unfold left
 rw [if_neg h, Lib.decDigits]
 by_cases h0 : m.natAbs < 10
 · rw [dif_pos h0, if_pos (by omega), Nat.mod_eq_of_lt h0]
   rfl
 · rw [dif_neg h0, if_neg (by omega), e]
theorem dec_len : ∀ (k u : Nat), u < 10 ^ (k + 1) → (Lib.decDigits u).length ≤ k + 1
  | 0, u, h => by rw [Lib.decDigits, dif_pos (by simpa using h)]; simp
  | k + 1, u, h => by
   rw [Lib.decDigits]
   by_cases h0 : u < 10
   · rw [dif_pos h0]; simp
   · rw [dif_neg h0, List.length_append]
     have := dec_len k (u / 10) (by rw [Nat.pow_succ] at h; omega)
     simp
     omega
theorem left_len (n : Int) (h0 : -9223372036854775808 ≤ n) (h1 : n ≤ 9223372036854775807) : (left n).length ≤ 20 := by
 unfold left
 by_cases h : n = 0
 · rw [if_pos h]; simp
 · rw [if_neg h]
   exact dec_len 19 n.natAbs (by have : (10 : Nat) ^ (19 + 1) = 100000000000000000000 := by decide
                                 omega)
theorem out_len {m n : Int} {out : List UInt8} (h : left m ++ out = left n) (h0 : -9223372036854775808 ≤ n) (h1 : n ≤ 9223372036854775807) : out.length ≤ 20 := by
 have := left_len n h0 h1
 rw [← h, List.length_append] at this
 omega
theorem digits_one : ∀ i : Fin 10, (⟨#[48, 49, 50, 51, 52, 53, 54, 55, 56, 57]⟩ : ByteArray).extract i.val (i.val + 1) = ⟨#[UInt8.ofNat (48 + i.val)]⟩ := by decide
theorem digit_join (d : Int) (k : Nat) (h0 : 0 ≤ d) (h1 : d < 10) (hk : d.toNat = k) (out : List UInt8) :
    Value.string ((⟨#[48, 49, 50, 51, 52, 53, 54, 55, 56, 57]⟩ : ByteArray).extract d.toNat (d + 1).toNat ++ ⟨out.toArray⟩) = .string ⟨(UInt8.ofNat (48 + k) :: out).toArray⟩ := by
  have e : (d + 1).toNat = d.toNat + 1 := by omega
  rw [e, hk, digits_one ⟨k, by omega⟩]
  congr 1
theorem itoa_left (n : Int) (h : n ≠ 0) : Lib.itoa n = if n < 0 then 45 :: left n else left n := by
 unfold Lib.itoa left
 rw [if_neg h]
 by_cases hn : n < 0
 · rw [if_pos hn, if_pos hn]
 · rw [if_neg hn, if_neg hn, show n.toNat = n.natAbs from by omega]
set_option maxHeartbeats 400000 in
theorem specDecText (n : Int) (w : World) (h0 : -9223372036854775808 ≤ n) (h1 : n ≤ 9223372036854775807) :
    Calls Tryz.prog 97 #[.int .i64 n] w fun e w' => e = .returned (.string ⟨(Lib.itoa n).toArray⟩) ∧ w' = w := by
  by_cases hz : n = 0
  · subst hz
    go_enter Tryz.func97, Tryz.ntmps97
    go_wp2
    go_ret
    exact ⟨ret_str (by unfold Lib.itoa; rw [if_neg (by decide), Lib.decDigits]; rfl), rfl⟩
  have hz' : (n == 0) = false := by simp [hz]
  go_enter Tryz.func97, Tryz.ntmps97
  go_wp2
  go_loop [3, 4] (fun o t => ∃ (m : Int) (out : List UInt8), t = .int .i64 m ∧ o = .string ⟨out.toArray⟩ ∧ -9223372036854775808 ≤ m ∧ m ≤ 9223372036854775807 ∧ left m ++ out = left n) (fun _ t => (intOf t).natAbs)
  case atStart => exact ⟨n, [], rfl, rfl, h0, h1, by simp⟩
  case round =>
   obtain ⟨m, out, rfl, rfl, b0, b1, hl⟩ := hrel
   have HL : Hid (left m ++ out = left n) := hl
   have ho := out_len hl h0 h1
   clear hl
   by_cases hm : m = 0
   · subst hm
     by_cases hn : n < 0
     · go_wp2
       go_ret
       refine ⟨ret_str ?_, rfl⟩
       rw [itoa_left n hz, if_pos hn, ← HL.out]
       rfl
     · go_wp2
       go_ret
       refine ⟨ret_str ?_, rfl⟩
       rw [itoa_left n hz, if_neg (by omega), ← HL.out]
       rfl
   · have hm' : (m != 0) = true := by simp [hm]
     have t1 : -10 < m.tmod 10 := Int.lt_tmod_of_pos m (by omega)
     have t2 : m.tmod 10 < 10 := Int.tmod_lt_of_pos m (by omega)
     have HA : Hid ((m.tmod 10).natAbs = m.natAbs % 10) := by unfold Hid; rw [Int.natAbs_tmod]; rfl
     have HQ : Hid ((m.tdiv 10).natAbs = m.natAbs / 10) := by unfold Hid; rw [Int.natAbs_tdiv]; rfl
     by_cases hr : m.tmod 10 < 0
     · go_wp2
       refine ⟨⟨m.tdiv 10, UInt8.ofNat (48 + m.natAbs % 10) :: out, rfl, ?_, ?_, ?_, ?_⟩, ?_⟩
       · exact digit_join (-m.tmod 10) _ (by omega) (by omega) (by have := HA.out; omega) out
       · have := HQ.out; omega
       · have := HQ.out; omega
       · rw [← HL.out, left_step m hm]; simp
       · show (m.tdiv 10).natAbs < m.natAbs
         rw [HQ.out]; omega
     · go_wp2
       refine ⟨⟨m.tdiv 10, UInt8.ofNat (48 + m.natAbs % 10) :: out, rfl, ?_, ?_, ?_, ?_⟩, ?_⟩
       · exact digit_join (m.tmod 10) _ (by omega) (by omega) (by have := HA.out; omega) out
       · have := HQ.out; omega
       · have := HQ.out; omega
       · rw [← HL.out, left_step m hm]; simp
       · show (m.tdiv 10).natAbs < m.natAbs
         rw [HQ.out]; omega
def digB (c : UInt8) : Bool := inB c.toNat 48 57
def digs (s : ByteArray) (k : Nat) : Bool := (s.data.toList.take k).all digB
def valL (l : List UInt8) : Int := l.foldl (fun n c => 10 * n + (c.toNat : Int) - 48) 0
def val (s : ByteArray) (k : Nat) : Int := valL (s.data.toList.take k)
def itoaB (n : Int) : ByteArray := ⟨(Lib.itoa n).toArray⟩
def readDec (s : ByteArray) : Int := if s.size ≤ 9 ∧ digs s s.size = true ∧ itoaB (val s s.size) = s then val s s.size else -1
theorem val_succ (s : ByteArray) (k : Nat) (h : k < s.size) : val s (k + 1) = 10 * val s k + (s[k].toNat : Int) - 48 := by
 unfold val valL
 rw [take_snoc s k h, List.foldl_append]
 rfl
theorem digs_succ (s : ByteArray) (k : Nat) (h : k < s.size) : digs s (k + 1) = (digs s k && digB s[k]) := by
 unfold digs
 rw [take_snoc s k h, List.all_append]
 simp
theorem dig_of {c : UInt8} (h : digB c = true) : 48 ≤ (c.toNat : Int) ∧ (c.toNat : Int) ≤ 57 := by
 simpa [digB, inB] using h
theorem val_bd (s : ByteArray) : ∀ k, k ≤ s.size → digs s k = true → 0 ≤ val s k ∧ val s k < (10 : Int) ^ k
  | 0, _, _ => by simp [val, valL]
  | k + 1, hk, h => by
   rw [digs_succ s k (by omega), Bool.and_eq_true] at h
   have := val_bd s k (by omega) h.1
   have hd := dig_of h.2
   rw [val_succ s k (by omega), Int.pow_succ]
   omega
theorem val_bd9 (s : ByteArray) (k : Nat) (hk : k ≤ s.size) (h9 : k ≤ 9) (h : digs s k = true) : 0 ≤ val s k ∧ val s k ≤ 999999999 := by
 have := val_bd s k hk h
 have h2 : (10 : Int) ^ k ≤ 10 ^ 9 := by
  have : (10 : Nat) ^ k ≤ 10 ^ 9 := Nat.pow_le_pow_right (by omega) h9
  exact_mod_cast this
 have h3 : (10 : Int) ^ 9 = 1000000000 := by decide
 omega
theorem digs_up (s : ByteArray) : ∀ k j, k + j ≤ s.size → digs s (k + j) = true → digs s k = true
  | k, 0, _, h => h
  | k, j + 1, hk, h => by
   rw [show k + (j + 1) = (k + j) + 1 from by omega, digs_succ s (k + j) (by omega), Bool.and_eq_true] at h
   exact digs_up s k j (by omega) h.1
theorem read_stop (s : ByteArray) (k : Nat) (h : k < s.size) (h2 : digB s[k] = false) : readDec s = -1 := by
 unfold readDec
 rw [if_neg]
 rintro ⟨_, hd, _⟩
 have := digs_up s (k + 1) (s.size - (k + 1)) (by omega) (by rw [show k + 1 + (s.size - (k + 1)) = s.size from by omega]; exact hd)
 rw [digs_succ s k h, h2] at this
 simp at this
theorem read_long (s : ByteArray) (h : 9 < s.size) : readDec s = -1 := by
 unfold readDec
 rw [if_neg (by omega)]
theorem read_bad (s : ByteArray) (h : itoaB (val s s.size) ≠ s) : readDec s = -1 := by
 unfold readDec
 rw [if_neg (by rintro ⟨_, _, e⟩; exact h e)]
theorem read_good (s : ByteArray) (h9 : s.size ≤ 9) (hd : digs s s.size = true) (h : itoaB (val s s.size) = s) : readDec s = val s s.size := by
 unfold readDec
 rw [if_pos ⟨h9, hd, h⟩]
theorem itoa_eq {v : Int} {s : ByteArray} (h : (Lib.itoa v == s.toList) = true) : itoaB v = s := by
 rw [ByteArray.toList_eq, beq_iff_eq] at h
 unfold itoaB
 rw [h]
theorem itoa_ne {v : Int} {s : ByteArray} (h : (Lib.itoa v == s.toList) = false) : itoaB v ≠ s := by
 rintro rfl
 rw [ByteArray.toList_eq] at h
 simp [itoaB] at h
theorem itoaB_empty (n : Int) (s : ByteArray) (h : s.size = 0) : itoaB n ≠ s := by
 intro e
 have h1 : (itoaB n).size = 0 := by rw [e, h]
 have h2 : (Lib.itoa n).length = 0 := h1
 rw [List.length_eq_zero_iff] at h2
 unfold Lib.itoa at h2
 split at h2
 · simp at h2
 · rw [Lib.decDigits] at h2
   split at h2 <;> simp at h2
set_option maxHeartbeats 400000 in
theorem specReadDec (s : ByteArray) (w : World) (hs : s.size ≤ maxLen) :
    Calls Tryz.prog 121 #[.string s] w fun e w' => e = .returned (.int .i64 (readDec s)) ∧ w' = w := by
  unfold maxLen at hs
  go_enter Tryz.func121, Tryz.ntmps121
  go_wp2
  go_loop [3, 4] (fun n i => ∃ (k : Nat) (v : Int), k ≤ s.size ∧ k ≤ 9 ∧ i = .int .i64 k ∧ n = .int .i64 v ∧ 0 ≤ v ∧ v ≤ 999999999 ∧ digs s k = true ∧ v = val s k) (fun _ i => s.size - (intOf i).toNat)
  case atStart => exact ⟨0, 0, Nat.zero_le _, Nat.zero_le _, rfl, rfl, by omega, by omega, by simp [digs], by simp [val, valL]⟩
  case round =>
   obtain ⟨k, v, hk, hk9, rfl, rfl, v0, v1, hd, hv⟩ := hrel
   have HD : Hid (digs s k = true) := hd
   have HV : Hid (v = val s k) := hv
   clear hd hv
   by_cases hlt : k < s.size
   · cases hb : digB s[k]
     · have HB : Hid (readDec s = -1) := read_stop s k hlt hb
       have hb' : inB (wrap64 (s[k].toNat : Int)) 48 57 = false := by rw [byte64]; exact hb
       clear hb
       go_wp2_with (go_at_call 45; refine (l01In _ _ _ _).mono ?_; rintro e w' ⟨rfl, rfl⟩)
       go_ret
       exact ⟨ret_int HB.out.symm, rfl⟩
     · have hb' : inB (wrap64 (s[k].toNat : Int)) 48 57 = true := by rw [byte64]; exact hb
       by_cases h9 : 9 < s.size
       · have HB : Hid (readDec s = -1) := read_long s h9
         clear hb
         go_wp2_with (go_at_call 45; refine (l01In _ _ _ _).mono ?_; rintro e w' ⟨rfl, rfl⟩)
         go_ret
         exact ⟨ret_int HB.out.symm, rfl⟩
       · have HN : Hid (digs s (k + 1) = true) := by unfold Hid; rw [digs_succ s k hlt, HD.out, hb]; rfl
         have HS : Hid (val s (k + 1) = 10 * v + (s[k].toNat : Int) - 48) := by unfold Hid; rw [val_succ s k hlt, HV.out]
         have hbd := dig_of hb
         obtain ⟨d0, d1⟩ := hbd
         have hb2 : inB (s[k].toNat : Int) 48 57 = true := hb
         clear hb hb'
         go_wp2_with (go_at_call 45; refine (l01In _ _ _ _).mono ?_; rintro e w' ⟨rfl, rfl⟩)
         have hB := val_bd9 s (k + 1) (by omega) (by omega) HN.out
         rw [HS.out] at hB
         exact ⟨⟨k + 1, 10 * v + (s[k].toNat : Int) - 48, by omega, by omega, by go_num, by go_num, by omega, by omega, HN.out, HS.out.symm⟩, by simp [intOf]; omega⟩
   · have hks : k = s.size := by omega
     by_cases hz : s.size = 0
     · have HB : Hid (readDec s = -1) := read_bad s (itoaB_empty _ s hz)
       have hz' : s.toList.isEmpty = true := by rw [ByteArray.toList_eq]; simp; exact Array.eq_empty_of_size_eq_zero hz
       go_wp2_with (go_at_call 97; refine (specDecText _ _ (by omega) (by omega)).mono ?_; rintro e w' ⟨rfl, rfl⟩)
       go_ret
       exact ⟨ret_int HB.out.symm, rfl⟩
     · have hz' : s.toList.isEmpty = false := by rw [ByteArray.toList_eq]; simp; intro e; exact hz (by show s.data.size = 0; rw [e]; rfl)
       cases hq : (Lib.itoa v == s.toList)
       · have HB : Hid (readDec s = -1) := read_bad s (by rw [← hks, ← HV.out]; exact itoa_ne hq)
         clear hks
         go_wp2_with (go_at_call 97; refine (specDecText _ _ (by omega) (by omega)).mono ?_; rintro e w' ⟨rfl, rfl⟩)
         go_ret
         exact ⟨ret_int HB.out.symm, rfl⟩
       · have HB : Hid (readDec s = v) := by unfold Hid; rw [HV.out, hks]; exact read_good s (by omega) (by rw [← hks]; exact HD.out) (by rw [← hks, ← HV.out]; exact itoa_eq hq)
         clear hks
         go_wp2_with (go_at_call 97; refine (specDecText _ _ (by omega) (by omega)).mono ?_; rintro e w' ⟨rfl, rfl⟩)
         go_ret
         exact ⟨ret_int HB.out.symm, rfl⟩

theorem op_any {P : Program} {ops : Array Oper} {Q : Exit → Act → World → Prop} {i : Nat} {o : Oper} {d : Tmp} {v : Value} {K : Act → World → Prop} {a : Act} {w w' : World} (hi : ops[i]? = some o) (hd : o.dst = some d) (hw : Region.wanted o (yielded ops a.tmps) = true) (hx : (execOp a.eval o).run P w = .ok (.value v) w') (h : K (a.put (some d) v) w') : wpOp P ops Q i K a w := by
 unfold wpOp
 simp only [hi, hw, if_true]
 left
 unfold Oper.wp
 rw [hx, Oper.upon_value, hd]
 exact h
structure Cal where
 i : Nat
 d : Tmp
 v : Value
structure Mak where
 i : Nat
 d : Tmp
 z : Array Value
 t : TypeId
def mixPick (md : Region.Mode) (ops : Array Oper) (qs cs : List Nat) (L : Array Bool) : Option Nat := qs.find? fun i => cs.contains i && ((Region.ready md ops L).contains i && Region.free md ops L i)
def mixOk (md : Region.Mode) (ops : Array Oper) (nd : Nat → List Nat) (qs : List Nat) (E : Array Bool) : Nat → List Nat → List Nat → Array Bool → Bool
  | 0, cs, ms, L => cs.isEmpty && ms.isEmpty && decide (L = E)
  | n + 1, cs, ms, L =>
   match mixPick md ops qs cs L with
   | some i => (nd i).all (fun k => !cs.contains k) && mixOk md ops nd qs E n (cs.erase i) ms (L.setIfInBounds i true)
   | none => !(Region.ready md ops L).isEmpty && (Region.ready md ops L).all fun j => (cs.contains j && !qs.contains j && (nd j).all (fun i => !cs.contains i) && mixOk md ops nd qs E n (cs.erase j) ms (L.setIfInBounds j true)) || (ms.contains j && mixOk md ops nd qs E n cs (ms.erase j) (L.setIfInBounds j true))
structure Agree (S : List Tmp) (a a' : Act) : Prop where
 defers : a'.defers = a.defers
 size : a'.tmps.size = a.tmps.size
 tmp : ∀ j, j ∉ S → a'.tmps[j]? = a.tmps[j]?
theorem Agree.put {S : List Tmp} {a a' : Act} (h : Agree S a a') {d : Tmp} (hd : d ∈ S) (v : Value) : Agree S a (a'.put (some d) v) :=
 ⟨h.defers, by show (a'.tmps.setIfInBounds d v).size = _; rw [Array.size_setIfInBounds, h.size], fun j hj => by
  show (a'.tmps.setIfInBounds d v)[j]? = _
  rw [Array.getElem?_setIfInBounds_ne (fun e => hj (by rw [← e]; exact hd)), h.tmp j hj]⟩
theorem Agree.eval {S : List Tmp} {a a' : Act} (h : Agree S a a') {j : Tmp} (hj : j ∉ S) : a'.eval (.tmp j) = a.eval (.tmp j) := by
 show a'.tmps.getD j undef = a.tmps.getD j undef
 rw [Array.getD_eq_getD_getElem?, Array.getD_eq_getD_getElem?, h.tmp j hj]
theorem eval_of {a : Act} {j : Tmp} {v : Value} (h : a.tmps[j]? = some v) : a.eval (.tmp j) = v := by
 show a.tmps.getD j undef = v
 rw [Array.getD_eq_getD_getElem?, h]
 rfl
theorem put_at {a : Act} {d : Tmp} (v : Value) (h : d < a.tmps.size) : (a.put (some d) v).tmps[d]? = some v := by
 show (a.tmps.setIfInBounds d v)[d]? = some v
 rw [Array.getElem?_setIfInBounds_self_of_lt h]
theorem put_far {a : Act} {d j : Tmp} (v : Value) (h : d ≠ j) : (a.put (some d) v).tmps[j]? = a.tmps[j]? := by
 show (a.tmps.setIfInBounds d v)[j]? = _
 rw [Array.getElem?_setIfInBounds_ne h]
theorem nodup_inj {α β : Type} {f : α → β} : ∀ {l : List α}, (l.map f).Nodup → ∀ {x y : α}, x ∈ l → y ∈ l → f x = f y → x = y
  | [], _, x, y, hx, _, _ => by simp at hx
  | z :: l, h, x, y, hx, hy, e => by
   rw [List.map_cons, List.nodup_cons] at h
   rcases List.mem_cons.1 hx with e1 | h1
   · rcases List.mem_cons.1 hy with e2 | h2
     · rw [e1, e2]
     · exact (h.1 (List.mem_map.2 ⟨y, h2, by rw [← e, e1]⟩)).elim
   · rcases List.mem_cons.1 hy with e2 | h2
     · exact (h.1 (List.mem_map.2 ⟨x, h1, by rw [e, e2]⟩)).elim
     · exact nodup_inj h.2 h1 h2 e
theorem agree_eq : ∀ (D : List (Tmp × Value)) {S : List Tmp} {a a' : Act}, Agree S a a' → (∀ j, j ∈ S → j ∈ D.map Prod.fst) → (∀ x ∈ D, x.1 < a.tmps.size) → (D.map Prod.fst).Nodup → (∀ x ∈ D, a'.tmps[x.1]? = some x.2) → a' = D.foldl (fun b x => b.put (some x.1) x.2) a := by
 intro D
 induction D with
 | nil =>
  intro S a a' h hS _ _ _
  obtain ⟨t, f⟩ := a
  obtain ⟨t', f'⟩ := a'
  have e1 : f' = f := h.defers
  have e2 : t' = t := Array.ext_getElem? fun j => h.tmp j (fun q => by have := hS j q; simp at this)
  rw [e1, e2]
  rfl
 | cons x D ih =>
  intro S a a' h hS hz hn hv
  rw [List.map_cons, List.nodup_cons] at hn
  refine ih (S := D.map Prod.fst) (a := a.put (some x.1) x.2) ⟨h.defers, ?_, fun j hj => ?_⟩ (fun j q => q) (fun y hy => ?_) hn.2 (fun y hy => hv y (List.mem_cons_of_mem _ hy))
  · show _ = (a.tmps.setIfInBounds x.1 x.2).size
    rw [Array.size_setIfInBounds, h.size]
  · by_cases e : x.1 = j
    · subst e
      rw [hv x (List.mem_cons_self ..), put_at _ (hz x (List.mem_cons_self ..))]
    · rw [put_far _ e]
      refine h.tmp j (fun q => ?_)
      have := hS j q
      rw [List.map_cons, List.mem_cons] at this
      rcases this with rfl | q'
      · exact e rfl
      · exact hj q'
  · show y.1 < (a.tmps.setIfInBounds x.1 x.2).size
    rw [Array.size_setIfInBounds]
    exact hz y (List.mem_cons_of_mem _ hy)
section
variable {P : Program} {ops : Array Oper} {Q : Exit → Act → World → Prop} {md : Region.Mode} {S : World → Prop}
theorem held_mix {B : World} {a : Act} {f : Nat} {E : Array Bool} (nd : Nat → List Nat) (qs : List Nat) (SL : List Tmp) (calls : List Cal) (makes : List Mak)
    (hS : ∀ w, Below B.heap.size B w → S w)
    (hcS : ∀ c ∈ calls, c.d ∈ SL ∧ c.d < a.tmps.size) (hmS : ∀ m ∈ makes, m.d ∈ SL ∧ m.d < a.tmps.size)
    (hcc : ∀ c ∈ calls, ∀ c' ∈ calls, c.i ≠ c'.i → c.d ≠ c'.d) (hci : (calls.map Cal.i).Nodup) (hcm : ∀ c ∈ calls, ∀ m ∈ makes, c.d ≠ m.d) (hmm : ∀ m ∈ makes, ∀ m' ∈ makes, m.i ≠ m'.i → m.d ≠ m'.d) (hmi : (makes.map Mak.i).Nodup)
    (hsel : Region.noSelect ops = true) (hpan : ∀ d v c a w, Q (.panic c) (a.put (some d) v) w → Q (.panic c) a w)
    (hquiet : ∀ c ∈ calls, c.i ∈ qs → ∃ oi, ops[c.i]? = some oi ∧ oi.dst = some c.d ∧ ∀ a' : Act, Agree SL a a' → (∀ c' ∈ calls, c'.i ∈ nd c.i → a'.tmps[c'.d]? = some c'.v) → Region.wanted oi (yielded ops a'.tmps) = true ∧ ∀ w, S w → (execOp a'.eval oi).run P w = .ok (.value c.v) w)
    (hcall : ∀ c ∈ calls, c.i ∉ qs → ∀ (a' : Act) (w' : World) (K : Act → World → Prop), Agree SL a a' → (∀ c' ∈ calls, c'.i ∈ nd c.i → a'.tmps[c'.d]? = some c'.v) → Below B.heap.size B w' → (∀ w'', Below w'.heap.size w' w'' → K (a'.put (some c.d) c.v) w'') → wpOp P ops Q c.i K a' w')
    (hmake : ∀ m ∈ makes, ∀ (a' : Act) (w' : World) (K : Act → World → Prop), K (a'.put (some m.d) (.pointer (some ⟨w'.heap.size, 0, none⟩))) (w'.alloc (.cells m.z m.t)) → wpOp P ops Q m.i K a' w')
    (F : ∀ (a' : Act) (w' : World) (p : Nat → Nat), Agree SL a a' → (∀ c ∈ calls, a'.tmps[c.d]? = some c.v) → (∀ m ∈ makes, a'.tmps[m.d]? = some (.pointer (some ⟨p m.i, 0, none⟩)) ∧ Blk w' (p m.i) m.z m.t ∧ B.heap.size ≤ p m.i) → (∀ m ∈ makes, ∀ m' ∈ makes, m.i ≠ m'.i → p m.i ≠ p m'.i) → Below B.heap.size B w' → wpAnyH P md ops Q S f E a' w') :
    ∀ (n : Nat) (rc rm : List Nat) (L : Array Bool) (a' : Act) (w' : World) (p : Nat → Nat), mixOk md ops nd qs E n rc rm L = true → rc.Nodup → rm.Nodup → (∀ i ∈ rc, ∃ c ∈ calls, c.i = i) → (∀ i ∈ rm, ∃ m ∈ makes, m.i = i) → Agree SL a a' → (∀ c ∈ calls, c.i ∉ rc → a'.tmps[c.d]? = some c.v) → (∀ m ∈ makes, m.i ∉ rm → a'.tmps[m.d]? = some (.pointer (some ⟨p m.i, 0, none⟩)) ∧ Blk w' (p m.i) m.z m.t ∧ B.heap.size ≤ p m.i) → (∀ m ∈ makes, ∀ m' ∈ makes, m.i ∉ rm → m'.i ∉ rm → m.i ≠ m'.i → p m.i ≠ p m'.i) → Below B.heap.size B w' →
      wpAnyH P md ops Q S (f + n) L a' w' := by
  have hci' : ∀ c ∈ calls, ∀ c' ∈ calls, c.i = c'.i → c = c' := fun c h c' h' e => nodup_inj hci h h' e
  have hmi' : ∀ m ∈ makes, ∀ m' ∈ makes, m.i = m'.i → m = m' := fun c h c' h' e => nodup_inj hmi h h' e
  have hnot : ∀ (rs : List Nat) (i j : Nat), i ∉ rs.erase j → i ∉ rs ∨ i = j := fun rs i j h => by
   by_cases e : i = j
   · exact .inr e
   · exact .inl fun q => h ((List.mem_erase_of_ne e).2 q)
  intro n
  induction n with
  | zero =>
   intro rc rm L a' w' p hok _ _ _ _ hA hc hm hne hb
   simp only [mixOk, Bool.and_eq_true, List.isEmpty_iff, decide_eq_true_eq] at hok
   obtain ⟨⟨rfl, rfl⟩, rfl⟩ := hok
   exact F a' w' p hA (fun c q => hc c q (by simp)) (fun m q => hm m q (by simp)) (fun m q m' q' => hne m q m' q' (by simp) (by simp)) hb
  | succ n ih =>
   intro rc rm L a' w' p hok hnc hnd hrc hrm hA hc hm hne hb
   have hneed : ∀ i, (nd i).all (fun k => !rc.contains k) = true → ∀ c' ∈ calls, c'.i ∈ nd i → a'.tmps[c'.d]? = some c'.v := fun i h c' h1 h2 => hc c' h1 fun x => by
    have h3 := List.all_eq_true.1 h _ h2
    rw [List.contains_iff_mem.2 x] at h3
    cases h3
   rw [mixOk] at hok
   cases hp : mixPick md ops qs rc L with
   | some i =>
    rw [hp] at hok
    simp only [Bool.and_eq_true] at hok
    obtain ⟨q3, q2⟩ := hok
    have hmq : i ∈ qs := List.mem_of_find?_eq_some hp
    have hpp := List.find?_some hp
    simp only [Bool.and_eq_true] at hpp
    obtain ⟨q1, hr, hf⟩ := hpp
    obtain ⟨c, hmem, rfl⟩ := hrc i (List.contains_iff_mem.1 q1)
    obtain ⟨oi, ho, hd, hq⟩ := hquiet c hmem hmq
    obtain ⟨hw, hy⟩ := hq a' hA (hneed _ q3)
    refine held_take ho hd hsel hf hr (hpan _ _) hw hy (hS _ hb) ?_
    refine ih (rc.erase c.i) rm _ _ w' p q2 (hnc.erase _) hnd (fun i h => hrc i (List.mem_of_mem_erase h)) hrm (hA.put (hcS c hmem).1 _) (fun c' h1 h2 => ?_) (fun m h1 h2 => ?_) hne hb
    · by_cases e : c'.i = c.i
      · obtain rfl := hci' c' h1 c hmem e
        exact put_at _ (by rw [hA.size]; exact (hcS _ hmem).2)
      · rcases hnot _ _ _ h2 with q | q
        · rw [put_far _ (fun e' => hcc c hmem c' h1 (fun x => e x.symm) e')]
          exact hc c' h1 q
        · exact absurd q e
    · obtain ⟨g1, g2, g3⟩ := hm m h1 h2
      exact ⟨by rw [put_far _ (hcm c hmem m h1)]; exact g1, g2, g3⟩
   | none =>
   rw [hp] at hok
   simp only [Bool.and_eq_true, Bool.not_eq_true', List.isEmpty_eq_false_iff, List.all_eq_true, Bool.or_eq_true] at hok
   obtain ⟨h0, hall⟩ := hok
   refine ⟨fun e => absurd e h0, fun j hj => ?_⟩
   rcases hall j hj with ⟨⟨⟨q1, q4⟩, q3⟩, q2⟩ | ⟨q1, q2⟩
   · have q1 : j ∈ rc := List.contains_iff_mem.1 q1
     obtain ⟨c, hmem, rfl⟩ := hrc j q1
     refine hcall c hmem (fun x => by rw [List.contains_iff_mem.2 x] at q4; cases q4) a' w' _ hA (hneed _ (List.all_eq_true.2 fun i hi => by rw [q3 i hi]; rfl)) hb fun w'' hb2 => ?_
     have hb3 := hb.trans (hb2.mono hb.size)
     refine ⟨hS _ hb3, ?_⟩
     refine ih (rc.erase c.i) rm _ _ w'' p q2 (hnc.erase _) hnd (fun i h => hrc i (List.mem_of_mem_erase h)) hrm (hA.put (hcS c hmem).1 _) (fun c' h1 h2 => ?_) (fun m h1 h2 => ?_) hne hb3
     · by_cases e : c'.i = c.i
       · obtain rfl := hci' c' h1 c hmem e
         exact put_at _ (by rw [hA.size]; exact (hcS _ hmem).2)
       · rcases hnot _ _ _ h2 with q | q
         · rw [put_far _ (fun e' => hcc c hmem c' h1 (fun x => e x.symm) e')]
           exact hc c' h1 q
         · exact absurd q e
     · obtain ⟨g1, g2, g3⟩ := hm m h1 h2
       exact ⟨by rw [put_far _ (hcm c hmem m h1)]; exact g1, g2.below hb2 g2.lt, g3⟩
   · have q1 : j ∈ rm := List.contains_iff_mem.1 q1
     obtain ⟨m, hmem, rfl⟩ := hrm j q1
     refine hmake m hmem a' w' _ ?_
     have hb3 : Below B.heap.size B (w'.alloc (.cells m.z m.t)) := hb.alloc hb.size _
     refine ⟨hS _ hb3, ?_⟩
     have hold : ∀ m' ∈ makes, m'.i ∉ rm → p m'.i ≠ w'.heap.size := fun m' h1 h2 e => by
      have := (hm m' h1 h2).2.1.lt
      omega
     refine ih rc (rm.erase m.i) _ _ _ (fun i => if i = m.i then w'.heap.size else p i) q2 hnc (hnd.erase _) hrc (fun i h => hrm i (List.mem_of_mem_erase h)) (hA.put (hmS m hmem).1 _) (fun c' h' h2 => ?_) (fun m' h1 h2 => ?_) (fun m1 h1 m2 h2 n1 n2 hn => ?_) hb3
     · rw [put_far _ (fun e => hcm c' h' m hmem e.symm)]
       exact hc c' h' h2
     · by_cases e : m'.i = m.i
       · obtain rfl := hmi' m' h1 m hmem e
         simp only [if_true]
         exact ⟨put_at _ (by rw [hA.size]; exact (hmS _ hmem).2), Blk.new _ _ _, hb.size⟩
       · simp only [if_neg e]
         rcases hnot _ _ _ h2 with q | q
         · obtain ⟨g1, g2, g3⟩ := hm m' h1 q
           exact ⟨by rw [put_far _ (fun e' => hmm m hmem m' h1 (fun x => e x.symm) e')]; exact g1, g2.alloc _, g3⟩
         · exact absurd q e
     · show (if m1.i = m.i then w'.heap.size else p m1.i) ≠ (if m2.i = m.i then w'.heap.size else p m2.i)
       by_cases e1 : m1.i = m.i
       · by_cases e2 : m2.i = m.i
         · exact absurd (e1.trans e2.symm) hn
         · rw [if_pos e1, if_neg e2]
           rcases hnot _ _ _ n2 with q | q
           · exact fun x => hold m2 h2 q x.symm
           · exact absurd q e2
       · by_cases e2 : m2.i = m.i
         · rw [if_neg e1, if_pos e2]
           rcases hnot _ _ _ n1 with q | q
           · exact hold m1 h1 q
           · exact absurd q e1
         · rw [if_neg e1, if_neg e2]
           rcases hnot _ _ _ n1 with q | q
           · rcases hnot _ _ _ n2 with q' | q'
             · exact hne m1 h1 m2 h2 q q' hn
             · exact absurd q' e2
           · exact absurd q e1
end
end Go.Proofs.YtdmlhiailjnhcaaGreatDoor.ctr
namespace Go.Proofs.YtdmlhiailjnhcaaGreatDoor.ctr
def DSet (xs : List Int) (P : Int → Prop) : Prop := xs.Pairwise (· < ·) ∧ ∀ z, z ∈ xs ↔ P z
theorem dset_same : ∀ {xs ys : List Int}, xs.Pairwise (· < ·) → ys.Pairwise (· < ·) → (∀ z, z ∈ xs ↔ z ∈ ys) → xs = ys
  | [], [], _, _, _ => rfl
  | [], y :: ys, _, _, h => absurd ((h y).2 (List.mem_cons_self ..)) List.not_mem_nil
  | x :: xs, [], _, _, h => absurd ((h x).1 (List.mem_cons_self ..)) List.not_mem_nil
  | x :: xs, y :: ys, hx, hy, h => by
   obtain ⟨x1, x2⟩ := List.pairwise_cons.1 hx
   obtain ⟨y1, y2⟩ := List.pairwise_cons.1 hy
   have e : x = y := by
    have a := (h x).1 (List.mem_cons_self ..)
    have b := (h y).2 (List.mem_cons_self ..)
    rcases List.mem_cons.1 a with a | a
    · exact a
    · rcases List.mem_cons.1 b with b | b
      · exact b.symm
      · have := x1 _ b
        have := y1 _ a
        omega
   subst e
   rw [dset_same x2 y2 (fun z => ⟨fun hz => by
    rcases List.mem_cons.1 ((h z).1 (List.mem_cons_of_mem _ hz)) with e | e
    · have := x1 _ hz; omega
    · exact e, fun hz => by
    rcases List.mem_cons.1 ((h z).2 (List.mem_cons_of_mem _ hz)) with e | e
    · have := y1 _ hz; omega
    · exact e⟩)]
theorem DSet.eq {xs ys : List Int} {P : Int → Prop} (h : DSet xs P) (k : DSet ys P) : xs = ys := dset_same h.1 k.1 (fun z => (h.2 z).trans (k.2 z).symm)
theorem DSet.imp {xs : List Int} {P Q : Int → Prop} (h : DSet xs P) (k : ∀ z, P z ↔ Q z) : DSet xs Q := ⟨h.1, fun z => (h.2 z).trans (k z)⟩
theorem dset_nil {P : Int → Prop} (h : ∀ z, ¬ P z) : DSet [] P := ⟨List.Pairwise.nil, fun z => ⟨fun k => absurd k List.not_mem_nil, fun k => absurd k (h z)⟩⟩
theorem DSet.snoc {xs : List Int} {P Q : Int → Prop} {n : Int} (h : DSet xs P) (hn : ∀ z, P z → z < n) (hq : ∀ z, Q z ↔ P z ∨ z = n) : DSet (xs ++ [n]) Q := by
 refine ⟨List.pairwise_append.2 ⟨h.1, List.pairwise_singleton _ _, fun a ha b hb => ?_⟩, fun z => ?_⟩
 · rw [List.mem_singleton.1 hb]
   exact hn _ ((h.2 a).1 ha)
 · rw [List.mem_append, List.mem_singleton, h.2, hq]
def daysWhere (a b : Int) (p : Int → Bool) : List Int := ((List.range (b - a + 1).toNat).map (fun i : Nat => a + (i : Int))).filter p
theorem daysWhere_set (a b : Int) (p : Int → Bool) : DSet (daysWhere a b p) (fun z => a ≤ z ∧ z ≤ b ∧ p z = true) := by
 unfold daysWhere
 refine ⟨List.Pairwise.filter _ (List.pairwise_map.2 (List.Pairwise.imp (fun h => by omega) List.pairwise_lt_range)), fun z => ?_⟩
 rw [List.mem_filter, List.mem_map]
 constructor
 · rintro ⟨⟨i, hi, rfl⟩, hp⟩
   have := List.mem_range.1 hi
   exact ⟨by omega, by omega, hp⟩
 · rintro ⟨h1, h2, hp⟩
   exact ⟨⟨(z - a).toNat, List.mem_range.2 (by omega), by omega⟩, hp⟩
theorem daysWhere_len (a b : Int) (p : Int → Bool) : (daysWhere a b p).length ≤ (b - a + 1).toNat := by
 unfold daysWhere
 refine Nat.le_trans (List.length_filter_le ..) ?_
 simp
theorem dset_len {xs : List Int} {P : Int → Prop} {a b : Int} (h : DSet xs P) (hp : ∀ z, P z → a ≤ z ∧ z ≤ b) : xs.length ≤ (b - a + 1).toNat := by
 have e : xs = daysWhere a b (fun z => decide (z ∈ xs)) := DSet.eq (P := fun z => z ∈ xs) ⟨h.1, fun z => Iff.rfl⟩ ((daysWhere_set a b _).imp (fun z => ⟨fun k => of_decide_eq_true k.2.2, fun k => ⟨(hp z ((h.2 z).1 k)).1, (hp z ((h.2 z).1 k)).2, decide_eq_true k⟩⟩))
 rw [e]
 exact daysWhere_len a b _
end Go.Proofs.YtdmlhiailjnhcaaGreatDoor.ctr
