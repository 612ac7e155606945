/- What a law is told of a list of structs of ints that comes in: its ints are ints of 64 bits; and what else the law reaches. -/
import Derived.Test.YtpclaceefapppaaGreatDoorJnZaa
import Derived.Lib.ItoaNum
set_option maxHeartbeats 400000
namespace Go.Proofs.YtpclaceefapppaaGreatDoor.kit
open Go.RowKit Go.WideShapes Go.Deep Go.ChangeShapes
theorem wf_bounds {z : Int} (h : (Lit.int .i64 z).wf = true) : -9223372036854775808 ≤ z ∧ z ≤ 9223372036854775807 := by
 have h' : (decide (IntKind.i64.min ≤ z) && decide (z ≤ IntKind.i64.max)) = true := h
 rw [show IntKind.i64.min = -9223372036854775808 from rfl, show IntKind.i64.max = 9223372036854775807 from rfl] at h'
 simpa using h'
end Go.Proofs.YtpclaceefapppaaGreatDoor.kit
namespace Go.Proofs.YtpclaceefapppaaGreatDoor.ctr
def DSet (xs : List Int) (P : Int → Prop) : Prop := xs.Pairwise (· < ·) ∧ ∀ z, z ∈ xs ↔ P z
theorem dset_same : ∀ {xs ys : List Int}, xs.Pairwise (· < ·) → ys.Pairwise (· < ·) → (∀ z, z ∈ xs ↔ z ∈ ys) → xs = ys
  | [], [], _, _, _ => rfl
  | [], y :: ys, _, _, h => absurd ((h y).2 (List.mem_cons_self ..)) List.not_mem_nil
  | x :: xs, [], _, _, h => absurd ((h x).1 (List.mem_cons_self ..)) List.not_mem_nil
  | x :: xs, y :: ys, hx, hy, h => by
   obtain ⟨x1, x2⟩ := List.pairwise_cons.1 hx
   obtain ⟨y1, y2⟩ := List.pairwise_cons.1 hy
   have e : x = y := by
    have a := (h x).1 (List.mem_cons_self ..)
    have b := (h y).2 (List.mem_cons_self ..)
    rcases List.mem_cons.1 a with a | a
    · exact a
    · rcases List.mem_cons.1 b with b | b
      · exact b.symm
      · have := x1 _ b
        have := y1 _ a
        omega
   subst e
   rw [dset_same x2 y2 (fun z => ⟨fun hz => by
    rcases List.mem_cons.1 ((h z).1 (List.mem_cons_of_mem _ hz)) with e | e
    · have := x1 _ hz; omega
    · exact e, fun hz => by
    rcases List.mem_cons.1 ((h z).2 (List.mem_cons_of_mem _ hz)) with e | e
    · have := y1 _ hz; omega
    · exact e⟩)]
theorem DSet.eq {xs ys : List Int} {P : Int → Prop} (h : DSet xs P) (k : DSet ys P) : xs = ys := dset_same h.1 k.1 (fun z => (h.2 z).trans (k.2 z).symm)
theorem DSet.imp {xs : List Int} {P Q : Int → Prop} (h : DSet xs P) (k : ∀ z, P z ↔ Q z) : DSet xs Q := ⟨h.1, fun z => (h.2 z).trans (k z)⟩
theorem dset_nil {P : Int → Prop} (h : ∀ z, ¬ P z) : DSet [] P := ⟨List.Pairwise.nil, fun z => ⟨fun k => absurd k List.not_mem_nil, fun k => absurd k (h z)⟩⟩
theorem DSet.snoc {xs : List Int} {P Q : Int → Prop} {n : Int} (h : DSet xs P) (hn : ∀ z, P z → z < n) (hq : ∀ z, Q z ↔ P z ∨ z = n) : DSet (xs ++ [n]) Q := by
 refine ⟨List.pairwise_append.2 ⟨h.1, List.pairwise_singleton _ _, fun a ha b hb => ?_⟩, fun z => ?_⟩
 · rw [List.mem_singleton.1 hb]
   exact hn _ ((h.2 a).1 ha)
 · rw [List.mem_append, List.mem_singleton, h.2, hq]
def daysWhere (a b : Int) (p : Int → Bool) : List Int := ((List.range (b - a + 1).toNat).map (fun i : Nat => a + (i : Int))).filter p
theorem daysWhere_set (a b : Int) (p : Int → Bool) : DSet (daysWhere a b p) (fun z => a ≤ z ∧ z ≤ b ∧ p z = true) := by
 unfold daysWhere
 refine ⟨List.Pairwise.filter _ (List.pairwise_map.2 (List.Pairwise.imp (fun h => by omega) List.pairwise_lt_range)), fun z => ?_⟩
 rw [List.mem_filter, List.mem_map]
 constructor
 · rintro ⟨⟨i, hi, rfl⟩, hp⟩
   have := List.mem_range.1 hi
   exact ⟨by omega, by omega, hp⟩
 · rintro ⟨h1, h2, hp⟩
   exact ⟨⟨(z - a).toNat, List.mem_range.2 (by omega), by omega⟩, hp⟩
theorem daysWhere_len (a b : Int) (p : Int → Bool) : (daysWhere a b p).length ≤ (b - a + 1).toNat := by
 unfold daysWhere
 refine Nat.le_trans (List.length_filter_le ..) ?_
 simp
theorem dset_len {xs : List Int} {P : Int → Prop} {a b : Int} (h : DSet xs P) (hp : ∀ z, P z → a ≤ z ∧ z ≤ b) : xs.length ≤ (b - a + 1).toNat := by
 have e : xs = daysWhere a b (fun z => decide (z ∈ xs)) := DSet.eq (P := fun z => z ∈ xs) ⟨h.1, fun z => Iff.rfl⟩ ((daysWhere_set a b _).imp (fun z => ⟨fun k => of_decide_eq_true k.2.2, fun k => ⟨(hp z ((h.2 z).1 k)).1, (hp z ((h.2 z).1 k)).2, decide_eq_true k⟩⟩))
 rw [e]
 exact daysWhere_len a b _
end Go.Proofs.YtpclaceefapppaaGreatDoor.ctr
namespace Go.Proofs.YtpclaceefapppaaGreatDoor.ctr
open Go.RowKit
def left (m : Int) : List UInt8 := if m = 0 then [] else Lib.decDigits m.natAbs
theorem left_step (m : Int) (h : m ≠ 0) : left m = left (m.tdiv 10) ++ [UInt8.ofNat (48 + m.natAbs % 10)] := by
 have e : (m.tdiv 10).natAbs = m.natAbs / 10 := by rw [Int.natAbs_tdiv]; rfl
 unfold left
 rw [if_neg h, Lib.decDigits]
 by_cases h0 : m.natAbs < 10
 · rw [dif_pos h0, if_pos (by omega), Nat.mod_eq_of_lt h0]
   rfl
 · rw [dif_neg h0, if_neg (by omega), e]
theorem dec_len : ∀ (k u : Nat), u < 10 ^ (k + 1) → (Lib.decDigits u).length ≤ k + 1
  | 0, u, h => by rw [Lib.decDigits, dif_pos (by simpa using h)]; simp
  | k + 1, u, h => by
   rw [Lib.decDigits]
   by_cases h0 : u < 10
   · rw [dif_pos h0]; simp
   · rw [dif_neg h0, List.length_append]
     have := dec_len k (u / 10) (by rw [Nat.pow_succ] at h; omega)
     simp
     omega
theorem left_len (n : Int) (h0 : -9223372036854775808 ≤ n) (h1 : n ≤ 9223372036854775807) : (left n).length ≤ 20 := by
 unfold left
 by_cases h : n = 0
 · rw [if_pos h]; simp
 · rw [if_neg h]
   exact dec_len 19 n.natAbs (by have : (10 : Nat) ^ (19 + 1) = 100000000000000000000 := by decide
                                 omega)
theorem out_len {m n : Int} {out : List UInt8} (h : left m ++ out = left n) (h0 : -9223372036854775808 ≤ n) (h1 : n ≤ 9223372036854775807) : out.length ≤ 20 := by
 have := left_len n h0 h1
 rw [← h, List.length_append] at this
 omega
theorem digits_one : ∀ i : Fin 10, (⟨#[48, 49, 50, 51, 52, 53, 54, 55, 56, 57]⟩ : ByteArray).extract i.val (i.val + 1) = ⟨#[UInt8.ofNat (48 + i.val)]⟩ := by decide
theorem digit_join (d : Int) (k : Nat) (h0 : 0 ≤ d) (h1 : d < 10) (hk : d.toNat = k) (out : List UInt8) :
    Value.string ((⟨#[48, 49, 50, 51, 52, 53, 54, 55, 56, 57]⟩ : ByteArray).extract d.toNat (d + 1).toNat ++ ⟨out.toArray⟩) = .string ⟨(UInt8.ofNat (48 + k) :: out).toArray⟩ := by
  have e : (d + 1).toNat = d.toNat + 1 := by omega
  rw [e, hk, digits_one ⟨k, by omega⟩]
  congr 1
theorem itoa_left (n : Int) (h : n ≠ 0) : Lib.itoa n = if n < 0 then 45 :: left n else left n := by
 unfold Lib.itoa left
 rw [if_neg h]
 by_cases hn : n < 0
 · rw [if_pos hn, if_pos hn]
 · rw [if_neg hn, if_neg hn, show n.toNat = n.natAbs from by omega]
theorem specDecText (n : Int) (w : World) (h0 : -9223372036854775808 ≤ n) (h1 : n ≤ 9223372036854775807) :
    CS 99 #[.int .i64 n] w (.string ⟨(Lib.itoa n).toArray⟩) := by
  by_cases hz : n = 0
  · subst hz
    go_enter Tryz.func99, Tryz.ntmps99
    go_wp2
    go_ret
    exact ⟨ret_str (by unfold Lib.itoa; rw [if_neg (by decide), Lib.decDigits]; rfl), rfl⟩
  have hz' : (n == 0) = false := by simp [hz]
  go_enter Tryz.func99, Tryz.ntmps99
  go_wp2
  go_loop [3, 4] (fun o t => ∃ (m : Int) (out : List UInt8), t = .int .i64 m ∧ o = .string ⟨out.toArray⟩ ∧ -9223372036854775808 ≤ m ∧ m ≤ 9223372036854775807 ∧ left m ++ out = left n) (fun _ t => (intOf t).natAbs)
  case atStart => exact ⟨n, [], rfl, rfl, h0, h1, by simp⟩
  case round =>
   obtain ⟨m, out, rfl, rfl, b0, b1, hl⟩ := hrel
   have HL : Hid (left m ++ out = left n) := hl
   have ho := out_len hl h0 h1
   clear hl
   by_cases hm : m = 0
   · subst hm
     by_cases hn : n < 0
     · go_wp2
       go_ret
       refine ⟨ret_str ?_, rfl⟩
       rw [itoa_left n hz, if_pos hn, ← HL.out]
       rfl
     · go_wp2
       go_ret
       refine ⟨ret_str ?_, rfl⟩
       rw [itoa_left n hz, if_neg (by omega), ← HL.out]
       rfl
   · have hm' : (m != 0) = true := by simp [hm]
     have t1 : -10 < m.tmod 10 := Int.lt_tmod_of_pos m (by omega)
     have t2 : m.tmod 10 < 10 := Int.tmod_lt_of_pos m (by omega)
     have HA : Hid ((m.tmod 10).natAbs = m.natAbs % 10) := by unfold Hid; rw [Int.natAbs_tmod]; rfl
     have HQ : Hid ((m.tdiv 10).natAbs = m.natAbs / 10) := by unfold Hid; rw [Int.natAbs_tdiv]; rfl
     by_cases hr : m.tmod 10 < 0
     · go_wp2
       refine ⟨⟨m.tdiv 10, UInt8.ofNat (48 + m.natAbs % 10) :: out, rfl, ?_, ?_, ?_, ?_⟩, ?_⟩
       · exact digit_join (-m.tmod 10) _ (by omega) (by omega) (by have := HA.out; omega) out
       · have := HQ.out; omega
       · have := HQ.out; omega
       · rw [← HL.out, left_step m hm]; simp
       · show (m.tdiv 10).natAbs < m.natAbs
         rw [HQ.out]; omega
     · go_wp2
       refine ⟨⟨m.tdiv 10, UInt8.ofNat (48 + m.natAbs % 10) :: out, rfl, ?_, ?_, ?_, ?_⟩, ?_⟩
       · exact digit_join (m.tmod 10) _ (by omega) (by omega) (by have := HA.out; omega) out
       · have := HQ.out; omega
       · have := HQ.out; omega
       · rw [← HL.out, left_step m hm]; simp
       · show (m.tdiv 10).natAbs < m.natAbs
         rw [HQ.out]; omega
def digB (c : UInt8) : Bool := inB c.toNat 48 57
def digs (s : ByteArray) (k : Nat) : Bool := (s.data.toList.take k).all digB
def valL (l : List UInt8) : Int := l.foldl (fun n c => 10 * n + (c.toNat : Int) - 48) 0
def val (s : ByteArray) (k : Nat) : Int := valL (s.data.toList.take k)
def itoaB (n : Int) : ByteArray := ⟨(Lib.itoa n).toArray⟩
def readDec (s : ByteArray) : Int := if s.size ≤ 9 ∧ digs s s.size = true ∧ itoaB (val s s.size) = s then val s s.size else -1
theorem val_succ (s : ByteArray) (k : Nat) (h : k < s.size) : val s (k + 1) = 10 * val s k + (s[k].toNat : Int) - 48 := by
 unfold val valL
 rw [take_snoc s k h, List.foldl_append]
 rfl
theorem digs_succ (s : ByteArray) (k : Nat) (h : k < s.size) : digs s (k + 1) = (digs s k && digB s[k]) := by
 unfold digs
 rw [take_snoc s k h, List.all_append]
 simp
theorem dig_of {c : UInt8} (h : digB c = true) : 48 ≤ (c.toNat : Int) ∧ (c.toNat : Int) ≤ 57 := by
 simpa [digB, inB] using h
theorem val_bd (s : ByteArray) : ∀ k, k ≤ s.size → digs s k = true → 0 ≤ val s k ∧ val s k < (10 : Int) ^ k
  | 0, _, _ => by simp [val, valL]
  | k + 1, hk, h => by
   rw [digs_succ s k (by omega), Bool.and_eq_true] at h
   have := val_bd s k (by omega) h.1
   have hd := dig_of h.2
   rw [val_succ s k (by omega), Int.pow_succ]
   omega
theorem val_bd9 (s : ByteArray) (k : Nat) (hk : k ≤ s.size) (h9 : k ≤ 9) (h : digs s k = true) : 0 ≤ val s k ∧ val s k ≤ 999999999 := by
 have := val_bd s k hk h
 have h2 : (10 : Int) ^ k ≤ 10 ^ 9 := by
  have : (10 : Nat) ^ k ≤ 10 ^ 9 := Nat.pow_le_pow_right (by omega) h9
  exact_mod_cast this
 have h3 : (10 : Int) ^ 9 = 1000000000 := by decide
 omega
theorem digs_up (s : ByteArray) : ∀ k j, k + j ≤ s.size → digs s (k + j) = true → digs s k = true
  | k, 0, _, h => h
  | k, j + 1, hk, h => by
   rw [show k + (j + 1) = (k + j) + 1 from by omega, digs_succ s (k + j) (by omega), Bool.and_eq_true] at h
   exact digs_up s k j (by omega) h.1
theorem read_stop (s : ByteArray) (k : Nat) (h : k < s.size) (h2 : digB s[k] = false) : readDec s = -1 := by
 unfold readDec
 rw [if_neg]
 rintro ⟨_, hd, _⟩
 have := digs_up s (k + 1) (s.size - (k + 1)) (by omega) (by rw [show k + 1 + (s.size - (k + 1)) = s.size from by omega]; exact hd)
 rw [digs_succ s k h, h2] at this
 simp at this
theorem read_long (s : ByteArray) (h : 9 < s.size) : readDec s = -1 := by
 unfold readDec
 rw [if_neg (by omega)]
theorem read_bad (s : ByteArray) (h : itoaB (val s s.size) ≠ s) : readDec s = -1 := by
 unfold readDec
 rw [if_neg (by rintro ⟨_, _, e⟩; exact h e)]
theorem read_good (s : ByteArray) (h9 : s.size ≤ 9) (hd : digs s s.size = true) (h : itoaB (val s s.size) = s) : readDec s = val s s.size := by
 unfold readDec
 rw [if_pos ⟨h9, hd, h⟩]
theorem itoa_eq {v : Int} {s : ByteArray} (h : (Lib.itoa v == s.toList) = true) : itoaB v = s := by
 rw [ByteArray.toList_eq, beq_iff_eq] at h
 unfold itoaB
 rw [h]
theorem itoa_ne {v : Int} {s : ByteArray} (h : (Lib.itoa v == s.toList) = false) : itoaB v ≠ s := by
 rintro rfl
 rw [ByteArray.toList_eq] at h
 simp [itoaB] at h
theorem itoaB_empty (n : Int) (s : ByteArray) (h : s.size = 0) : itoaB n ≠ s := by
 intro e
 have h1 : (itoaB n).size = 0 := by rw [e, h]
 have h2 : (Lib.itoa n).length = 0 := h1
 rw [List.length_eq_zero_iff] at h2
 unfold Lib.itoa at h2
 split at h2
 · simp at h2
 · rw [Lib.decDigits] at h2
   split at h2 <;> simp at h2
theorem specReadDec (s : ByteArray) (w : World) (hs : s.size ≤ maxLen) :
    CS 54 #[.string s] w (.int .i64 (readDec s)) := by
  unfold maxLen at hs
  go_enter Tryz.func54, Tryz.ntmps54
  go_wp2
  go_loop [3, 4] (fun n i => ∃ (k : Nat) (v : Int), k ≤ s.size ∧ k ≤ 9 ∧ i = .int .i64 k ∧ n = .int .i64 v ∧ 0 ≤ v ∧ v ≤ 999999999 ∧ digs s k = true ∧ v = val s k) (fun _ i => s.size - (intOf i).toNat)
  case atStart => exact ⟨0, 0, Nat.zero_le _, Nat.zero_le _, rfl, rfl, by omega, by omega, by simp [digs], by simp [val, valL]⟩
  case round =>
   obtain ⟨k, v, hk, hk9, rfl, rfl, v0, v1, hd, hv⟩ := hrel
   have HD : Hid (digs s k = true) := hd
   have HV : Hid (v = val s k) := hv
   clear hd hv
   by_cases hlt : k < s.size
   · cases hb : digB s[k]
     · have HB : Hid (readDec s = -1) := read_stop s k hlt hb
       have hb' : inB (wrap64 (s[k].toNat : Int)) 48 57 = false := by rw [byte64]; exact hb
       clear hb
       go_wp2_with (go_at_call 98; refine (l01In _ _ _ _).mono ?_; rintro e w' ⟨rfl, rfl⟩)
       go_ret
       exact ⟨ret_int HB.out.symm, rfl⟩
     · have hb' : inB (wrap64 (s[k].toNat : Int)) 48 57 = true := by rw [byte64]; exact hb
       by_cases h9 : 9 < s.size
       · have HB : Hid (readDec s = -1) := read_long s h9
         clear hb
         go_wp2_with (go_at_call 98; refine (l01In _ _ _ _).mono ?_; rintro e w' ⟨rfl, rfl⟩)
         go_ret
         exact ⟨ret_int HB.out.symm, rfl⟩
       · have HN : Hid (digs s (k + 1) = true) := by unfold Hid; rw [digs_succ s k hlt, HD.out, hb]; rfl
         have HS : Hid (val s (k + 1) = 10 * v + (s[k].toNat : Int) - 48) := by unfold Hid; rw [val_succ s k hlt, HV.out]
         have hbd := dig_of hb
         obtain ⟨d0, d1⟩ := hbd
         have hb2 : inB (s[k].toNat : Int) 48 57 = true := hb
         clear hb hb'
         go_wp2_with (go_at_call 98; refine (l01In _ _ _ _).mono ?_; rintro e w' ⟨rfl, rfl⟩)
         have hB := val_bd9 s (k + 1) (by omega) (by omega) HN.out
         rw [HS.out] at hB
         exact ⟨⟨k + 1, 10 * v + (s[k].toNat : Int) - 48, by omega, by omega, by go_num, by go_num, by omega, by omega, HN.out, HS.out.symm⟩, by simp [intOf]; omega⟩
   · have hks : k = s.size := by omega
     by_cases hz : s.size = 0
     · have HB : Hid (readDec s = -1) := read_bad s (itoaB_empty _ s hz)
       have hz' : s.toList.isEmpty = true := by rw [ByteArray.toList_eq]; simp; exact Array.eq_empty_of_size_eq_zero hz
       go_wp2_with (go_at_call 99; refine (specDecText _ _ (by omega) (by omega)).mono ?_; rintro e w' ⟨rfl, rfl⟩)
       go_ret
       exact ⟨ret_int HB.out.symm, rfl⟩
     · have hz' : s.toList.isEmpty = false := by rw [ByteArray.toList_eq]; simp; intro e; exact hz (by show s.data.size = 0; rw [e]; rfl)
       cases hq : (Lib.itoa v == s.toList)
       · have HB : Hid (readDec s = -1) := read_bad s (by rw [← hks, ← HV.out]; exact itoa_ne hq)
         clear hks
         go_wp2_with (go_at_call 99; refine (specDecText _ _ (by omega) (by omega)).mono ?_; rintro e w' ⟨rfl, rfl⟩)
         go_ret
         exact ⟨ret_int HB.out.symm, rfl⟩
       · have HB : Hid (readDec s = v) := by unfold Hid; rw [HV.out, hks]; exact read_good s (by omega) (by rw [← hks]; exact HD.out) (by rw [← hks, ← HV.out]; exact itoa_eq hq)
         clear hks
         go_wp2_with (go_at_call 99; refine (specDecText _ _ (by omega) (by omega)).mono ?_; rintro e w' ⟨rfl, rfl⟩)
         go_ret
         exact ⟨ret_int HB.out.symm, rfl⟩

end Go.Proofs.YtpclaceefapppaaGreatDoor.ctr
