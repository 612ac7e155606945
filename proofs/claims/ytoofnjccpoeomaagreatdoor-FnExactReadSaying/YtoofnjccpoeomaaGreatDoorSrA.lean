/- What is read of a text of a saying: plain, of no program; the model's way by words and the program's way by the last blank tell the same. Contract of the model's l12When: what words tell. Contracts of the program's ReadSaying and of what it calls: each answers its plain function, at every text of at most 1048576 bytes, where the listed tables hold their numbers. Contract of the program's ReadSaying: at every text of at most 1048576 bytes the saying that is told, or none. -/
import Derived.Test.YtoofnjccpoeomaaGreatDoorSaA
import Derived.Test.YtoofnjccpoeomaaGreatDoorFeB
import Derived.Test.YtoofnjccpoeomaaGreatDoorRrB
import Derived.Test.YtoofnjccpoeomaaGreatDoorMonOfCtr
import Derived.Test.YtoofnjccpoeomaaGreatDoorRowBase
import Derived.Test.YtoofnjccpoeomaaGreatDoorRegSplit
import Derived.Deep.DeepCutAuto
namespace Go.Proofs.YtoofnjccpoeomaaGreatDoor.ctr
open Go.RowKit

/-! ### a text ahead of a sign -/
theorem list_pre (s : ByteArray) (p : Nat) : (s.extract 0 p).data.toList = s.data.toList.take p := by
  rw [Lib.extract_eq]
  show List.take (p - 0) (List.drop 0 s.data.toList) = _
  simp
theorem bAt_pre (s : ByteArray) (p k : Nat) (h : k < p) : bAt (s.extract 0 p) k = bAt s k := by
  unfold bAt
  rw [list_pre, List.getD, List.getD, List.getElem?_take, if_pos h]
theorem size_pre (s : ByteArray) (p : Nat) (h : p ≤ s.size) : (s.extract 0 p).size = p := by rw [ByteArray.size_extract]; omega
theorem ext_pre (s : ByteArray) (p a k : Nat) (h : k ≤ p) : (s.extract 0 p).extract a k = s.extract a k := by
  rw [ByteArray.extract_extract]
  congr 1
  · omega
  · omega
theorem parts_pre (s : ByteArray) (g : Int) (p : Nat) : ∀ k, k ≤ p → partsTo (s.extract 0 p) g k = partsTo s g k ∧ startAt (s.extract 0 p) g k = startAt s g k
  | 0, _ => ⟨rfl, rfl⟩
  | k + 1, h => by
    obtain ⟨i1, i2⟩ := parts_pre s g p k (by omega)
    by_cases hb : bAt s k = g
    · obtain ⟨a1, a2⟩ := parts_hit s g k hb
      obtain ⟨b1, b2⟩ := parts_hit (s.extract 0 p) g k (by rw [bAt_pre s p k (by omega)]; exact hb)
      rw [a1, a2, b1, b2, i1, i2, ext_pre s p _ k (by omega)]
      exact ⟨rfl, rfl⟩
    · obtain ⟨a1, a2⟩ := parts_miss s g k hb
      obtain ⟨b1, b2⟩ := parts_miss (s.extract 0 p) g k (by rw [bAt_pre s p k (by omega)]; exact hb)
      rw [a1, a2, b1, b2]
      exact ⟨i1, i2⟩
theorem start_split (s : ByteArray) (g : Int) : ∀ k, (startAt s g k = 0 ∧ ∀ j, j < k → bAt s j ≠ g) ∨ (∃ p, p < k ∧ startAt s g k = p + 1 ∧ bAt s p = g ∧ ∀ j, p < j → j < k → bAt s j ≠ g)
  | 0 => .inl ⟨rfl, fun j hj => absurd hj (by omega)⟩
  | k + 1 => by
    by_cases hb : bAt s k = g
    · exact .inr ⟨k, by omega, (parts_hit s g k hb).2, hb, fun j h1 h2 => absurd h1 (by omega)⟩
    · have e := (parts_miss s g k hb).2
      rcases start_split s g k with ⟨h0, hn⟩ | ⟨p, hp, h1, h2, hn⟩
      · refine .inl ⟨e.trans h0, fun j hj => ?_⟩
        by_cases hj2 : j = k
        · rw [hj2]; exact hb
        · exact hn j (by omega)
      · refine .inr ⟨p, by omega, e.trans h1, h2, fun j h3 h4 => ?_⟩
        by_cases hj2 : j = k
        · rw [hj2]; exact hb
        · exact hn j h3 (by omega)
/-- What is ahead of the last blank, and what is behind it. -/
def aheadW (s : ByteArray) : ByteArray := s.extract 0 (startAt s 32 s.size - 1)
def lastW (s : ByteArray) : ByteArray := s.extract (startAt s 32 s.size) s.size
theorem ahead_size (s : ByteArray) : (aheadW s).size ≤ s.size := by unfold aheadW; rw [ByteArray.size_extract]; omega
theorem last_size (s : ByteArray) : (lastW s).size ≤ s.size := by unfold lastW; rw [ByteArray.size_extract]; omega
theorem none_ahead {s : ByteArray} (h : startAt s 32 s.size = 0) : aheadW s = ⟨#[]⟩ := by
  unfold aheadW
  rw [h]
  exact ByteArray.extract_same
theorem cut_one {s : ByteArray} (h : startAt s 32 s.size = 0) : cut s 32 = [lastW s] := by
  rcases start_split s 32 s.size with ⟨_, hn⟩ | ⟨p, _, h1, _⟩
  · unfold lastW
    rw [h, ext_all]
    exact cut_none s 32 hn
  · omega
theorem cut_init {s : ByteArray} (h : startAt s 32 s.size ≠ 0) : cut s 32 = cut (aheadW s) 32 ++ [lastW s] := by
  rcases start_split s 32 s.size with ⟨h0, _⟩ | ⟨p, hp, h1, h2, hn⟩
  · exact absurd h0 h
  · have hrun := parts_run s 32 (p + 1) (s.size - (p + 1)) (fun j h3 h4 => hn j (by omega) (by omega))
    rw [show p + 1 + (s.size - (p + 1)) = s.size from by omega] at hrun
    obtain ⟨b1, b2⟩ := parts_hit s 32 p h2
    obtain ⟨c1, c2⟩ := parts_pre s 32 p p (Nat.le_refl _)
    have ea : aheadW s = s.extract 0 p := by unfold aheadW; rw [h1]; rfl
    unfold lastW
    rw [ea]
    unfold cut
    rw [size_pre s p (by omega), c1, c2, ext_pre s p _ p (Nat.le_refl _), hrun.1, b1, h1]
/-! ### words put together -/
def glue : List ByteArray → Nat → ByteArray
  | _, 0 => ⟨#[]⟩
  | w, 1 => w.getD 0 ⟨#[]⟩
  | w, k + 2 => glue w (k + 1) ++ ⟨#[32]⟩ ++ w.getD (k + 1) ⟨#[]⟩
theorem glue_pre (a b : List ByteArray) : ∀ k, k ≤ a.length → glue (a ++ b) k = glue a k
  | 0, _ => rfl
  | 1, h => by
    show (a ++ b).getD 0 _ = a.getD 0 _
    rw [List.getD, List.getD, List.getElem?_append_left (by omega)]
  | k + 2, h => by
    show glue (a ++ b) (k + 1) ++ _ ++ (a ++ b).getD (k + 1) _ = glue a (k + 1) ++ _ ++ a.getD (k + 1) _
    rw [glue_pre a b (k + 1) (by omega), List.getD, List.getD, List.getElem?_append_left (by omega)]
theorem glue_snoc (a : List ByteArray) (x : ByteArray) (h : a ≠ []) : glue (a ++ [x]) (a.length + 1) = glue a a.length ++ ⟨#[32]⟩ ++ x := by
  obtain ⟨n, hn⟩ : ∃ n, a.length = n + 1 := ⟨a.length - 1, by have := List.length_pos_iff.mpr h; omega⟩
  rw [hn]
  show glue (a ++ [x]) (n + 1) ++ _ ++ (a ++ [x]).getD (n + 1) _ = _
  rw [glue_pre a [x] (n + 1) (by omega), List.getD, List.getElem?_append_right (by omega), hn]
  simp
theorem ext_snoc (s : ByteArray) (p : Nat) (hp : p < s.size) (hb : bAt s p = 32) : s.extract 0 p ++ ⟨#[32]⟩ = s.extract 0 (p + 1) := by
  apply WideShapes.bytes_inj
  rw [ByteArray.data_append, Array.toList_append, list_pre, list_pre]
  have hl : p < s.data.toList.length := hp
  rw [List.take_succ_eq_append_getElem hl]
  congr 1
  have h : (s.data.toList[p]).toNat = 32 := by
    unfold bAt at hb
    rw [List.getD, List.getElem?_eq_getElem hl] at hb
    simp only [Option.getD_some] at hb
    omega
  show [32] = [s.data.toList[p]]
  rw [show s.data.toList[p] = 32 from UInt8.toNat_inj.1 h]
theorem ext_join (s : ByteArray) (a b : Nat) (h1 : a ≤ b) : s.extract 0 a ++ s.extract a b = s.extract 0 b := by
  rw [ByteArray.extract_append_extract]
  congr 1
  omega
theorem glue_parts (s : ByteArray) : ∀ k, k ≤ s.size → (startAt s 32 k = 0 ∧ partsTo s 32 k = []) ∨ (startAt s 32 k ≠ 0 ∧ partsTo s 32 k ≠ [] ∧ glue (partsTo s 32 k) (partsTo s 32 k).length ++ ⟨#[32]⟩ = s.extract 0 (startAt s 32 k))
  | 0, _ => .inl ⟨rfl, rfl⟩
  | k + 1, h => by
    by_cases hb : bAt s k = 32
    · obtain ⟨a1, a2⟩ := parts_hit s 32 k hb
      refine .inr ⟨by rw [a2]; omega, by rw [a1]; simp, ?_⟩
      rw [a1, a2, List.length_append]
      rcases glue_parts s k (by omega) with ⟨h0, hp⟩ | ⟨h0, hp, hg⟩
      · rw [hp, h0]
        show s.extract 0 k ++ _ = _
        exact ext_snoc s k (by omega) hb
      · show glue (partsTo s 32 k ++ [s.extract (startAt s 32 k) k]) ((partsTo s 32 k).length + 1) ++ _ = _
        rw [glue_snoc _ _ hp, hg, ext_join s _ k (start_le s 32 k)]
        exact ext_snoc s k (by omega) hb
    · obtain ⟨a1, a2⟩ := parts_miss s 32 k hb
      rw [a1, a2]
      exact glue_parts s k (by omega)
theorem glue_cut (s : ByteArray) : glue (cut s 32) (cut s 32).length = s := by
  unfold cut
  rw [List.length_append]
  show glue _ ((partsTo s 32 s.size).length + 1) = s
  rcases glue_parts s s.size (Nat.le_refl _) with ⟨h0, hp⟩ | ⟨h0, hp, hg⟩
  · rw [hp, h0]
    show s.extract 0 s.size = s
    exact ext_all s
  · rw [glue_snoc _ _ hp, hg, ext_join s _ _ (start_le s 32 _)]
    exact ext_all s
/-- The words ahead of the last one, put together. -/
theorem glue_init (s : ByteArray) : glue (cut s 32) ((cut s 32).length - 1) = aheadW s := by
  by_cases h : startAt s 32 s.size = 0
  · rw [cut_one h, none_ahead h]
    rfl
  · rw [cut_init h, List.length_append]
    show glue _ ((cut (aheadW s) 32).length + 1 - 1) = _
    rw [Nat.add_sub_cancel, glue_pre _ _ _ (Nat.le_refl _)]
    exact glue_cut _
/-! ### a text cut once -/
def cut1 (u : ByteArray) (g : UInt8) : ByteArray × ByteArray × Bool :=
  if Lib.indexByte u.data.toList g < 0 then (u, ⟨#[]⟩, false) else (u.extract 0 (Lib.indexByte u.data.toList g).toNat, u.extract ((Lib.indexByte u.data.toList g).toNat + 1) u.size, true)
theorem parts_pref (s : ByteArray) (g : Int) (a : Nat) : ∀ n, ∃ l, partsTo s g (a + n) = partsTo s g a ++ l
  | 0 => ⟨[], by simp⟩
  | n + 1 => by
    obtain ⟨l, hl⟩ := parts_pref s g a n
    by_cases hb : bAt s (a + n) = g
    · exact ⟨l ++ [s.extract (startAt s g (a + n)) (a + n)], by rw [← Nat.add_assoc, (parts_hit s g _ hb).1, hl, List.append_assoc]⟩
    · exact ⟨l, by rw [← Nat.add_assoc, (parts_miss s g _ hb).1, hl]⟩
theorem cut_fst (s : ByteArray) (g : Int) (p : Nat) (hp : p < s.size) (hat : bAt s p = g) (hno : ∀ j, j < p → bAt s j ≠ g) : (cut s g).getD 0 ⟨#[]⟩ = s.extract 0 p := by
  obtain ⟨a1, a2⟩ := parts_none s g p hno
  obtain ⟨b1, _⟩ := parts_hit s g p hat
  rw [a1, a2] at b1
  obtain ⟨l, hl⟩ := parts_pref s g (p + 1) (s.size - (p + 1))
  rw [show p + 1 + (s.size - (p + 1)) = s.size from by omega, b1] at hl
  unfold cut
  rw [hl]
  rfl
theorem cut1_hit {u : ByteArray} {g : UInt8} {p : Nat} (h : Lib.indexByte u.data.toList g = p) : cut1 u g = (u.extract 0 p, u.extract (p + 1) u.size, true) := by
  unfold cut1
  rw [h, if_neg (by omega), Int.toNat_natCast]
theorem cut1_miss {u : ByteArray} {g : UInt8} (h : Lib.indexByte u.data.toList g = -1) : cut1 u g = (u, ⟨#[]⟩, false) := by
  unfold cut1
  rw [h, if_pos (by omega)]
/-! ### years -/
def yrI (t : ByteArray) : Int × Int := (readDec (cut1 t 47).1, if (cut1 t 47).2.2 = true then readDec (cut1 t 47).2.1 else -1)
def yrS (t : ByteArray) : Int × Int := (readDec ((cut t 47).getD 0 ⟨#[]⟩), if (cut t 47).length = 2 then readDec ((cut t 47).getD 1 ⟨#[]⟩) else -1)
theorem yr_same (t : ByteArray) : yrS t = yrI t := by
  unfold yrS yrI
  rcases cut_first t 47 with ⟨p, hp, hi, hat, hno⟩ | ⟨hi, hn⟩
  · rw [cut1_hit hi]
    have hat' : bAt t p = 47 := hat
    rw [cut_fst t 47 p hp hat' hno]
    by_cases h : ∃ q, p < q ∧ q < t.size ∧ bAt t q = 47
    · obtain ⟨q, h1, h2, h3⟩ := h
      have hm := cut_more t 47 p q h1 h2 hat' h3
      rw [if_neg (by omega)]
      have hd : readDec (t.extract (p + 1) t.size) = -1 := by
        refine readDec_sign _ (q - (p + 1)) ?_ ?_
        · rw [ByteArray.size_extract]; omega
        · rw [bAt_ext, show p + 1 + (q - (p + 1)) = q from by omega, h3]; omega
      rw [if_pos rfl, hd]
    · rw [cut_two t 47 p hp hat' hno (fun j h1 h2 h3 => h ⟨j, h1, h2, h3⟩)]
      rfl
  · rw [cut1_miss hi, cut_none t 47 hn]
    rfl
/-! ### Whens -/
def whenI (u : ByteArray) : Whn :=
  if (readRoman u).2 = true then ⟨1, 0, 0, (readRoman u).1, ⟨#[]⟩, 0⟩
  else if 0 ≤ (readFeast u).1 then ⟨2, 0, 0, rom0, (feaAt (readFeast u).1.toNat).name, (readFeast u).2⟩
  else ⟨0, monOf (cut1 u 32).2.1, readDec (cut1 u 32).1, rom0, ⟨#[]⟩, 0⟩
def whenS (u : ByteArray) (ws : List ByteArray) : Whn :=
  if (readRoman u).2 = true then ⟨1, 0, 0, (readRoman u).1, ⟨#[]⟩, 0⟩
  else if 0 ≤ (readFeast u).1 then ⟨2, 0, 0, rom0, (feaAt (readFeast u).1.toNat).name, (readFeast u).2⟩
  else if ws.length ≠ 2 then ⟨-1, 0, 0, rom0, ⟨#[]⟩, 0⟩
  else ⟨0, monOf (ws.getD 1 ⟨#[]⟩), readDec (ws.getD 0 ⟨#[]⟩), rom0, ⟨#[]⟩, 0⟩
theorem mon_signs : ∀ j : Fin 12, (monB j.val).size = 3 ∧ ∀ k : Fin 3, bAt (monB j.val) k.val ≠ 32 := by decide +kernel
theorem monOf_blank {s : ByteArray} {k : Nat} (hk : k < s.size) (h : bAt s k = 32) : monOf s = 0 := by
  refine monOf_miss fun j hj e => ?_
  obtain ⟨h1, h2⟩ := mon_signs ⟨j, hj⟩
  subst e
  exact h2 ⟨k, by simp only at h1; omega⟩ h
theorem monOf_none : monOf ⟨#[]⟩ = 0 := by decide +kernel
theorem whnB_mon {d p : Int} {r : Rom} {f : ByteArray} : whnB ⟨0, 0, d, r, f, p⟩ = false := by
  obtain ⟨a, b, c, t⟩ := r
  rw [whnB_0, show inB 0 1 12 = false from by decide]
  simp
theorem when_same (u : ByteArray) (ws : List ByteArray) (h : ws = cut u 32 ∨ (ws = [] ∧ u = ⟨#[]⟩)) : whenS u ws = whenI u ∨ (whnB (whenS u ws) = false ∧ whnB (whenI u) = false) := by
  unfold whenS whenI
  by_cases h1 : (readRoman u).2 = true
  · rw [if_pos h1, if_pos h1]
    exact .inl rfl
  rw [if_neg h1, if_neg h1]
  by_cases h2 : 0 ≤ (readFeast u).1
  · rw [if_pos h2, if_pos h2]
    exact .inl rfl
  rw [if_neg h2, if_neg h2]
  rcases cut_first u 32 with ⟨p, hp, hi, hat, hno⟩ | ⟨hi, hn⟩
  · rw [cut1_hit hi]
    have hat' : bAt u p = 32 := hat
    rcases h with h | ⟨_, h⟩
    · by_cases hq : ∃ q, p < q ∧ q < u.size ∧ bAt u q = 32
      · obtain ⟨q, q1, q2, q3⟩ := hq
        have hm := cut_more u 32 p q q1 q2 hat' q3
        rw [h, if_pos (by omega)]
        refine .inr ⟨whnB_no (by omega) (by omega) (by omega), ?_⟩
        rw [monOf_blank (k := q - (p + 1)) (by rw [ByteArray.size_extract]; omega) (by rw [bAt_ext, show p + 1 + (q - (p + 1)) = q from by omega, q3])]
        exact whnB_mon
      · rw [h, cut_two u 32 p hp hat' hno (fun j h1 h2 h3 => hq ⟨j, h1, h2, h3⟩)]
        exact .inl rfl
    · rw [h] at hp
      exact absurd hp (Nat.not_lt_zero p)
  · rw [cut1_miss hi]
    have hl : ws.length ≠ 2 := by
      rcases h with h | ⟨h, _⟩
      · rw [h, cut_none u 32 hn]; simp
      · rw [h]; simp
    rw [if_pos hl, monOf_none]
    exact .inr ⟨whnB_no (by omega) (by omega) (by omega), whnB_mon⟩
/-! ### the whole -/
def say0 : Say := ⟨⟨0, 0, 0, rom0, ⟨#[]⟩, 0⟩, 0, 0, 0⟩
def sayRest (s : ByteArray) : ByteArray := if calNo (lastW s) < 0 then s else aheadW s
def sayI (s : ByteArray) : Say := ⟨whenI (aheadW (sayRest s)), (yrI (lastW (sayRest s))).1, (yrI (lastW (sayRest s))).2, calNo (lastW s)⟩
def readSay (s : ByteArray) : Say × Bool := if (sayTx (sayI s)).size = 0 ∨ sayTx (sayI s) ≠ s then (say0, false) else (sayI s, true)
/-- The words of which the model reads a When: none where there is one word alone. -/
def initW (t : ByteArray) : List ByteArray := (cut t 32).take ((cut t 32).length - 1)
theorem initW_is (t : ByteArray) : (initW t = cut (aheadW t) 32 ∨ (initW t = [] ∧ aheadW t = ⟨#[]⟩)) := by
  unfold initW
  by_cases h : startAt t 32 t.size = 0
  · rw [cut_one h]
    exact .inr ⟨rfl, none_ahead h⟩
  · rw [cut_init h]
    exact .inl (by simp)
def sayS (s : ByteArray) : Say := ⟨whenS (aheadW (sayRest s)) (initW (sayRest s)), (yrS (lastW (sayRest s))).1, (yrS (lastW (sayRest s))).2, calNo (lastW s)⟩
theorem sayB_when {w : Whn} {y s c : Int} (h : whnB w = false) : sayB ⟨w, y, s, c⟩ = false := by unfold sayB; rw [h]; rfl
theorem read_yes {s : ByteArray} (h : sayTx (sayS s) = s) (h0 : s.size ≠ 0) : readSay s = (sayS s, true) := by
  have hw := when_same (aheadW (sayRest s)) (initW (sayRest s)) (initW_is _)
  rcases hw with e | ⟨e1, e2⟩
  · have e' : sayS s = sayI s := by unfold sayS sayI; rw [e, yr_same]
    unfold readSay
    rw [e'] at h ⊢
    rw [if_neg]
    rintro (h1 | h1)
    · rw [h] at h1; exact h0 h1
    · exact h1 h
  · rw [show sayTx (sayS s) = ⟨#[]⟩ from sayTx_no (sayB_when e1)] at h
    rw [← h] at h0
    exact absurd rfl h0
theorem read_no {s : ByteArray} (h : s.size = 0 ∨ sayTx (sayS s) ≠ s) : readSay s = (say0, false) := by
  have hw := when_same (aheadW (sayRest s)) (initW (sayRest s)) (initW_is _)
  unfold readSay
  rcases hw with e | ⟨e1, e2⟩
  · have e' : sayS s = sayI s := by unfold sayS sayI; rw [e, yr_same]
    rw [e'] at h
    rw [if_pos]
    by_cases hq : sayTx (sayI s) = s
    · rcases h with h | h
      · exact .inl (by rw [hq]; exact h)
      · exact absurd hq h
    · exact .inr hq
  · rw [if_pos]
    exact .inl (by rw [show sayTx (sayI s) = ⟨#[]⟩ from sayTx_no (sayB_when e2)]; rfl)
theorem read_bare {s : ByteArray} (hc : 0 ≤ calNo (lastW s)) (h : startAt s 32 s.size = 0) : readSay s = (say0, false) := by
  unfold readSay
  rw [if_pos]
  refine .inl ?_
  have e : sayRest s = ⟨#[]⟩ := by unfold sayRest; rw [if_neg (by omega), none_ahead h]
  have : sayB (sayI s) = false := by
    unfold sayI sayB
    rw [e]
    show (whnB _ && (inB (yrI (lastW ⟨#[]⟩)).1 1 3000 && _)) = false
    rw [show inB (yrI (lastW ⟨#[]⟩)).1 1 3000 = false from by decide +kernel]
    simp
  rw [sayTx_no this]
  rfl
end Go.Proofs.YtoofnjccpoeomaaGreatDoor.ctr

namespace Go.Proofs.YtoofnjccpoeomaaGreatDoor.ctr
open Go.RowKit

/-- The first words of a row lie where they lie. -/
def Lays (w : World) (g : Nat) (xs : List ByteArray) : Prop := ∀ i, i < xs.length → w.cell? ⟨g, i, none⟩ = some (.string (xs.getD i ⟨#[]⟩))
theorem Lays.below {B g : Nat} {w w' : World} {xs : List ByteArray} (h : Lays w g xs) (hb : Below B w w') (hg : g < B) : Lays w' g xs := fun i hi => by rw [hb.cell hg]; exact h i hi
def allSize (xs : List ByteArray) : Nat → Nat
  | 0 => 0
  | k + 1 => allSize xs k + 1 + (xs.getD k ⟨#[]⟩).size
theorem glue_one (xs : List ByteArray) (k : Nat) (h : 0 < k) : glue xs (k + 1) = glue xs k ++ ⟨#[32]⟩ ++ xs.getD k ⟨#[]⟩ := by
  obtain ⟨n, rfl⟩ : ∃ n, k = n + 1 := ⟨k - 1, by omega⟩
  rfl
theorem glue_zero (xs : List ByteArray) : glue xs 1 = (⟨#[]⟩ : ByteArray) ++ xs.getD 0 ⟨#[]⟩ := by
  show xs.getD 0 _ = _
  apply WideShapes.bytes_inj
  rw [ByteArray.data_append, Array.toList_append]
  rfl
theorem glue_mono (xs : List ByteArray) : ∀ k d, (glue xs k).size ≤ (glue xs (k + d)).size
  | _, 0 => Nat.le_refl _
  | k, d + 1 => by
    refine Nat.le_trans (glue_mono xs k d) ?_
    by_cases h : 0 < k + d
    · rw [← Nat.add_assoc, glue_one xs (k + d) h, ByteArray.size_append, ByteArray.size_append]
      omega
    · obtain ⟨rfl, rfl⟩ : k = 0 ∧ d = 0 := by omega
      exact Nat.zero_le _

set_option maxRecDepth 100000 in
set_option maxHeartbeats 8000000 in
theorem specWhen (xs : List ByteArray) (g cap : Nat) (w : World) (hg : g < w.heap.size) (hx : Lays w g xs) (hz : (glue xs xs.length).size ≤ 1048576) (hc : xs.length ≤ 1048576) (hzz : ∀ i, (xs.getD i ⟨#[]⟩).size ≤ 1048576) : Calls Tryz.prog 34 #[.slice (some ⟨g, 0, none⟩) xs.length cap] w fun e w' => e = .returned (whnV (whenS (glue xs xs.length) xs)) ∧ Below w.heap.size w w' := by
  obtain ⟨W0, hW0, hC, hBl⟩ := box_any w #[.int .i64 0, .int .i64 0, .int .i64 0, .int .i64 0, .int .i64 0, .int .i64 0, .bool false, .string ⟨#[]⟩, .int .i64 0] 30
  have hx0 : ∀ x : Later W0, Lays x.w g xs := fun x => hx.below (hBl x) hg
  have KR : ∀ x : Later W0, Calls Tryz.prog 53 #[.string (glue xs xs.length)] x.w fun e w' => e = .returned (readV (readRoman (glue xs xs.length))) ∧ Below x.w.heap.size x.w w' := fun x => specReadRoman _ x.w hz
  have KF : ∀ x : Later W0, Calls Tryz.prog 54 #[.string (glue xs xs.length)] x.w fun e w' => e = .returned (.tuple #[.int .i64 (readFeast (glue xs xs.length)).1, .int .i64 (readFeast (glue xs xs.length)).2]) ∧ Below x.w.heap.size x.w w' := fun x => specRead _ x.w hz
  have KD : ∀ x : Later W0, Calls Tryz.prog 33 #[.string (xs.getD 0 ⟨#[]⟩)] x.w fun e w' => e = .returned (.int .i64 (readDec (xs.getD 0 ⟨#[]⟩))) ∧ Below x.w.heap.size x.w w' := fun x => (specReadDec _ x.w (by unfold maxLen; have := hzz 0; omega)).mono fun _ _ h => ⟨h.1, by rw [h.2]; exact Below.refl _ _⟩
  have KM : ∀ x : Later W0, Calls Tryz.prog 56 #[.string (xs.getD 1 ⟨#[]⟩)] x.w fun e w' => e = .returned (.int .i64 (monOf (xs.getD 1 ⟨#[]⟩))) ∧ Below x.w.heap.size x.w w' := fun x => (specMonthOf _ x.w).mono fun _ _ h => ⟨h.1, by first | exact h.2 | (rw [h.2]; exact Below.refl _ _)⟩
  have hfb : -1 ≤ (readFeast (glue xs xs.length)).1 ∧ (readFeast (glue xs xs.length)).1 < 20 := ⟨(readParts_b _).1, (readParts_b _).2.1⟩
  have HG1 : Hid (∀ k, 0 < k → glue xs (k + 1) = glue xs k ++ ⟨#[32]⟩ ++ xs.getD k ⟨#[]⟩) := fun k h => glue_one xs k h
  have HG0 : Hid (glue xs 1 = (⟨#[]⟩ : ByteArray) ++ xs.getD 0 ⟨#[]⟩) := glue_zero xs
  have HGS : Hid (∀ k, k ≤ xs.length → (glue xs k).size ≤ 1048576) := fun k hk => Nat.le_trans (by have := glue_mono xs k (xs.length - k); rwa [show k + (xs.length - k) = xs.length by omega] at this) hz
  have f0 : ∀ x : Later W0, x.w.frozen? ⟨w.heap.size, 0, none⟩ = false := fun x => (hC x).thaw 0
  have f1 : ∀ x : Later W0, x.w.frozen? ⟨w.heap.size, 1, none⟩ = false := fun x => (hC x).thaw 1
  have f2 : ∀ x : Later W0, x.w.frozen? ⟨w.heap.size, 2, none⟩ = false := fun x => (hC x).thaw 2
  have f3 : ∀ x : Later W0, x.w.frozen? ⟨w.heap.size, 3, none⟩ = false := fun x => (hC x).thaw 3
  have f4 : ∀ x : Later W0, x.w.frozen? ⟨w.heap.size, 4, none⟩ = false := fun x => (hC x).thaw 4
  have f5 : ∀ x : Later W0, x.w.frozen? ⟨w.heap.size, 5, none⟩ = false := fun x => (hC x).thaw 5
  have f6 : ∀ x : Later W0, x.w.frozen? ⟨w.heap.size, 6, none⟩ = false := fun x => (hC x).thaw 6
  have f7 : ∀ x : Later W0, x.w.frozen? ⟨w.heap.size, 7, none⟩ = false := fun x => (hC x).thaw 7
  have f8 : ∀ x : Later W0, x.w.frozen? ⟨w.heap.size, 8, none⟩ = false := fun x => (hC x).thaw 8
  have u0 : ∀ x : Later W0, x.w.cell? ⟨w.heap.size, 0, none⟩ = some (.int .i64 0) := fun x => (hC x).cell 0 rfl
  have u1 : ∀ x : Later W0, x.w.cell? ⟨w.heap.size, 1, none⟩ = some (.int .i64 0) := fun x => (hC x).cell 1 rfl
  have u2 : ∀ x : Later W0, x.w.cell? ⟨w.heap.size, 2, none⟩ = some (.int .i64 0) := fun x => (hC x).cell 2 rfl
  have u3 : ∀ x : Later W0, x.w.cell? ⟨w.heap.size, 3, none⟩ = some (.int .i64 0) := fun x => (hC x).cell 3 rfl
  have u4 : ∀ x : Later W0, x.w.cell? ⟨w.heap.size, 4, none⟩ = some (.int .i64 0) := fun x => (hC x).cell 4 rfl
  have u5 : ∀ x : Later W0, x.w.cell? ⟨w.heap.size, 5, none⟩ = some (.int .i64 0) := fun x => (hC x).cell 5 rfl
  have u6 : ∀ x : Later W0, x.w.cell? ⟨w.heap.size, 6, none⟩ = some (.bool false) := fun x => (hC x).cell 6 rfl
  have u7 : ∀ x : Later W0, x.w.cell? ⟨w.heap.size, 7, none⟩ = some (.string ⟨#[]⟩) := fun x => (hC x).cell 7 rfl
  have u8 : ∀ x : Later W0, x.w.cell? ⟨w.heap.size, 8, none⟩ = some (.int .i64 0) := fun x => (hC x).cell 8 rfl
  have HW0 := hideP hW0
  have HC := hideP hC
  have HBl := hideP hBl
  have HX := hideP hx0
  have HE : Hid (whenS (glue xs xs.length) xs = if (readRoman (glue xs xs.length)).2 = true then ⟨1, 0, 0, (readRoman (glue xs xs.length)).1, ⟨#[]⟩, 0⟩ else if 0 ≤ (readFeast (glue xs xs.length)).1 then ⟨2, 0, 0, rom0, (feaAt (readFeast (glue xs xs.length)).1.toNat).name, (readFeast (glue xs xs.length)).2⟩ else if xs.length ≠ 2 then ⟨-1, 0, 0, rom0, ⟨#[]⟩, 0⟩ else ⟨0, monOf (xs.getD 1 ⟨#[]⟩), readDec (xs.getD 0 ⟨#[]⟩), rom0, ⟨#[]⟩, 0⟩) := rfl
  generalize whenS (glue xs xs.length) xs = ans at *
  generalize readRoman (glue xs xs.length) = q at *
  obtain ⟨⟨a, b, c, t⟩, ok⟩ := q
  generalize readFeast (glue xs xs.length) = r at *
  obtain ⟨at0, pl⟩ := r
  have KR' : ∀ x : Later W0, Calls Tryz.prog 53 #[.string (glue xs xs.length)] x.w fun e w' => e = .returned (.tuple #[.agg #[.int .i64 a, .int .i64 b, .int .i64 c, .bool t], .bool ok]) ∧ Below x.w.heap.size x.w w' := KR
  simp only at KF hfb HE
  clear hW0 hC hBl hx hx0 KR hzz hz
  go_enter Tryz.func34, Tryz.ntmps34
  go_wp2_with fail
  rw [← HW0.out]
  go_loopw [3, 4] (fun tx i wr => ∃ k : Nat, k ≤ xs.length ∧ i = .int .i64 k ∧ tx = .string (glue xs k) ∧ wr = W0) (fun _ i _ => xs.length - (intOf i).toNat)
  case atStart => exact ⟨0, Nat.zero_le _, rfl, rfl, rfl⟩
  case round =>
    obtain ⟨k, hk, rfl, rfl, rfl⟩ := hrel
    by_cases hlt : k < xs.length
    · obtain ⟨xk, hxk⟩ : ∃ xk, xk = xs.getD k ⟨#[]⟩ := ⟨_, rfl⟩
      have ck : wr.cell? ⟨g, k, none⟩ = some (.string xk) := by rw [hxk]; exact HX.out ⟨wr, Below.refl _ _⟩ k hlt
      have s3 : (glue xs (k + 1)).size ≤ 1048576 := HGS.out (k + 1) hlt
      have s0 : (glue xs k).size ≤ 1048576 := HGS.out k hk
      have hi : ((k : Nat) : Int) < (xs.length : Int) := by omega
      by_cases h0 : k = 0
      · subst h0
        have HR : Hid (glue xs 1 = (⟨#[]⟩ : ByteArray) ++ xk) := by unfold Hid; rw [hxk]; exact HG0.out
        have s4 : ((⟨#[]⟩ : ByteArray) ++ xk).size ≤ 1048576 := by rw [← HR.out]; exact s3
        have s5 : xk.size ≤ 1048576 := by rw [ByteArray.size_append] at s4; omega
        have HN := hideP hxk
        clear hxk
        have eg : glue xs 0 = ⟨#[]⟩ := rfl
        rw [eg]
        clear eg s0 s3
        go_wp2_with fail
        exact ⟨⟨1, by omega, by go_num, by rw [HR.out], by first | trivial | rfl⟩, by simp [intOf]; omega⟩
      · have HR : Hid (glue xs (k + 1) = glue xs k ++ ⟨#[32]⟩ ++ xk) := by unfold Hid; rw [hxk]; exact HG1.out k (by omega)
        have s4 : (glue xs k ++ (⟨#[32]⟩ : ByteArray) ++ xk).size ≤ 1048576 := by rw [← HR.out]; exact s3
        have s5 : (glue xs k ++ (⟨#[32]⟩ : ByteArray)).size ≤ 1048576 := by rw [ByteArray.size_append] at s4; omega
        have s6 : xk.size ≤ 1048576 := by rw [ByteArray.size_append] at s4; omega
        have h0' : (0 : Int) < (k : Int) := by omega
        have HN := hideP hxk
        clear hxk s3
        go_wp2_with fail
        exact ⟨⟨k + 1, by omega, by go_num, by rw [HR.out], by first | trivial | rfl⟩, by simp [intOf]; omega⟩
    obtain rfl : k = xs.length := by omega
    obtain ⟨n0, hn0⟩ : ∃ n0, n0 = xs.getD 0 ⟨#[]⟩ := ⟨_, rfl⟩
    obtain ⟨n1, hn1⟩ : ∃ n1, n1 = xs.getD 1 ⟨#[]⟩ := ⟨_, rfl⟩
    rw [← hn0] at KD HE
    rw [← hn1] at KM HE
    have HN0 := hideP hn0
    have HN1 := hideP hn1
    generalize glue xs xs.length = tx at *
    generalize monOf n1 = mo at *
    generalize readDec n0 = dy at *
    clear HG1 HG0 HGS hn0 hn1 hlt hk
    cases ok
    · by_cases hat : 0 ≤ at0
      · obtain rfl : ans = ⟨2, 0, 0, rom0, (feaAt at0.toNat).name, pl⟩ := HE.out.trans (by rw [if_neg (by decide), if_pos hat])
        obtain ⟨k, rfl⟩ := Int.eq_ofNat_of_zero_le hat
        have hk20 : k < 20 := by omega
        clear HE hfb hat KD KM
        go_wp2_with fail
        refine (KR' ⟨wr, Below.refl _ _⟩).mono ?_
        rintro e w1 ⟨rfl, hb⟩
        obtain ⟨x1, rfl⟩ := Later.of hb
        obtain ⟨x2, hx2⟩ : ∃ x2 : Later wr, x1.w.alloc (.cells #[.int .i64 a, .int .i64 b, .int .i64 c, .bool t] 28) = x2.w := ⟨⟨_, x1.below.alloc x1.below.size _⟩, rfl⟩
        have HX2 := hideP hx2
        clear hb
        clear hx2
        go_wp2_with fail
        rw [HX2.out]
        refine (KF x2).mono ?_
        rintro e w3 ⟨rfl, hb⟩
        obtain ⟨x3, rfl⟩ := x2.next hb
        clear hb
        go_wp2_with fail
        refine (specFeasts _).mono ?_
        rintro e w4 ⟨v, rfl, ho, hb⟩
        obtain ⟨x4, rfl⟩ := x3.next hb
        obtain ⟨g2, cap2, rfl, hg2, hcell⟩ := ho.row
        have e0 : x4.w.cell? ⟨g2, k * 5, none⟩ = some (.string (feaAt k).name) := by rw [show k * 5 = k * 5 + 0 from rfl, hcell k hk20 0 (by omega)]; rfl
        clear hb ho hcell
        go_wp2
        obtain ⟨W9, e9⟩ : ∃ W9, W9 = (((((((((x4.w.setCell ⟨w.heap.size, 0, none⟩ (.int .i64 2)).setCell ⟨w.heap.size, 1, none⟩ (.int .i64 0)).setCell ⟨w.heap.size, 2, none⟩ (.int .i64 0)).setCell ⟨w.heap.size, 3, none⟩ (.int .i64 0)).setCell ⟨w.heap.size, 4, none⟩ (.int .i64 0)).setCell ⟨w.heap.size, 5, none⟩ (.int .i64 0)).setCell ⟨w.heap.size, 6, none⟩ (.bool false)).setCell ⟨w.heap.size, 7, none⟩ (.string (feaAt k).name)).setCell ⟨w.heap.size, 8, none⟩ (.int .i64 pl)) := ⟨_, rfl⟩
        have Z9 : Blk W9 (w.heap.size) #[.int .i64 2, .int .i64 0, .int .i64 0, .int .i64 0, .int .i64 0, .int .i64 0, .bool false, .string (feaAt k).name, .int .i64 pl] 30 := by rw [e9]; exact ((((((((((HC.out x4).set 0 _).set 1 _).set 2 _).set 3 _).set 4 _).set 5 _).set 6 _).set 7 _).set 8 _)
        have B9 : Below w.heap.size w W9 := by rw [e9]; exact (below_store (below_store (below_store (below_store (below_store (below_store (below_store (below_store (below_store (HBl.out x4) (b := w.heap.size) (i := 0) _ (by omega)) (b := w.heap.size) (i := 1) _ (by omega)) (b := w.heap.size) (i := 2) _ (by omega)) (b := w.heap.size) (i := 3) _ (by omega)) (b := w.heap.size) (i := 4) _ (by omega)) (b := w.heap.size) (i := 5) _ (by omega)) (b := w.heap.size) (i := 6) _ (by omega)) (b := w.heap.size) (i := 7) _ (by omega)) (b := w.heap.size) (i := 8) _ (by omega))
        rw [← e9]
        clear e9
        have q0 : W9.cell? ⟨w.heap.size, 0, none⟩ = some (.int .i64 2) := Z9.cell 0 rfl
        have q1 : W9.cell? ⟨w.heap.size, 1, none⟩ = some (.int .i64 0) := Z9.cell 1 rfl
        have q2 : W9.cell? ⟨w.heap.size, 2, none⟩ = some (.int .i64 0) := Z9.cell 2 rfl
        have q3 : W9.cell? ⟨w.heap.size, 3, none⟩ = some (.int .i64 0) := Z9.cell 3 rfl
        have q4 : W9.cell? ⟨w.heap.size, 4, none⟩ = some (.int .i64 0) := Z9.cell 4 rfl
        have q5 : W9.cell? ⟨w.heap.size, 5, none⟩ = some (.int .i64 0) := Z9.cell 5 rfl
        have q6 : W9.cell? ⟨w.heap.size, 6, none⟩ = some (.bool false) := Z9.cell 6 rfl
        have q7 : W9.cell? ⟨w.heap.size, 7, none⟩ = some (.string (feaAt k).name) := Z9.cell 7 rfl
        have q8 : W9.cell? ⟨w.heap.size, 8, none⟩ = some (.int .i64 pl) := Z9.cell 8 rfl
        exact bodyPost_ret (by simp [results, Tryz.results34, go_sem, q0, q1, q2, q3, q4, q5, q6, q7, q8]; first | done | rfl | exact ⟨rfl, rfl⟩) rfl ⟨rfl, B9⟩
      obtain rfl : at0 = -1 := by omega
      by_cases h2 : xs.length = 2
      · obtain rfl : ans = ⟨0, mo, dy, rom0, ⟨#[]⟩, 0⟩ := HE.out.trans (by rw [if_neg (by decide), if_neg (by decide), if_neg (by omega)])
        have h2' : ((xs.length : Int) == 2) = true := by rw [h2]; rfl
        have hi0 : (0 : Int) < (xs.length : Int) := by omega
        have hi1 : (1 : Int) < (xs.length : Int) := by omega
        have y0 : ∀ x : Later wr, x.w.cell? ⟨g, 0, none⟩ = some (.string n0) := fun x => by rw [HN0.out]; exact HX.out x 0 (by omega)
        have y1 : ∀ x : Later wr, x.w.cell? ⟨g, 1, none⟩ = some (.string n1) := fun x => by rw [HN1.out]; exact HX.out x 1 (by omega)
        clear HE hfb hat
        go_wp2_with fail
        refine (KR' ⟨wr, Below.refl _ _⟩).mono ?_
        rintro e w1 ⟨rfl, hb⟩
        obtain ⟨x1, rfl⟩ := Later.of hb
        obtain ⟨x2, hx2⟩ : ∃ x2 : Later wr, x1.w.alloc (.cells #[.int .i64 a, .int .i64 b, .int .i64 c, .bool t] 28) = x2.w := ⟨⟨_, x1.below.alloc x1.below.size _⟩, rfl⟩
        have HX2 := hideP hx2
        clear hb
        clear hx2
        go_wp2_with fail
        rw [HX2.out]
        refine (KF x2).mono ?_
        rintro e w3 ⟨rfl, hb⟩
        obtain ⟨x3, rfl⟩ := x2.next hb
        clear hb
        go_upto_region 16 with fail
        obtain ⟨xd, hxd⟩ : ∃ xd : Later wr, x3.w.drew = xd.w := ⟨⟨x3.w.drew, (x3.below).drew⟩, rfl⟩
        refine wp_region_any (by kernel_rfl) ?_
        change wpAny _ _ _ _ (1 + 9) _ _ _
        refine any_prefix (C := fun w' => ∃ x : Later wr, w' = x.w) 9 1 (by decide) (by kernel_rfl) (by kernel_rfl) (by kernel_rfl) (by kernel_rfl) (by kernel_rfl) ⟨xd, hxd⟩ ?_
        simp only [List.take_succ_cons, List.take_zero]
        clear hxd xd
        repeat (go_big_quiet_step (first | (go_at_call 56; exact calls_later (KM _)) | (go_at_call 33; exact calls_later (KD _)) | fail))
        refine wpQuiet_nil ?_
        intro _ hw'
        obtain ⟨x5, rfl⟩ := hw'
        refine wpAny_ready (rs := [9]) (by kernel_rfl) (by simp) ?_
        refine AllReady.cons rfl (fun K hK => ?_) AllReady.nil
        go_simp
        refine hK _ _ ?_
        clear hK K
        refine wpAny_done (by kernel_rfl) ?_ _
        go_wp2
        obtain ⟨W9, e9⟩ : ∃ W9, W9 = (((((((((x5.w.setCell ⟨w.heap.size, 0, none⟩ (.int .i64 0)).setCell ⟨w.heap.size, 1, none⟩ (.int .i64 mo)).setCell ⟨w.heap.size, 2, none⟩ (.int .i64 dy)).setCell ⟨w.heap.size, 3, none⟩ (.int .i64 0)).setCell ⟨w.heap.size, 4, none⟩ (.int .i64 0)).setCell ⟨w.heap.size, 5, none⟩ (.int .i64 0)).setCell ⟨w.heap.size, 6, none⟩ (.bool false)).setCell ⟨w.heap.size, 7, none⟩ (.string ⟨#[]⟩)).setCell ⟨w.heap.size, 8, none⟩ (.int .i64 0)) := ⟨_, rfl⟩
        have Z9 : Blk W9 (w.heap.size) #[.int .i64 0, .int .i64 mo, .int .i64 dy, .int .i64 0, .int .i64 0, .int .i64 0, .bool false, .string ⟨#[]⟩, .int .i64 0] 30 := by rw [e9]; exact ((((((((((HC.out x5).set 0 _).set 1 _).set 2 _).set 3 _).set 4 _).set 5 _).set 6 _).set 7 _).set 8 _)
        have B9 : Below w.heap.size w W9 := by rw [e9]; exact (below_store (below_store (below_store (below_store (below_store (below_store (below_store (below_store (below_store (HBl.out x5) (b := w.heap.size) (i := 0) _ (by omega)) (b := w.heap.size) (i := 1) _ (by omega)) (b := w.heap.size) (i := 2) _ (by omega)) (b := w.heap.size) (i := 3) _ (by omega)) (b := w.heap.size) (i := 4) _ (by omega)) (b := w.heap.size) (i := 5) _ (by omega)) (b := w.heap.size) (i := 6) _ (by omega)) (b := w.heap.size) (i := 7) _ (by omega)) (b := w.heap.size) (i := 8) _ (by omega))
        rw [← e9]
        clear e9
        have q0 : W9.cell? ⟨w.heap.size, 0, none⟩ = some (.int .i64 0) := Z9.cell 0 rfl
        have q1 : W9.cell? ⟨w.heap.size, 1, none⟩ = some (.int .i64 mo) := Z9.cell 1 rfl
        have q2 : W9.cell? ⟨w.heap.size, 2, none⟩ = some (.int .i64 dy) := Z9.cell 2 rfl
        have q3 : W9.cell? ⟨w.heap.size, 3, none⟩ = some (.int .i64 0) := Z9.cell 3 rfl
        have q4 : W9.cell? ⟨w.heap.size, 4, none⟩ = some (.int .i64 0) := Z9.cell 4 rfl
        have q5 : W9.cell? ⟨w.heap.size, 5, none⟩ = some (.int .i64 0) := Z9.cell 5 rfl
        have q6 : W9.cell? ⟨w.heap.size, 6, none⟩ = some (.bool false) := Z9.cell 6 rfl
        have q7 : W9.cell? ⟨w.heap.size, 7, none⟩ = some (.string ⟨#[]⟩) := Z9.cell 7 rfl
        have q8 : W9.cell? ⟨w.heap.size, 8, none⟩ = some (.int .i64 0) := Z9.cell 8 rfl
        exact bodyPost_ret (by simp [results, Tryz.results34, go_sem, q0, q1, q2, q3, q4, q5, q6, q7, q8]; first | done | rfl | exact ⟨rfl, rfl⟩) rfl ⟨rfl, B9⟩
      · obtain rfl : ans = ⟨-1, 0, 0, rom0, ⟨#[]⟩, 0⟩ := HE.out.trans (by rw [if_neg (by decide), if_neg (by decide), if_pos h2])
        have h2' : ((xs.length : Int) == 2) = false := by simp; omega
        clear HE hfb hat KD KM
        go_wp2_with fail
        refine (KR' ⟨wr, Below.refl _ _⟩).mono ?_
        rintro e w1 ⟨rfl, hb⟩
        obtain ⟨x1, rfl⟩ := Later.of hb
        obtain ⟨x2, hx2⟩ : ∃ x2 : Later wr, x1.w.alloc (.cells #[.int .i64 a, .int .i64 b, .int .i64 c, .bool t] 28) = x2.w := ⟨⟨_, x1.below.alloc x1.below.size _⟩, rfl⟩
        have HX2 := hideP hx2
        clear hb
        clear hx2
        go_wp2_with fail
        rw [HX2.out]
        refine (KF x2).mono ?_
        rintro e w3 ⟨rfl, hb⟩
        obtain ⟨x3, rfl⟩ := x2.next hb
        clear hb
        go_wp2
        obtain ⟨W9, e9⟩ : ∃ W9, W9 = (((((((((x3.w.setCell ⟨w.heap.size, 0, none⟩ (.int .i64 (-1))).setCell ⟨w.heap.size, 1, none⟩ (.int .i64 0)).setCell ⟨w.heap.size, 2, none⟩ (.int .i64 0)).setCell ⟨w.heap.size, 3, none⟩ (.int .i64 0)).setCell ⟨w.heap.size, 4, none⟩ (.int .i64 0)).setCell ⟨w.heap.size, 5, none⟩ (.int .i64 0)).setCell ⟨w.heap.size, 6, none⟩ (.bool false)).setCell ⟨w.heap.size, 7, none⟩ (.string ⟨#[]⟩)).setCell ⟨w.heap.size, 8, none⟩ (.int .i64 0)) := ⟨_, rfl⟩
        have Z9 : Blk W9 (w.heap.size) #[.int .i64 (-1), .int .i64 0, .int .i64 0, .int .i64 0, .int .i64 0, .int .i64 0, .bool false, .string ⟨#[]⟩, .int .i64 0] 30 := by rw [e9]; exact ((((((((((HC.out x3).set 0 _).set 1 _).set 2 _).set 3 _).set 4 _).set 5 _).set 6 _).set 7 _).set 8 _)
        have B9 : Below w.heap.size w W9 := by rw [e9]; exact (below_store (below_store (below_store (below_store (below_store (below_store (below_store (below_store (below_store (HBl.out x3) (b := w.heap.size) (i := 0) _ (by omega)) (b := w.heap.size) (i := 1) _ (by omega)) (b := w.heap.size) (i := 2) _ (by omega)) (b := w.heap.size) (i := 3) _ (by omega)) (b := w.heap.size) (i := 4) _ (by omega)) (b := w.heap.size) (i := 5) _ (by omega)) (b := w.heap.size) (i := 6) _ (by omega)) (b := w.heap.size) (i := 7) _ (by omega)) (b := w.heap.size) (i := 8) _ (by omega))
        rw [← e9]
        clear e9
        have q0 : W9.cell? ⟨w.heap.size, 0, none⟩ = some (.int .i64 (-1)) := Z9.cell 0 rfl
        have q1 : W9.cell? ⟨w.heap.size, 1, none⟩ = some (.int .i64 0) := Z9.cell 1 rfl
        have q2 : W9.cell? ⟨w.heap.size, 2, none⟩ = some (.int .i64 0) := Z9.cell 2 rfl
        have q3 : W9.cell? ⟨w.heap.size, 3, none⟩ = some (.int .i64 0) := Z9.cell 3 rfl
        have q4 : W9.cell? ⟨w.heap.size, 4, none⟩ = some (.int .i64 0) := Z9.cell 4 rfl
        have q5 : W9.cell? ⟨w.heap.size, 5, none⟩ = some (.int .i64 0) := Z9.cell 5 rfl
        have q6 : W9.cell? ⟨w.heap.size, 6, none⟩ = some (.bool false) := Z9.cell 6 rfl
        have q7 : W9.cell? ⟨w.heap.size, 7, none⟩ = some (.string ⟨#[]⟩) := Z9.cell 7 rfl
        have q8 : W9.cell? ⟨w.heap.size, 8, none⟩ = some (.int .i64 0) := Z9.cell 8 rfl
        exact bodyPost_ret (by simp [results, Tryz.results34, go_sem, q0, q1, q2, q3, q4, q5, q6, q7, q8]; first | done | rfl | exact ⟨rfl, rfl⟩) rfl ⟨rfl, B9⟩
    · obtain rfl : ans = ⟨1, 0, 0, ⟨a, b, c, t⟩, ⟨#[]⟩, 0⟩ := HE.out.trans (by rw [if_pos rfl])
      clear HE hfb KF KD KM
      go_wp2_with fail
      refine (KR' ⟨wr, Below.refl _ _⟩).mono ?_
      rintro e w1 ⟨rfl, hb⟩
      obtain ⟨x1, rfl⟩ := Later.of hb
      obtain ⟨x2, hx2⟩ : ∃ x2 : Later wr, x1.w.alloc (.cells #[.int .i64 a, .int .i64 b, .int .i64 c, .bool t] 28) = x2.w := ⟨⟨_, x1.below.alloc x1.below.size _⟩, rfl⟩
      have HX2 := hideP hx2
      clear hb
      have r0 : x2.w.cell? ⟨x1.w.heap.size, 0, none⟩ = some (.int .i64 a) := by rw [← hx2]; exact (Blk.new _ _ _).cell 0 rfl
      have r1 : x2.w.cell? ⟨x1.w.heap.size, 1, none⟩ = some (.int .i64 b) := by rw [← hx2]; exact (Blk.new _ _ _).cell 1 rfl
      have r2 : x2.w.cell? ⟨x1.w.heap.size, 2, none⟩ = some (.int .i64 c) := by rw [← hx2]; exact (Blk.new _ _ _).cell 2 rfl
      have r3 : x2.w.cell? ⟨x1.w.heap.size, 3, none⟩ = some (.bool t) := by rw [← hx2]; exact (Blk.new _ _ _).cell 3 rfl
      clear hx2
      go_upto_region 10 with fail
      rw [HX2.out]
      go_wp2
      obtain ⟨W9, e9⟩ : ∃ W9, W9 = (((((((((x2.w.setCell ⟨w.heap.size, 0, none⟩ (.int .i64 1)).setCell ⟨w.heap.size, 1, none⟩ (.int .i64 0)).setCell ⟨w.heap.size, 2, none⟩ (.int .i64 0)).setCell ⟨w.heap.size, 3, none⟩ (.int .i64 a)).setCell ⟨w.heap.size, 4, none⟩ (.int .i64 b)).setCell ⟨w.heap.size, 5, none⟩ (.int .i64 c)).setCell ⟨w.heap.size, 6, none⟩ (.bool t)).setCell ⟨w.heap.size, 7, none⟩ (.string ⟨#[]⟩)).setCell ⟨w.heap.size, 8, none⟩ (.int .i64 0)) := ⟨_, rfl⟩
      have Z9 : Blk W9 (w.heap.size) #[.int .i64 1, .int .i64 0, .int .i64 0, .int .i64 a, .int .i64 b, .int .i64 c, .bool t, .string ⟨#[]⟩, .int .i64 0] 30 := by rw [e9]; exact ((((((((((HC.out x2).set 0 _).set 1 _).set 2 _).set 3 _).set 4 _).set 5 _).set 6 _).set 7 _).set 8 _)
      have B9 : Below w.heap.size w W9 := by rw [e9]; exact (below_store (below_store (below_store (below_store (below_store (below_store (below_store (below_store (below_store (HBl.out x2) (b := w.heap.size) (i := 0) _ (by omega)) (b := w.heap.size) (i := 1) _ (by omega)) (b := w.heap.size) (i := 2) _ (by omega)) (b := w.heap.size) (i := 3) _ (by omega)) (b := w.heap.size) (i := 4) _ (by omega)) (b := w.heap.size) (i := 5) _ (by omega)) (b := w.heap.size) (i := 6) _ (by omega)) (b := w.heap.size) (i := 7) _ (by omega)) (b := w.heap.size) (i := 8) _ (by omega))
      rw [← e9]
      clear e9
      have q0 : W9.cell? ⟨w.heap.size, 0, none⟩ = some (.int .i64 1) := Z9.cell 0 rfl
      have q1 : W9.cell? ⟨w.heap.size, 1, none⟩ = some (.int .i64 0) := Z9.cell 1 rfl
      have q2 : W9.cell? ⟨w.heap.size, 2, none⟩ = some (.int .i64 0) := Z9.cell 2 rfl
      have q3 : W9.cell? ⟨w.heap.size, 3, none⟩ = some (.int .i64 a) := Z9.cell 3 rfl
      have q4 : W9.cell? ⟨w.heap.size, 4, none⟩ = some (.int .i64 b) := Z9.cell 4 rfl
      have q5 : W9.cell? ⟨w.heap.size, 5, none⟩ = some (.int .i64 c) := Z9.cell 5 rfl
      have q6 : W9.cell? ⟨w.heap.size, 6, none⟩ = some (.bool t) := Z9.cell 6 rfl
      have q7 : W9.cell? ⟨w.heap.size, 7, none⟩ = some (.string ⟨#[]⟩) := Z9.cell 7 rfl
      have q8 : W9.cell? ⟨w.heap.size, 8, none⟩ = some (.int .i64 0) := Z9.cell 8 rfl
      exact bodyPost_ret (by simp [results, Tryz.results34, go_sem, q0, q1, q2, q3, q4, q5, q6, q7, q8]; first | done | rfl | exact ⟨rfl, rfl⟩) rfl ⟨rfl, B9⟩
end Go.Proofs.YtoofnjccpoeomaaGreatDoor.ctr

namespace Go.Proofs.YtoofnjccpoeomaaGreatDoor.ctr
open Go.RowKit

theorem start_none {s : ByteArray} (h : ∀ j, j < s.size → bAt s j ≠ 32) : startAt s 32 s.size = 0 := (parts_none s 32 s.size h).2
theorem start_last {s : ByteArray} {p : Nat} (hp : p < s.size) (hb : bAt s p = 32) (hn : ∀ j, p < j → j < s.size → bAt s j ≠ 32) : startAt s 32 s.size = p + 1 := by
  have hrun := parts_run s 32 (p + 1) (s.size - (p + 1)) (fun j h3 h4 => hn j (by omega) (by omega))
  rw [show p + 1 + (s.size - (p + 1)) = s.size from by omega] at hrun
  rw [hrun.2, (parts_hit s 32 p hb).2]
/-- The place of the last blank, or -1. -/
def lastAt (s : ByteArray) : Int := (startAt s 32 s.size : Int) - 1

set_option maxHeartbeats 1000000 in
theorem lastByte (s : ByteArray) (w : World) (hs : s.size ≤ 1048576) : Calls Tryz.prog 77 #[.string s, .int .u8 32] w fun e w' => e = .returned (.int .i64 (lastAt s)) ∧ w' = w := by
  obtain ⟨R, hR⟩ : ∃ R, R = lastAt s := ⟨_, rfl⟩
  rw [← hR]
  have HR := hideP hR
  clear hR
  go_enter Tryz.func77, Tryz.ntmps77
  go_wp2
  go_loop [5] (fun i => (i = .int .i64 (-1) ∧ Hid (∀ j, j < s.size → bAt s j ≠ 32)) ∨ (∃ k : Nat, k < s.size ∧ i = .int .i64 k ∧ Hid (∀ j, k < j → j < s.size → bAt s j ≠ 32))) (fun i => (intOf i + 1).toNat)
  case atStart =>
    by_cases h0 : s.size = 0
    · exact .inl ⟨by first | (rw [h0]; done) | (rw [h0]; rfl), fun j hj => absurd hj (by omega)⟩
    · exact .inr ⟨s.size - 1, by omega, by rw [show ((s.size - 1 : Nat) : Int) = (s.size : Int) - 1 by omega], fun j h1 h2 => absurd h1 (by omega)⟩
  case round =>
    rcases hrel with ⟨rfl, hn⟩ | ⟨k, hk, rfl, hn⟩
    · obtain rfl : R = -1 := by rw [HR.out]; unfold lastAt; rw [start_none hn.out]; rfl
      go_wp2
      go_ret
      exact ⟨rfl, rfl⟩
    · have e1 := bAt_eq s k hk
      by_cases hb : bAt s k = 32
      · obtain rfl : R = (k : Int) := by rw [HR.out]; unfold lastAt; rw [start_last hk hb hn.out]; omega
        have e2 : ((s[k].toNat : Int) == 32) = true := by rw [e1, hb]; rfl
        clear HR hn e1 hb
        go_wp2
        go_ret
        exact ⟨rfl, rfl⟩
      · have e2 : ((s[k].toNat : Int) == 32) = false := by rw [e1]; simpa using hb
        have hn2 : Hid (∀ j, k ≤ j → j < s.size → bAt s j ≠ 32) := fun j h1 h2 => by
          by_cases hj : j = k
          · rw [hj]; exact hb
          · exact hn.out j (by omega) h2
        clear hn e1 hb
        go_wp2
        refine ⟨?_, by first | (simp [intOf]; done) | (simp [intOf]; omega)⟩
        by_cases h0 : k = 0
        · exact .inl ⟨by subst h0; rfl, fun j hj => hn2.out j (by omega) hj⟩
        · exact .inr ⟨k - 1, by omega, by rw [show ((k - 1 : Nat) : Int) = (k : Int) - 1 by omega], fun j h1 h2 => hn2.out j (by omega) h2⟩

theorem lastFace (s : ByteArray) (w : World) (hs : s.size ≤ 1048576) : Calls Tryz.prog 58 #[.string s, .int .u8 32] w fun e w' => e = .returned (.int .i64 (lastAt s)) ∧ w' = w := by
  have K := fun W => lastByte s W hs
  generalize lastAt s = R at *
  go_enter Tryz.func58, Tryz.ntmps58
  go_wp2_with fail
  refine (K _).mono ?_
  rintro e w1 ⟨rfl, rfl⟩
  go_wp2
  go_ret
  exact ⟨rfl, rfl⟩

set_option maxHeartbeats 1000000 in
theorem implCutLast (s : ByteArray) (w : World) (hs : s.size ≤ 1048576) : Calls Tryz.prog 36 #[.string s] w fun e w' => e = .returned (.tuple #[.string (aheadW s), .string (lastW s)]) ∧ Below w.heap.size w w' := by
  have K := fun W => lastFace s W hs
  have hle := start_le s 32 s.size
  have hA : aheadW s = s.extract 0 (startAt s 32 s.size - 1) := rfl
  have hL : lastW s = s.extract (startAt s 32 s.size) s.size := rfl
  unfold lastAt at K
  rw [hA, hL]
  clear hA hL
  generalize startAt s 32 s.size = st at *
  have h1 : ∀ W, (Instr.slice 9 (.string s) none (some (.int .i64 (max ((st : Int) - 1) 0))) none).run Tryz.prog W = .ok (.string (s.extract 0 (st - 1))) W := fun W =>
    (run_slice_string_h (P := Tryz.prog) (w := W) (t := 9) (s := s) (ht := Tryz.underlying9) .i64 (max ((st : Int) - 1) 0) (by omega) (by omega)).trans (by rw [show (max ((st : Int) - 1) 0).toNat = st - 1 from by omega])
  have h2 : ∀ W, (Instr.slice 9 (.string s) (some (.int .i64 (st : Int))) none none).run Tryz.prog W = .ok (.string (s.extract st s.size)) W := fun W =>
    (run_slice_string_l (P := Tryz.prog) (w := W) (t := 9) (s := s) (ht := Tryz.underlying9) .i64 (st : Int) (by omega) (by omega)).trans (by rw [show ((st : Int)).toNat = st from by omega])
  have hwr : IntKind.i64.wrap ((st : Int) - 1 + 1) = (st : Int) := by rw [PlainAid.i64_is]; unfold wrap64; omega
  go_enter Tryz.func36, Tryz.ntmps36
  go_wp2_with fail
  refine (K _).mono ?_
  rintro e w1 ⟨rfl, rfl⟩
  go_wp2
  go_region
  all_goals go_wp2
  all_goals go_ret2
  all_goals exact ⟨rfl, (Below.refl _ _).drew⟩

theorem implCutCal (s : ByteArray) (w : World) (hs : s.size ≤ 1048576) : Calls Tryz.prog 35 #[.string s] w fun e w' => e = .returned (.tuple #[.string (sayRest s), .int .i64 (calNo (lastW s))]) ∧ Below w.heap.size w w' := by
  have K1 := fun W => implCutLast s W hs
  have K2 := fun W => implCalOf (lastW s) W
  have hb : -1 ≤ calNo (lastW s) := by unfold calNo; split; omega; split <;> omega
  have hR : sayRest s = if calNo (lastW s) < 0 then s else aheadW s := rfl
  rw [hR]
  clear hR
  generalize calNo (lastW s) = z at *
  generalize lastW s = l at *
  generalize aheadW s = a at *
  by_cases hz : z < 0
  · obtain rfl : z = -1 := by omega
    rw [if_pos hz]
    go_enter Tryz.func35, Tryz.ntmps35
    go_wp2_with fail
    refine (K1 _).mono ?_
    rintro e w1 ⟨rfl, hb1⟩
    have B1 := hideP hb1
    clear hb1
    go_wp2_with fail
    refine (K2 _).mono ?_
    rintro e w2 ⟨rfl, rfl⟩
    go_wp2
    go_ret2
    exact ⟨rfl, B1.out⟩
  · rw [if_neg hz]
    go_enter Tryz.func35, Tryz.ntmps35
    go_wp2_with fail
    refine (K1 _).mono ?_
    rintro e w1 ⟨rfl, hb1⟩
    have B1 := hideP hb1
    clear hb1
    go_wp2_with fail
    refine (K2 _).mono ?_
    rintro e w2 ⟨rfl, rfl⟩
    go_wp2
    go_ret2
    exact ⟨rfl, B1.out⟩
/-- strings.Cut at one sign. -/
theorem implCut1 (s : ByteArray) (g : UInt8) (w : World) (hs : s.size ≤ 1048576) : Calls Tryz.prog 59 #[.string s, .string ⟨#[g]⟩] w fun e w' => e = .returned (.tuple #[.string (cut1 s g).1, .string (cut1 s g).2.1, .bool (cut1 s g).2.2]) ∧ Below w.heap.size w w' := by
  rcases cut_first s g with ⟨p, hp, hi, _, _⟩ | ⟨hi, _⟩
  · rw [cut1_hit hi]
    exact cutFace s _ _ g _ w (cutHit s g p w hs hp hi)
  · rw [cut1_miss hi]
    exact cutFace s _ _ g _ w (cutMiss s g w hi)
theorem cut1_size (s : ByteArray) (g : UInt8) : (cut1 s g).1.size ≤ s.size ∧ (cut1 s g).2.1.size ≤ s.size := by
  rcases cut_first s g with ⟨p, hp, hi, _, _⟩ | ⟨hi, _⟩
  · rw [cut1_hit hi]
    exact ⟨by show (s.extract 0 p).size ≤ _; rw [ByteArray.size_extract]; omega, by show (s.extract (p + 1) s.size).size ≤ _; rw [ByteArray.size_extract]; omega⟩
  · rw [cut1_miss hi]
    exact ⟨Nat.le_refl _, Nat.zero_le _⟩

set_option maxHeartbeats 1000000 in
theorem implReadYears (s : ByteArray) (w : World) (hs : s.size ≤ 1048576) (hP : PowT w) : Calls Tryz.prog 37 #[.string s] w fun e w' => e = .returned (.tuple #[.int .i64 (yrI s).1, .int .i64 (yrI s).2]) ∧ Below w.heap.size w w' := by
  have K1 := implCut1 s 47 w hs
  have hz := cut1_size s 47
  unfold yrI
  generalize cut1 s 47 = c at *
  obtain ⟨a, b, f⟩ := c
  simp only at K1 hz ⊢
  have KA : ∀ W, Below w.heap.size w W → Calls Tryz.prog 60 #[.string a] W fun e w' => e = .returned (.int .i64 (readDec a)) ∧ Below W.heap.size W w' := fun W h => implReadDec a W (by unfold maxLen; omega) (hP.later h)
  have KB : ∀ W, Below w.heap.size w W → Calls Tryz.prog 60 #[.string b] W fun e w' => e = .returned (.int .i64 (readDec b)) ∧ Below W.heap.size W w' := fun W h => implReadDec b W (by unfold maxLen; omega) (hP.later h)
  generalize readDec a = na at *
  generalize readDec b = nb at *
  clear hP hz
  cases f
  · rw [if_neg (by decide)]
    go_enter Tryz.func37, Tryz.ntmps37
    go_wp2_with fail
    refine K1.mono ?_
    rintro e w1 ⟨rfl, B1⟩
    go_wp2_with fail
    refine (KA _ B1).mono ?_
    rintro e w2 ⟨rfl, hb⟩
    have B2 : Below w.heap.size w w2 := B1.trans (hb.mono B1.size)
    clear hb
    go_wp2
    go_ret2
    exact ⟨rfl, B2⟩
  · rw [if_pos rfl]
    go_enter Tryz.func37, Tryz.ntmps37
    go_wp2_with fail
    refine K1.mono ?_
    rintro e w1 ⟨rfl, B1⟩
    go_wp2_with fail
    refine (KA _ B1).mono ?_
    rintro e w2 ⟨rfl, hb⟩
    have B2 : Below w.heap.size w w2 := B1.trans (hb.mono B1.size)
    clear hb
    go_wp2_with fail
    refine (KB _ B2).mono ?_
    rintro e w3 ⟨rfl, hb⟩
    have B3 : Below w.heap.size w w3 := B2.trans (hb.mono B2.size)
    clear hb
    go_wp2
    go_ret2
    exact ⟨rfl, B3⟩

set_option maxRecDepth 100000 in
set_option maxHeartbeats 4000000 in
theorem implReadWhen (s : ByteArray) (w : World) (hs : s.size ≤ 1048576) (hT : Tab w) (hS : Shp w) (hM : Mrk w) (hN : Mon w) (hP : PowT w) : Calls Tryz.prog 38 #[.string s] w fun e w' => e = .returned (whnV (whenI s)) ∧ Below w.heap.size w w' := by
  obtain ⟨W0, hW0, hC, hBl⟩ := box_any w #[.int .i64 0, .int .i64 0, .int .i64 0, .int .i64 0, .int .i64 0, .int .i64 0, .bool false, .string ⟨#[]⟩, .int .i64 0] 30
  have KR : ∀ x : Later W0, Calls Tryz.prog 61 #[.string s] x.w fun e w' => e = .returned (readV (readRoman s)) ∧ Below x.w.heap.size x.w w' := fun x => implReadRoman s x.w hs (hT.later (hBl x)) (hS.later (hBl x)) (hM.later (hBl x)) (hN.later (hBl x))
  have KF : ∀ x : Later W0, Calls Tryz.prog 62 #[.string s] x.w fun e w' => e = .returned (.tuple #[.int .i64 (readFeast s).1, .int .i64 (readFeast s).2]) ∧ Below x.w.heap.size x.w w' := fun x => implRead s x.w hs (hP.later (hBl x))
  have KC : ∀ x : Later W0, Calls Tryz.prog 59 #[.string s, .string ⟨#[32]⟩] x.w fun e w' => e = .returned (.tuple #[.string (cut1 s 32).1, .string (cut1 s 32).2.1, .bool (cut1 s 32).2.2]) ∧ Below x.w.heap.size x.w w' := fun x => implCut1 s 32 x.w hs
  have hz := cut1_size s 32
  have KD : ∀ x : Later W0, Calls Tryz.prog 60 #[.string (cut1 s 32).1] x.w fun e w' => e = .returned (.int .i64 (readDec (cut1 s 32).1)) ∧ Below x.w.heap.size x.w w' := fun x => implReadDec _ x.w (by unfold maxLen; omega) (hP.later (hBl x))
  have KM : ∀ x : Later W0, Calls Tryz.prog 64 #[.string (cut1 s 32).2.1] x.w fun e w' => e = .returned (.int .i64 (monOf (cut1 s 32).2.1)) ∧ Below x.w.heap.size x.w w' := fun x => (implMonthOf _ x.w (hN.later (hBl x))).mono fun _ _ h => ⟨h.1, by first | exact h.2 | (rw [h.2]; exact Below.refl _ _)⟩
  have hfb : -1 ≤ (readFeast s).1 ∧ (readFeast s).1 < 20 := ⟨(readParts_b (cut s 43)).1, (readParts_b (cut s 43)).2.1⟩
  have u : ∀ x : Later W0, Blk x.w w.heap.size #[.int .i64 0, .int .i64 0, .int .i64 0, .int .i64 0, .int .i64 0, .int .i64 0, .bool false, .string ⟨#[]⟩, .int .i64 0] 30 := hC
  have f0 : ∀ x : Later W0, x.w.frozen? ⟨w.heap.size, 0, none⟩ = false := fun x => (hC x).thaw 0
  have f1 : ∀ x : Later W0, x.w.frozen? ⟨w.heap.size, 1, none⟩ = false := fun x => (hC x).thaw 1
  have f2 : ∀ x : Later W0, x.w.frozen? ⟨w.heap.size, 2, none⟩ = false := fun x => (hC x).thaw 2
  have f3 : ∀ x : Later W0, x.w.frozen? ⟨w.heap.size, 3, none⟩ = false := fun x => (hC x).thaw 3
  have f4 : ∀ x : Later W0, x.w.frozen? ⟨w.heap.size, 4, none⟩ = false := fun x => (hC x).thaw 4
  have f5 : ∀ x : Later W0, x.w.frozen? ⟨w.heap.size, 5, none⟩ = false := fun x => (hC x).thaw 5
  have f6 : ∀ x : Later W0, x.w.frozen? ⟨w.heap.size, 6, none⟩ = false := fun x => (hC x).thaw 6
  have f7 : ∀ x : Later W0, x.w.frozen? ⟨w.heap.size, 7, none⟩ = false := fun x => (hC x).thaw 7
  have f8 : ∀ x : Later W0, x.w.frozen? ⟨w.heap.size, 8, none⟩ = false := fun x => (hC x).thaw 8
  have u0 : ∀ x : Later W0, x.w.cell? ⟨w.heap.size, 0, none⟩ = some (.int .i64 0) := fun x => (hC x).cell 0 rfl
  have u1 : ∀ x : Later W0, x.w.cell? ⟨w.heap.size, 1, none⟩ = some (.int .i64 0) := fun x => (hC x).cell 1 rfl
  have u2 : ∀ x : Later W0, x.w.cell? ⟨w.heap.size, 2, none⟩ = some (.int .i64 0) := fun x => (hC x).cell 2 rfl
  have u3 : ∀ x : Later W0, x.w.cell? ⟨w.heap.size, 3, none⟩ = some (.int .i64 0) := fun x => (hC x).cell 3 rfl
  have u4 : ∀ x : Later W0, x.w.cell? ⟨w.heap.size, 4, none⟩ = some (.int .i64 0) := fun x => (hC x).cell 4 rfl
  have u5 : ∀ x : Later W0, x.w.cell? ⟨w.heap.size, 5, none⟩ = some (.int .i64 0) := fun x => (hC x).cell 5 rfl
  have u6 : ∀ x : Later W0, x.w.cell? ⟨w.heap.size, 6, none⟩ = some (.bool false) := fun x => (hC x).cell 6 rfl
  have u7 : ∀ x : Later W0, x.w.cell? ⟨w.heap.size, 7, none⟩ = some (.string ⟨#[]⟩) := fun x => (hC x).cell 7 rfl
  have u8 : ∀ x : Later W0, x.w.cell? ⟨w.heap.size, 8, none⟩ = some (.int .i64 0) := fun x => (hC x).cell 8 rfl
  have HW0 := hideP hW0
  have HC := hideP hC
  have HBl := hideP hBl
  have HE : Hid (whenI s = if (readRoman s).2 = true then ⟨1, 0, 0, (readRoman s).1, ⟨#[]⟩, 0⟩ else if 0 ≤ (readFeast s).1 then ⟨2, 0, 0, rom0, (feaAt (readFeast s).1.toNat).name, (readFeast s).2⟩ else ⟨0, monOf (cut1 s 32).2.1, readDec (cut1 s 32).1, rom0, ⟨#[]⟩, 0⟩) := rfl
  generalize whenI s = ans at *
  generalize readRoman s = q at *
  obtain ⟨⟨a, b, c, t⟩, ok⟩ := q
  generalize readFeast s = r at *
  obtain ⟨at0, pl⟩ := r
  generalize cut1 s 32 = c1 at *
  obtain ⟨n0, n1, nf⟩ := c1
  simp only at KF KC KD KM hz hfb HE
  generalize monOf n1 = mo at *
  generalize readDec n0 = dy at *
  clear hW0 hC hBl hT hS hM hN hP hz u
  have KR' : ∀ x : Later W0, Calls Tryz.prog 61 #[.string s] x.w fun e w' => e = .returned (.tuple #[.agg #[.int .i64 a, .int .i64 b, .int .i64 c, .bool t], .bool ok]) ∧ Below x.w.heap.size x.w w' := KR
  clear KR
  cases ok
  · by_cases hat : 0 ≤ at0
    · obtain rfl : ans = ⟨2, 0, 0, rom0, (feaAt at0.toNat).name, pl⟩ := HE.out.trans (by rw [if_neg (by decide), if_pos hat])
      obtain ⟨k, rfl⟩ := Int.eq_ofNat_of_zero_le hat
      rw [Int.toNat_natCast]
      have hk20 : k < 20 := by omega
      clear HE hfb hat KC KD KM
      go_enter Tryz.func38, Tryz.ntmps38
      go_wp2_with fail
      rw [← HW0.out]
      refine (KR' ⟨W0, Below.refl _ _⟩).mono ?_
      rintro e w1 ⟨rfl, hb⟩
      obtain ⟨x1, rfl⟩ := Later.of hb
      clear hb
      obtain ⟨x2, hx2⟩ : ∃ x2 : Later W0, x1.w.alloc (.cells #[.int .i64 a, .int .i64 b, .int .i64 c, .bool t] 28) = x2.w := ⟨⟨_, x1.below.alloc x1.below.size _⟩, rfl⟩
      have HX2 := hideP hx2
      clear hx2
      go_wp2_with fail
      rw [HX2.out]
      refine (KF x2).mono ?_
      rintro e w3 ⟨rfl, hb⟩
      obtain ⟨x3, rfl⟩ := x2.next hb
      clear hb
      go_wp2_with fail
      refine (implFeasts _).mono ?_
      rintro e w4 ⟨v, rfl, ho, hb⟩
      obtain ⟨x4, rfl⟩ := x3.next hb
      obtain ⟨g, cap, rfl, hg, hcell⟩ := ho.row
      have e0 : x4.w.cell? ⟨g, k * 5, none⟩ = some (.string (feaAt k).name) := by rw [show k * 5 = k * 5 + 0 from rfl, hcell k hk20 0 (by omega)]; rfl
      clear hb ho hcell
      go_wp2
      obtain ⟨W9, e9⟩ : ∃ W9, W9 = (((((((((x4.w.setCell ⟨w.heap.size, 0, none⟩ (.int .i64 2)).setCell ⟨w.heap.size, 1, none⟩ (.int .i64 0)).setCell ⟨w.heap.size, 2, none⟩ (.int .i64 0)).setCell ⟨w.heap.size, 3, none⟩ (.int .i64 0)).setCell ⟨w.heap.size, 4, none⟩ (.int .i64 0)).setCell ⟨w.heap.size, 5, none⟩ (.int .i64 0)).setCell ⟨w.heap.size, 6, none⟩ (.bool false)).setCell ⟨w.heap.size, 7, none⟩ (.string (feaAt k).name)).setCell ⟨w.heap.size, 8, none⟩ (.int .i64 pl)) := ⟨_, rfl⟩
      have Z9 : Blk W9 (w.heap.size) #[.int .i64 2, .int .i64 0, .int .i64 0, .int .i64 0, .int .i64 0, .int .i64 0, .bool false, .string (feaAt k).name, .int .i64 pl] 30 := by rw [e9]; exact ((((((((((HC.out x4).set 0 _).set 1 _).set 2 _).set 3 _).set 4 _).set 5 _).set 6 _).set 7 _).set 8 _)
      have B9 : Below w.heap.size w W9 := by rw [e9]; exact (below_store (below_store (below_store (below_store (below_store (below_store (below_store (below_store (below_store (HBl.out x4) (b := w.heap.size) (i := 0) _ (by omega)) (b := w.heap.size) (i := 1) _ (by omega)) (b := w.heap.size) (i := 2) _ (by omega)) (b := w.heap.size) (i := 3) _ (by omega)) (b := w.heap.size) (i := 4) _ (by omega)) (b := w.heap.size) (i := 5) _ (by omega)) (b := w.heap.size) (i := 6) _ (by omega)) (b := w.heap.size) (i := 7) _ (by omega)) (b := w.heap.size) (i := 8) _ (by omega))
      rw [← e9]
      clear e9
      have q0 : W9.cell? ⟨w.heap.size, 0, none⟩ = some (.int .i64 2) := Z9.cell 0 rfl
      have q1 : W9.cell? ⟨w.heap.size, 1, none⟩ = some (.int .i64 0) := Z9.cell 1 rfl
      have q2 : W9.cell? ⟨w.heap.size, 2, none⟩ = some (.int .i64 0) := Z9.cell 2 rfl
      have q3 : W9.cell? ⟨w.heap.size, 3, none⟩ = some (.int .i64 0) := Z9.cell 3 rfl
      have q4 : W9.cell? ⟨w.heap.size, 4, none⟩ = some (.int .i64 0) := Z9.cell 4 rfl
      have q5 : W9.cell? ⟨w.heap.size, 5, none⟩ = some (.int .i64 0) := Z9.cell 5 rfl
      have q6 : W9.cell? ⟨w.heap.size, 6, none⟩ = some (.bool false) := Z9.cell 6 rfl
      have q7 : W9.cell? ⟨w.heap.size, 7, none⟩ = some (.string (feaAt k).name) := Z9.cell 7 rfl
      have q8 : W9.cell? ⟨w.heap.size, 8, none⟩ = some (.int .i64 pl) := Z9.cell 8 rfl
      exact bodyPost_ret (by simp [results, Tryz.results38, go_sem, q0, q1, q2, q3, q4, q5, q6, q7, q8]; first | done | rfl | exact ⟨rfl, rfl⟩) rfl ⟨rfl, B9⟩
    · obtain rfl : at0 = -1 := by omega
      obtain rfl : ans = ⟨0, mo, dy, rom0, ⟨#[]⟩, 0⟩ := HE.out.trans (by rw [if_neg (by decide), if_neg (by decide)])
      clear HE hfb hat
      go_enter Tryz.func38, Tryz.ntmps38
      go_wp2_with fail
      rw [← HW0.out]
      refine (KR' ⟨W0, Below.refl _ _⟩).mono ?_
      rintro e w1 ⟨rfl, hb⟩
      obtain ⟨x1, rfl⟩ := Later.of hb
      clear hb
      obtain ⟨x2, hx2⟩ : ∃ x2 : Later W0, x1.w.alloc (.cells #[.int .i64 a, .int .i64 b, .int .i64 c, .bool t] 28) = x2.w := ⟨⟨_, x1.below.alloc x1.below.size _⟩, rfl⟩
      have HX2 := hideP hx2
      clear hx2
      go_wp2_with fail
      rw [HX2.out]
      refine (KF x2).mono ?_
      rintro e w3 ⟨rfl, hb⟩
      obtain ⟨x3, rfl⟩ := x2.next hb
      clear hb
      go_wp2_with fail
      refine (KC x3).mono ?_
      rintro e w4 ⟨rfl, hb⟩
      obtain ⟨x4, rfl⟩ := x3.next hb
      clear hb
      go_wp2_with fail
      refine (KM x4).mono ?_
      rintro e w5 ⟨rfl, hb⟩
      obtain ⟨x5, rfl⟩ := x4.next hb
      clear hb
      go_wp2_with fail
      refine (KD x5).mono ?_
      rintro e w6 ⟨rfl, hb⟩
      obtain ⟨x6, rfl⟩ := x5.next hb
      clear hb
      go_wp2
      obtain ⟨W9, e9⟩ : ∃ W9, W9 = (((((((((x6.w.setCell ⟨w.heap.size, 0, none⟩ (.int .i64 0)).setCell ⟨w.heap.size, 1, none⟩ (.int .i64 mo)).setCell ⟨w.heap.size, 2, none⟩ (.int .i64 dy)).setCell ⟨w.heap.size, 3, none⟩ (.int .i64 0)).setCell ⟨w.heap.size, 4, none⟩ (.int .i64 0)).setCell ⟨w.heap.size, 5, none⟩ (.int .i64 0)).setCell ⟨w.heap.size, 6, none⟩ (.bool false)).setCell ⟨w.heap.size, 7, none⟩ (.string ⟨#[]⟩)).setCell ⟨w.heap.size, 8, none⟩ (.int .i64 0)) := ⟨_, rfl⟩
      have Z9 : Blk W9 (w.heap.size) #[.int .i64 0, .int .i64 mo, .int .i64 dy, .int .i64 0, .int .i64 0, .int .i64 0, .bool false, .string ⟨#[]⟩, .int .i64 0] 30 := by rw [e9]; exact ((((((((((HC.out x6).set 0 _).set 1 _).set 2 _).set 3 _).set 4 _).set 5 _).set 6 _).set 7 _).set 8 _)
      have B9 : Below w.heap.size w W9 := by rw [e9]; exact (below_store (below_store (below_store (below_store (below_store (below_store (below_store (below_store (below_store (HBl.out x6) (b := w.heap.size) (i := 0) _ (by omega)) (b := w.heap.size) (i := 1) _ (by omega)) (b := w.heap.size) (i := 2) _ (by omega)) (b := w.heap.size) (i := 3) _ (by omega)) (b := w.heap.size) (i := 4) _ (by omega)) (b := w.heap.size) (i := 5) _ (by omega)) (b := w.heap.size) (i := 6) _ (by omega)) (b := w.heap.size) (i := 7) _ (by omega)) (b := w.heap.size) (i := 8) _ (by omega))
      rw [← e9]
      clear e9
      have q0 : W9.cell? ⟨w.heap.size, 0, none⟩ = some (.int .i64 0) := Z9.cell 0 rfl
      have q1 : W9.cell? ⟨w.heap.size, 1, none⟩ = some (.int .i64 mo) := Z9.cell 1 rfl
      have q2 : W9.cell? ⟨w.heap.size, 2, none⟩ = some (.int .i64 dy) := Z9.cell 2 rfl
      have q3 : W9.cell? ⟨w.heap.size, 3, none⟩ = some (.int .i64 0) := Z9.cell 3 rfl
      have q4 : W9.cell? ⟨w.heap.size, 4, none⟩ = some (.int .i64 0) := Z9.cell 4 rfl
      have q5 : W9.cell? ⟨w.heap.size, 5, none⟩ = some (.int .i64 0) := Z9.cell 5 rfl
      have q6 : W9.cell? ⟨w.heap.size, 6, none⟩ = some (.bool false) := Z9.cell 6 rfl
      have q7 : W9.cell? ⟨w.heap.size, 7, none⟩ = some (.string ⟨#[]⟩) := Z9.cell 7 rfl
      have q8 : W9.cell? ⟨w.heap.size, 8, none⟩ = some (.int .i64 0) := Z9.cell 8 rfl
      exact bodyPost_ret (by simp [results, Tryz.results38, go_sem, q0, q1, q2, q3, q4, q5, q6, q7, q8]; first | done | rfl | exact ⟨rfl, rfl⟩) rfl ⟨rfl, B9⟩
  · obtain rfl : ans = ⟨1, 0, 0, ⟨a, b, c, t⟩, ⟨#[]⟩, 0⟩ := HE.out.trans (by rw [if_pos rfl])
    clear HE hfb KF KC KD KM
    go_enter Tryz.func38, Tryz.ntmps38
    go_wp2_with fail
    rw [← HW0.out]
    refine (KR' ⟨W0, Below.refl _ _⟩).mono ?_
    rintro e w1 ⟨rfl, hb⟩
    obtain ⟨x1, rfl⟩ := Later.of hb
    clear hb
    obtain ⟨x2, hx2⟩ : ∃ x2 : Later W0, x1.w.alloc (.cells #[.int .i64 a, .int .i64 b, .int .i64 c, .bool t] 28) = x2.w := ⟨⟨_, x1.below.alloc x1.below.size _⟩, rfl⟩
    have r0 : x2.w.cell? ⟨x1.w.heap.size, 0, none⟩ = some (.int .i64 a) := by rw [← hx2]; exact (Blk.new _ _ _).cell 0 rfl
    have r1 : x2.w.cell? ⟨x1.w.heap.size, 1, none⟩ = some (.int .i64 b) := by rw [← hx2]; exact (Blk.new _ _ _).cell 1 rfl
    have r2 : x2.w.cell? ⟨x1.w.heap.size, 2, none⟩ = some (.int .i64 c) := by rw [← hx2]; exact (Blk.new _ _ _).cell 2 rfl
    have r3 : x2.w.cell? ⟨x1.w.heap.size, 3, none⟩ = some (.bool t) := by rw [← hx2]; exact (Blk.new _ _ _).cell 3 rfl
    have HX2 := hideP hx2
    clear hx2
    go_upto_region 3 with fail
    rw [HX2.out]
    go_wp2
    obtain ⟨W9, e9⟩ : ∃ W9, W9 = (((((((((x2.w.setCell ⟨w.heap.size, 0, none⟩ (.int .i64 1)).setCell ⟨w.heap.size, 1, none⟩ (.int .i64 0)).setCell ⟨w.heap.size, 2, none⟩ (.int .i64 0)).setCell ⟨w.heap.size, 3, none⟩ (.int .i64 a)).setCell ⟨w.heap.size, 4, none⟩ (.int .i64 b)).setCell ⟨w.heap.size, 5, none⟩ (.int .i64 c)).setCell ⟨w.heap.size, 6, none⟩ (.bool t)).setCell ⟨w.heap.size, 7, none⟩ (.string ⟨#[]⟩)).setCell ⟨w.heap.size, 8, none⟩ (.int .i64 0)) := ⟨_, rfl⟩
    have Z9 : Blk W9 (w.heap.size) #[.int .i64 1, .int .i64 0, .int .i64 0, .int .i64 a, .int .i64 b, .int .i64 c, .bool t, .string ⟨#[]⟩, .int .i64 0] 30 := by rw [e9]; exact ((((((((((HC.out x2).set 0 _).set 1 _).set 2 _).set 3 _).set 4 _).set 5 _).set 6 _).set 7 _).set 8 _)
    have B9 : Below w.heap.size w W9 := by rw [e9]; exact (below_store (below_store (below_store (below_store (below_store (below_store (below_store (below_store (below_store (HBl.out x2) (b := w.heap.size) (i := 0) _ (by omega)) (b := w.heap.size) (i := 1) _ (by omega)) (b := w.heap.size) (i := 2) _ (by omega)) (b := w.heap.size) (i := 3) _ (by omega)) (b := w.heap.size) (i := 4) _ (by omega)) (b := w.heap.size) (i := 5) _ (by omega)) (b := w.heap.size) (i := 6) _ (by omega)) (b := w.heap.size) (i := 7) _ (by omega)) (b := w.heap.size) (i := 8) _ (by omega))
    rw [← e9]
    clear e9
    have q0 : W9.cell? ⟨w.heap.size, 0, none⟩ = some (.int .i64 1) := Z9.cell 0 rfl
    have q1 : W9.cell? ⟨w.heap.size, 1, none⟩ = some (.int .i64 0) := Z9.cell 1 rfl
    have q2 : W9.cell? ⟨w.heap.size, 2, none⟩ = some (.int .i64 0) := Z9.cell 2 rfl
    have q3 : W9.cell? ⟨w.heap.size, 3, none⟩ = some (.int .i64 a) := Z9.cell 3 rfl
    have q4 : W9.cell? ⟨w.heap.size, 4, none⟩ = some (.int .i64 b) := Z9.cell 4 rfl
    have q5 : W9.cell? ⟨w.heap.size, 5, none⟩ = some (.int .i64 c) := Z9.cell 5 rfl
    have q6 : W9.cell? ⟨w.heap.size, 6, none⟩ = some (.bool t) := Z9.cell 6 rfl
    have q7 : W9.cell? ⟨w.heap.size, 7, none⟩ = some (.string ⟨#[]⟩) := Z9.cell 7 rfl
    have q8 : W9.cell? ⟨w.heap.size, 8, none⟩ = some (.int .i64 0) := Z9.cell 8 rfl
    exact bodyPost_ret (by simp [results, Tryz.results38, go_sem, q0, q1, q2, q3, q4, q5, q6, q7, q8]; first | done | rfl | exact ⟨rfl, rfl⟩) rfl ⟨rfl, B9⟩
end Go.Proofs.YtoofnjccpoeomaaGreatDoor.ctr

namespace Go.Proofs.YtoofnjccpoeomaaGreatDoor.ctr
open Go.RowKit

theorem seq_str {a b : ByteArray} (h : a = b) : (a.toList == b.toList) = true := by rw [h]; simp
theorem sne_str {a b : ByteArray} (h : a ≠ b) : (a.toList == b.toList) = false := by
  cases hq : (a.toList == b.toList)
  · rfl
  · exact absurd (str_eq hq) h
abbrev saidV (q : Say × Bool) : Value := .tuple #[sayV q.1, .bool q.2]
end Go.Proofs.YtoofnjccpoeomaaGreatDoor.ctr
