/- Contracts of both Changes: in a row of its own, the first days of all segments but the first. Contracts of both SegAt and both PatchAt: the number of the first segment that has the day, of the first patch of the day; -1 for none. Plain facts on right regimes (each day of From .. To is in a segment, no other day is; their changes rise) and the contract of the laws' rising. -/
import Derived.Test.YtchhdoipkimbgaaGreatDoorRokAll
import Derived.Test.YtchhdoipkimbgaaGreatDoorIntStM
import Derived.Test.YtchhdoipkimbgaaGreatDoorRgmHelpM
namespace Go.Proofs.YtchhdoipkimbgaaGreatDoor.ctr
open Go.RowKit
set_option linter.unusedSimpArgs false

def chTo (l : List Seg) (k : Nat) : List Int := ((l.drop 1).take k).map Seg.fr
theorem chTo_len (l : List Seg) (k : Nat) : (chTo l k).length ≤ k := by
  unfold chTo
  rw [List.length_map, List.length_take]
  omega
theorem chTo_next {l : List Seg} {k : Nat} (h : k + 1 < l.length) : chTo l (k + 1) = chTo l k ++ [(atK segK l (k + 1)).fr] := by
  unfold chTo
  rw [List.take_add_one, List.map_append, List.getElem?_drop, Nat.add_comm 1 k, List.getElem?_eq_getElem h, atK_eq h]
  rfl
noncomputable def changes (r : Rgm) : List Int := if regimeB r = true then chTo r.segs (r.segs.length - 1) else []
theorem changes_yes {r : Rgm} (h : regimeB r = true) : changes r = chTo r.segs (r.segs.length - 1) := by unfold changes; rw [if_pos h]
theorem changes_no {r : Rgm} (h : regimeB r = false) : changes r = [] := by unfold changes; rw [if_neg (by rw [h]; simp)]
theorem okg_len {r : Rgm} (h : regimeB r = true) : 1 ≤ r.segs.length ∧ r.segs.length ≤ 20 := by
  unfold regimeB segsB at h
  simp only [Bool.and_eq_true] at h
  have hb := h.2.2.2.1.1
  by_cases h1 : 1 ≤ r.segs.length
  · by_cases h2 : r.segs.length ≤ 20
    · exact ⟨h1, h2⟩
    · rw [inB_false (.inr (by omega))] at hb; cases hb
  · rw [inB_false (.inl (by omega))] at hb; cases hb
theorem changes_len (r : Rgm) : (changes r).length ≤ 20 := by
  cases h : regimeB r
  · rw [changes_no h]; simp
  · rw [changes_yes h]
    have := chTo_len r.segs (r.segs.length - 1)
    have := okg_len h
    omega

set_option maxRecDepth 100000 in
set_option maxHeartbeats 2000000 in
theorem implChanges (v : Value) (r : Rgm) (a : Addr) (w : World) (h : GRow w v r) (ht : r.to ≤ 9223372036854775807) (hE : ErrT w) (hT : Tab w) (hS : Sent w a) : Calls Tryz.prog 35 #[v] w fun e w' => ∃ o, e = .returned o ∧ MovRow w w' o (changes r) ∧ Below w.heap.size w w' := by
  obtain ⟨i0, hi, hz0, hz1, hz2⟩ := info_parts info_int
  have KR : Hid (∀ W, Below w.heap.size w W → Calls Tryz.prog 27 #[v] W fun e w' => e = .returned (.bool (regimeB r)) ∧ Below W.heap.size W w') := fun W hb => implRegimeOk v r a W (h.below hb) ht (hE.below hb) (hT.later hb) (hS.later hb)
  have C1 : Hid (regimeB r = true → changes r = chTo r.segs (r.segs.length - 1)) := changes_yes
  have C0 : Hid (regimeB r = false → changes r = []) := changes_no
  have CL : Hid (regimeB r = true → 1 ≤ r.segs.length ∧ r.segs.length ≤ 20) := okg_len
  generalize changes r = ch at *
  generalize regimeB r = ok at *
  obtain ⟨nm, f, t, l, ps, rs, ru⟩ := r
  dsimp only at *
  obtain ⟨v1, v2, v3, rfl, _, x1, x2, x3⟩ := h
  dsimp only at *
  obtain ⟨W0, hW0, d0, d1, d2, d3, d4, d5, d6, hBl⟩ := seven_box w (.string nm) (.int .i64 f) (.int .i64 t) v1 v2 v3 (.int .i64 ru) 29
  have hrow := x1.below (hBl ⟨W0, Below.refl _ _⟩)
  obtain ⟨a1, c1, rfl, _⟩ := x1
  obtain ⟨a2, c2, rfl, _⟩ := x2
  obtain ⟨a3, c3, rfl, _⟩ := x3
  obtain ⟨a, c, ev, hl, hm, HK0⟩ := hrow
  cases ev
  have HK := hideP HK0
  have HW0 := hideP hW0
  have HBl := hideP hBl
  unfold maxLen at hm
  clear HK0 hW0 hBl ht hE hT hS
  go_enter Tryz.func35, Tryz.ntmps35
  go_wp2_with fail
  rw [← HW0.out]
  refine (KR.out _ (HBl.out ⟨W0, Below.refl _ _⟩)).mono ?_
  rintro e w1 ⟨rfl, hb⟩
  obtain ⟨y1, rfl⟩ := Later.of hb
  clear hb KR
  cases ok
  · have HR := hideP (C0.out rfl)
    go_wp2
    go_ret
    exact ⟨_, rfl, by rw [HR.out]; exact movRow_nil _ _, HBl.out y1⟩
  have HR := hideP (C1.out rfl)
  obtain ⟨hl1, hl2⟩ := CL.out rfl
  obtain ⟨g, rfl, hg, _⟩ := HK.out 0 (by omega)
  have HS : Hid (ISt y1.w (.slice none 0 0) [] y1.w) := ISt.nil _
  clear C0 C1 CL
  by_cases hc : c1 = 1
  · subst hc
    have hl3 : l.length = 1 := by omega
    have HR0 : Hid (ch = []) := by unfold Hid; rw [HR.out, hl3]; rfl
    clear HR
    go_wp2_with fail
    go_loopw [3, 13] (fun o i wr => o = .slice none 0 0 ∧ i = .int .i64 0 ∧ wr = y1.w) (fun _ _ _ => 0)
    case atStart => exact ⟨rfl, rfl, rfl⟩
    case round =>
      obtain ⟨rfl, rfl, rfl⟩ := hrel
      go_wp2
      go_ret
      exact ⟨_, rfl, by rw [HR0.out]; exact movRow_nil _ _, HBl.out y1⟩
  have hcb : (c1 == 1) = false := by simp [hc]
  have KC : Hid (∀ k, k + 1 < l.length → ∀ z : Later W0, z.w.cell? ⟨g, 5 + k * 5, none⟩ = some (.int .i64 (atK segK l (k + 1)).fr) ∧ z.w.cell? ⟨g, 5 + k * 5 + 1, none⟩ = some (.int .i64 (atK segK l (k + 1)).to) ∧ z.w.cell? ⟨g, 5 + k * 5 + 2, none⟩ = some (.int .i64 (atK segK l (k + 1)).cal) ∧ z.w.cell? ⟨g, 5 + k * 5 + 3, none⟩ = some (.int .i64 (atK segK l (k + 1)).sty) ∧ z.w.cell? ⟨g, 5 + k * 5 + 4, none⟩ = some (.int .i64 (atK segK l (k + 1)).off)) := fun k hk z => by
    obtain ⟨g', e', hg', x'⟩ := HK.out (k + 1) hk
    cases e'
    have h := (x'.below z.below hg').seg
    rw [show (k + 1) * 5 = 5 + k * 5 by omega] at h
    exact h
  go_wp2_with fail
  go_loopw [3, 13] (fun o i wr => ∃ k : Nat, k ≤ l.length - 1 ∧ i = .int .i64 (k : Int) ∧ ISt y1.w o (chTo l k) wr) (fun _ i _ => l.length - 1 - (intOf i).toNat)
  case atStart => exact ⟨0, Nat.zero_le _, rfl, HS.out⟩
  case round =>
    obtain ⟨k, hk, rfl, hS⟩ := hrel
    have S := hideP hS
    clear hS
    by_cases hlt : k < l.length - 1
    · have hln := chTo_len l k
      obtain ⟨e0, e1, e2, e3, e4⟩ := KC.out k (by omega) ⟨wr, y1.on S.out.below⟩
      have HN := hideP (chTo_next (l := l) (k := k) (by omega))
      dsimp only at e0 e1 e2 e3 e4
      generalize chTo l k = xs at *
      generalize atK segK l (k + 1) = s at *
      have S2 := hideP (S.out.later (W' := wr.alloc (.cells #[.int .i64 s.fr, .int .i64 s.to, .int .i64 s.cal, .int .i64 s.sty, .int .i64 s.off] 56)) ((Below.refl _ _).alloc (Nat.le_refl _) _))
      have hsz := S.out.below.size
      have HCN : Hid (∀ j u, [Value.int .i64 s.fr][j]? = some u → ((wr.alloc (.cells #[.int .i64 s.fr, .int .i64 s.to, .int .i64 s.cal, .int .i64 s.sty, .int .i64 s.off] 56)).alloc (.cells #[.int .i64 s.fr] 3)).cell? ((⟨wr.heap.size + 1, 0, none⟩ : Addr).add j) = some u) := by
        unfold Hid
        have h := cell_one_new (wr.alloc (.cells #[.int .i64 s.fr, .int .i64 s.to, .int .i64 s.cal, .int .i64 s.sty, .int .i64 s.off] 56)) (.int .i64 s.fr) 3
        rw [inew] at h
        exact h
      go_wp2_with (at_builtin; refine wpList_append_own _ rfl _ _ 51 rfl y1.w.heap.size 3 i0 (.int .i64 0) 1 8 Tryz.underlying51 hi hz0 hz1 hz2 rfl (by decide) _ _ _ rfl (S2.out.row.alloc _) ⟨wr.heap.size + 1, 0, none⟩ 1 1 [.int .i64 s.fr] rfl rfl HCN.out (by simp [Value.oneCell']) (by unfold maxLen; omega) (by omega) (by rw [inew, inew]; omega) ?_; intro v' w9 hown' hgrow _)
      refine ⟨⟨k + 1, by omega, by go_num, ?_⟩, by simp [intOf]; omega⟩
      rw [HN.out]
      exact S2.out.app _ hown' hgrow
    · have hkn : k = l.length - 1 := by omega
      subst hkn
      go_wp2
      go_ret
      exact ⟨_, rfl, by rw [HR.out]; exact S.out.done (HBl.out y1)⟩

set_option maxRecDepth 100000 in
set_option maxHeartbeats 2000000 in
theorem specChanges (v : Value) (r : Rgm) (w : World) (h : GRow w v r) (hf : -9223372036854775808 ≤ r.fr) (ht : r.to ≤ 9223372036854775807) : Calls Tryz.prog 41 #[v] w fun e w' => ∃ o, e = .returned o ∧ MovRow w w' o (changes r) ∧ Below w.heap.size w w' := by
  obtain ⟨i0, hi, hz0, hz1, hz2⟩ := info_parts info_int
  have KR : Hid (∀ W, Below w.heap.size w W → Calls Tryz.prog 28 #[v] W fun e w' => e = .returned (.bool (regimeB r)) ∧ Below W.heap.size W w') := fun W hb => specRegimeOk v r W (h.below hb) hf ht
  have C1 : Hid (regimeB r = true → changes r = chTo r.segs (r.segs.length - 1)) := changes_yes
  have C0 : Hid (regimeB r = false → changes r = []) := changes_no
  have CL : Hid (regimeB r = true → 1 ≤ r.segs.length ∧ r.segs.length ≤ 20) := okg_len
  generalize changes r = ch at *
  generalize regimeB r = ok at *
  obtain ⟨nm, f, t, l, ps, rs, ru⟩ := r
  dsimp only at *
  obtain ⟨v1, v2, v3, rfl, _, x1, x2, x3⟩ := h
  dsimp only at *
  obtain ⟨W0, hW0, d0, d1, d2, d3, d4, d5, d6, hBl⟩ := seven_box w (.string nm) (.int .i64 f) (.int .i64 t) v1 v2 v3 (.int .i64 ru) 29
  have hrow := x1.below (hBl ⟨W0, Below.refl _ _⟩)
  obtain ⟨a1, c1, rfl, _⟩ := x1
  obtain ⟨a2, c2, rfl, _⟩ := x2
  obtain ⟨a3, c3, rfl, _⟩ := x3
  obtain ⟨a, c, ev, hl, hm, HK0⟩ := hrow
  cases ev
  have HK := hideP HK0
  have HW0 := hideP hW0
  have HBl := hideP hBl
  unfold maxLen at hm
  clear HK0 hW0 hBl hf ht
  go_enter Tryz.func41, Tryz.ntmps41
  obtain ⟨W1, hW1⟩ : ∃ W1, W1 = W0.alloc (.cells #[] 3) := ⟨_, rfl⟩
  have hst : ISt W0 (.slice (some ⟨W0.heap.size, 0, none⟩) 0 0) [] W1 := by
    rw [hW1]
    exact ⟨iown_empty W0 _, (Below.refl _ _).alloc (Nat.le_refl _) _⟩
  have HS := hideP hst
  have HW1 := hideP hW1
  have hs0 : W0.heap.size = w.heap.size + 1 := by rw [HW0.out, inew]
  clear hW1 hst
  rw [hs0] at HS
  go_wp2_with fail
  rw [← HW0.out, ← HW1.out]
  clear hs0
  go_loopw [3, 4] (fun o i wr => ∃ k : Nat, k ≤ l.length ∧ i = .int .i64 ((k : Int) + 1) ∧ Hid (k = 0 ∨ (ok = true ∧ k + 1 ≤ l.length)) ∧ ISt W0 o (chTo l k) wr) (fun _ i _ => l.length + 1 - (intOf i).toNat)
  case atStart => exact ⟨0, Nat.zero_le _, rfl, .inl rfl, HS.out⟩
  case round =>
    obtain ⟨k, hk, rfl, HJ, hS⟩ := hrel
    have S := hideP hS
    clear hS
    have D0 := d0 ⟨wr, S.out.below⟩
    have D1 := d1 ⟨wr, S.out.below⟩
    have D2 := d2 ⟨wr, S.out.below⟩
    have D3 := d3 ⟨wr, S.out.below⟩
    have D4 := d4 ⟨wr, S.out.below⟩
    have D5 := d5 ⟨wr, S.out.below⟩
    have D6 := d6 ⟨wr, S.out.below⟩
    dsimp only at D0 D1 D2 D3 D4 D5 D6
    by_cases hlt : (k : Int) + 1 < (l.length : Int)
    · have KD := hideP (KR.out wr (HBl.out ⟨wr, S.out.below⟩))
      go_wp2_with fail
      refine KD.out.mono ?_
      rintro e w2 ⟨rfl, hb⟩
      have S2 := hideP (S.out.later hb)
      clear hb KD D0 D1 D2 D3 D4 D5 D6
      cases ok
      · have HR := hideP (C0.out rfl)
        have hk0 : k = 0 := by rcases HJ.out with h | ⟨h, _⟩; exact h; cases h
        subst hk0
        go_wp2
        go_ret
        exact ⟨_, rfl, by rw [HR.out]; exact S2.out.done (HBl.out ⟨W0, Below.refl _ _⟩)⟩
      have D3 := d3 ⟨w2, S2.out.below⟩
      obtain ⟨g, rfl, hg, x⟩ := HK.out (k + 1) (by omega)
      have e0 := ((x.below S2.out.below hg).seg).1
      have hln := chTo_len l k
      have HN := hideP (chTo_next (l := l) (k := k) (by omega))
      dsimp only at D3
      obtain ⟨hl1, hl2⟩ := CL.out rfl
      clear x C0 C1 CL KR HJ
      generalize chTo l k = xs at *
      generalize (atK segK l (k + 1)).fr = z at *
      have hsz := S2.out.below.size
      go_wp2_with (at_builtin; refine wpList_append_own _ rfl _ _ 51 rfl W0.heap.size 3 i0 (.int .i64 0) 1 8 Tryz.underlying51 hi hz0 hz1 hz2 rfl (by decide) _ _ _ rfl (S2.out.row.alloc _) ⟨w2.heap.size, 0, none⟩ 1 1 [.int .i64 z] rfl rfl (cell_one_new _ _ _) (by simp [Value.oneCell']) (by unfold maxLen; omega) (by omega) (by rw [inew]; omega) ?_; intro v' w9 hown' hgrow _)
      refine ⟨⟨k + 1, by omega, by go_num, .inr ⟨trivial, by omega⟩, ?_⟩, by simp [intOf]; omega⟩
      rw [HN.out]
      exact S2.out.app _ hown' hgrow
    · have HR : Hid (ch = chTo l k) := by
        unfold Hid
        cases ok
        · have hk0 : k = 0 := by rcases HJ.out with h | ⟨h, _⟩; exact h; cases h
          subst hk0
          exact C0.out rfl
        · have := CL.out rfl
          have e : k = l.length - 1 := by rcases HJ.out with h | ⟨_, h⟩ <;> omega
          rw [e]
          exact C1.out rfl
      clear C0 C1 CL KR HJ
      go_wp2
      go_ret
      exact ⟨_, rfl, by rw [HR.out]; exact S.out.done (HBl.out ⟨W0, Below.refl _ _⟩)⟩
end Go.Proofs.YtchhdoipkimbgaaGreatDoor.ctr

namespace Go.Proofs.YtchhdoipkimbgaaGreatDoor.ctr
open Go.RowKit

def segHas (n : Int) (s : Seg) : Bool := inB n s.fr s.to
def patIs (n : Int) (p : Pat) : Bool := decide (p.day = n)
def segAt (l : List Seg) (n : Int) : Int := ifind (segHas n) l
def patAt (l : List Pat) (n : Int) : Int := ifind (patIs n) l
theorem implSegHas (s : Seg) (n : Int) (b : Addr) (w : World) (hb : w.cell? b = some (.int .i64 n)) : Calls Tryz.prog 97 #[.agg #[.int .i64 s.fr, .int .i64 s.to, .int .i64 s.cal, .int .i64 s.sty, .int .i64 s.off], .pointer (some b)] w fun e w' => e = .returned (.bool (segHas n s)) ∧ Below w.heap.size w w' := by
  have hb' : (w.alloc (.cells #[.int .i64 s.fr, .int .i64 s.to, .int .i64 s.cal, .int .i64 s.sty, .int .i64 s.off] 56)).cell? b = some (.int .i64 n) := Later.at hb ⟨_, (Below.refl _ _).alloc (Nat.le_refl _) _⟩
  unfold segHas
  by_cases h1 : s.fr ≤ n
  · by_cases h2 : n ≤ s.to
    · rw [inB_true h1 h2]
      go_enter Tryz.func97, Tryz.ntmps97
      go_wp2
      go_ret
      exact ⟨rfl, (Below.refl _ _).alloc (Nat.le_refl _) _⟩
    · rw [inB_false (.inr (by omega))]
      have hd : decide (n ≤ s.to) = false := decide_eq_false h2
      go_enter Tryz.func97, Tryz.ntmps97
      go_wp2
      go_ret
      exact ⟨rfl, (Below.refl _ _).alloc (Nat.le_refl _) _⟩
  · rw [inB_false (.inl (by omega))]
    have hd : decide (s.fr ≤ n) = false := decide_eq_false h1
    go_enter Tryz.func97, Tryz.ntmps97
    go_wp2
    go_ret
    exact ⟨rfl, (Below.refl _ _).alloc (Nat.le_refl _) _⟩
theorem implPatIs (s : Pat) (n : Int) (b : Addr) (w : World) (hb : w.cell? b = some (.int .i64 n)) : Calls Tryz.prog 101 #[.agg #[.int .i64 s.day, .int .i64 s.mon, .int .i64 s.dom], .pointer (some b)] w fun e w' => e = .returned (.bool (patIs n s)) ∧ Below w.heap.size w w' := by
  have hb' : (w.alloc (.cells #[.int .i64 s.day, .int .i64 s.mon, .int .i64 s.dom] 76)).cell? b = some (.int .i64 n) := Later.at hb ⟨_, (Below.refl _ _).alloc (Nat.le_refl _) _⟩
  unfold patIs
  by_cases h1 : s.day = n
  · rw [decide_eq_true h1]
    have hd : (s.day == n) = true := by simp [h1]
    clear h1
    go_enter Tryz.func101, Tryz.ntmps101
    go_wp2
    go_ret
    exact ⟨rfl, (Below.refl _ _).alloc (Nat.le_refl _) _⟩
  · rw [decide_eq_false h1]
    have hd : (s.day == n) = false := by simp [h1]
    go_enter Tryz.func101, Tryz.ntmps101
    go_wp2
    go_ret
    exact ⟨rfl, (Below.refl _ _).alloc (Nat.le_refl _) _⟩

set_option maxHeartbeats 1000000 in
theorem indexSeg (v : Value) (l : List Seg) (n : Int) (b : Addr) (w : World) (h : IRow segK w v l) (hc : w.cell? b = some (.int .i64 n)) : Calls Tryz.prog 96 #[v, .func (.func 97) #[] #[.pointer (some b)]] w fun e w' => e = .returned (.int .i64 (ifind (segHas n) l)) ∧ Below w.heap.size w w' := by
  obtain ⟨a, c, rfl, hl, hm, H⟩ := h
  have HK := hideP H
  have KC : ∀ (r : Seg) (W : World), Below w.heap.size w W → Calls Tryz.prog 97 #[.agg #[.int .i64 r.fr, .int .i64 r.to, .int .i64 r.cal, .int .i64 r.sty, .int .i64 r.off], .pointer (some b)] W fun e w' => e = .returned (.bool (segHas n r)) ∧ Below W.heap.size W w' := fun r W hb => implSegHas r n b W (Later.at hc ⟨W, hb⟩)
  have HC := hideP KC
  unfold maxLen at hm
  clear H KC hc
  go_enter Tryz.func96, Tryz.ntmps96
  go_wp2
  go_loopw [8] (fun i wr => ∃ k : Nat, k ≤ l.length ∧ i = .int .i64 (k : Int) ∧ Hid (ifFrom (segHas n) (l.drop k) k = ifind (segHas n) l) ∧ Below w.heap.size w wr) (fun i _ => l.length - (intOf i).toNat)
  case atStart => exact ⟨0, Nat.zero_le _, rfl, rfl, Below.refl _ _⟩
  case round =>
    obtain ⟨k, hk, rfl, HF, hB⟩ := hrel
    have HB := hideP hB
    clear hB
    by_cases hlt : k < l.length
    · obtain ⟨g, rfl, hg, x⟩ := HK.out k hlt
      obtain ⟨c0, c1, c2, c3, c4⟩ := (x.below HB.out hg).seg
      have K1 := hideP (fun h => if_hit (K := segK) (p := segHas n) hlt h HF.out)
      have K2 := hideP (fun h => if_miss (K := segK) (p := segHas n) hlt h HF.out)
      have KD := hideP (HC.out (atK segK l k) wr HB.out)
      clear x
      generalize atK segK l k = r at *
      go_wp2_with fail
      refine KD.out.mono ?_
      rintro e w1 ⟨rfl, hb⟩
      have HB1 : Hid (Below w.heap.size w w1) := HB.out.trans (hb.mono HB.out.size)
      clear hb c0 c1 c2 c3 c4
      cases hq : segHas n r
      · have HN := hideP (K2.out hq)
        go_wp2
        exact ⟨⟨k + 1, by omega, by go_num, HN.out, HB1.out⟩, by simp [intOf]; omega⟩
      · have HN := hideP (K1.out hq)
        go_wp2
        go_ret
        exact ⟨ret_int HN.out.symm, HB1.out⟩
    · have HN := hideP (if_end (by omega) HF.out)
      go_wp2
      go_ret
      exact ⟨ret_int HN.out.symm, HB.out⟩

set_option maxHeartbeats 1000000 in
theorem indexPat (v : Value) (l : List Pat) (n : Int) (b : Addr) (w : World) (h : IRow patK w v l) (hc : w.cell? b = some (.int .i64 n)) : Calls Tryz.prog 100 #[v, .func (.func 101) #[] #[.pointer (some b)]] w fun e w' => e = .returned (.int .i64 (ifind (patIs n) l)) ∧ Below w.heap.size w w' := by
  obtain ⟨a, c, rfl, hl, hm, H⟩ := h
  have HK := hideP H
  have KC : ∀ (r : Pat) (W : World), Below w.heap.size w W → Calls Tryz.prog 101 #[.agg #[.int .i64 r.day, .int .i64 r.mon, .int .i64 r.dom], .pointer (some b)] W fun e w' => e = .returned (.bool (patIs n r)) ∧ Below W.heap.size W w' := fun r W hb => implPatIs r n b W (Later.at hc ⟨W, hb⟩)
  have HC := hideP KC
  unfold maxLen at hm
  clear H KC hc
  go_enter Tryz.func100, Tryz.ntmps100
  go_wp2
  go_loopw [8] (fun i wr => ∃ k : Nat, k ≤ l.length ∧ i = .int .i64 (k : Int) ∧ Hid (ifFrom (patIs n) (l.drop k) k = ifind (patIs n) l) ∧ Below w.heap.size w wr) (fun i _ => l.length - (intOf i).toNat)
  case atStart => exact ⟨0, Nat.zero_le _, rfl, rfl, Below.refl _ _⟩
  case round =>
    obtain ⟨k, hk, rfl, HF, hB⟩ := hrel
    have HB := hideP hB
    clear hB
    by_cases hlt : k < l.length
    · obtain ⟨g, rfl, hg, x⟩ := HK.out k hlt
      obtain ⟨c0, c1, c2⟩ := (x.below HB.out hg).pat
      have K1 := hideP (fun h => if_hit (K := patK) (p := patIs n) hlt h HF.out)
      have K2 := hideP (fun h => if_miss (K := patK) (p := patIs n) hlt h HF.out)
      have KD := hideP (HC.out (atK patK l k) wr HB.out)
      clear x
      generalize atK patK l k = r at *
      go_wp2_with fail
      refine KD.out.mono ?_
      rintro e w1 ⟨rfl, hb⟩
      have HB1 : Hid (Below w.heap.size w w1) := HB.out.trans (hb.mono HB.out.size)
      clear hb c0 c1 c2
      cases hq : patIs n r
      · have HN := hideP (K2.out hq)
        go_wp2
        exact ⟨⟨k + 1, by omega, by go_num, HN.out, HB1.out⟩, by simp [intOf]; omega⟩
      · have HN := hideP (K1.out hq)
        go_wp2
        go_ret
        exact ⟨ret_int HN.out.symm, HB1.out⟩
    · have HN := hideP (if_end (by omega) HF.out)
      go_wp2
      go_ret
      exact ⟨ret_int HN.out.symm, HB.out⟩

set_option maxHeartbeats 1000000 in
theorem implSegAt (v : Value) (r : Rgm) (n : Int) (w : World) (h : GRow w v r) : Calls Tryz.prog 31 #[v, .int .i64 n] w fun e w' => e = .returned (.int .i64 (segAt r.segs n)) ∧ Below w.heap.size w w' := by
  obtain ⟨v1, v2, v3, rfl, _, x1, x2, x3⟩ := h
  obtain ⟨W0, hW0⟩ : ∃ W0, W0 = (w.alloc (.cells #[.string r.name, .int .i64 r.fr, .int .i64 r.to, v1, v2, v3, .int .i64 r.rule] 29)).alloc (.cells #[.int .i64 n] 3) := ⟨_, rfl⟩
  have hW : Below w.heap.size w W0 := by rw [hW0]; exact ((Below.refl _ _).alloc (Nat.le_refl _) _).alloc (by rw [World.size_alloc]; omega) _
  have hc : W0.cell? ⟨w.heap.size + 1, 0, none⟩ = some (.int .i64 n) := by
    rw [hW0]
    have := (Blk.new (w.alloc (.cells #[.string r.name, .int .i64 r.fr, .int .i64 r.to, v1, v2, v3, .int .i64 r.rule] 29)) #[.int .i64 n] 3).cell 0 rfl
    rw [World.size_alloc] at this
    exact this
  have KI := hideP (indexSeg v1 r.segs n ⟨w.heap.size + 1, 0, none⟩ W0 (x1.below hW) hc)
  have HW := hideP hW
  have HW0 := hideP hW0
  obtain ⟨a1, c1, rfl, _⟩ := x1
  obtain ⟨a2, c2, rfl, _⟩ := x2
  obtain ⟨a3, c3, rfl, _⟩ := x3
  clear hW hc hW0
  go_enter Tryz.func31, Tryz.ntmps31
  go_wp2_with fail
  rw [← HW0.out]
  refine KI.out.mono ?_
  rintro e w1 ⟨rfl, hb⟩
  have HB : Hid (Below w.heap.size w w1) := HW.out.trans (hb.mono HW.out.size)
  clear hb
  go_wp2_with fail
  go_ret
  exact ⟨rfl, HB.out⟩

set_option maxHeartbeats 1000000 in
theorem implPatAt (v : Value) (r : Rgm) (n : Int) (w : World) (h : GRow w v r) : Calls Tryz.prog 37 #[v, .int .i64 n] w fun e w' => e = .returned (.int .i64 (patAt r.pats n)) ∧ Below w.heap.size w w' := by
  obtain ⟨v1, v2, v3, rfl, _, x1, x2, x3⟩ := h
  obtain ⟨W0, hW0⟩ : ∃ W0, W0 = (w.alloc (.cells #[.string r.name, .int .i64 r.fr, .int .i64 r.to, v1, v2, v3, .int .i64 r.rule] 29)).alloc (.cells #[.int .i64 n] 3) := ⟨_, rfl⟩
  have hW : Below w.heap.size w W0 := by rw [hW0]; exact ((Below.refl _ _).alloc (Nat.le_refl _) _).alloc (by rw [World.size_alloc]; omega) _
  have hc : W0.cell? ⟨w.heap.size + 1, 0, none⟩ = some (.int .i64 n) := by
    rw [hW0]
    have := (Blk.new (w.alloc (.cells #[.string r.name, .int .i64 r.fr, .int .i64 r.to, v1, v2, v3, .int .i64 r.rule] 29)) #[.int .i64 n] 3).cell 0 rfl
    rw [World.size_alloc] at this
    exact this
  have KI := hideP (indexPat v2 r.pats n ⟨w.heap.size + 1, 0, none⟩ W0 (x2.below hW) hc)
  have HW := hideP hW
  have HW0 := hideP hW0
  obtain ⟨a1, c1, rfl, _⟩ := x1
  obtain ⟨a2, c2, rfl, _⟩ := x2
  obtain ⟨a3, c3, rfl, _⟩ := x3
  clear hW hc hW0
  go_enter Tryz.func37, Tryz.ntmps37
  go_wp2_with fail
  rw [← HW0.out]
  refine KI.out.mono ?_
  rintro e w1 ⟨rfl, hb⟩
  have HB : Hid (Below w.heap.size w w1) := HW.out.trans (hb.mono HW.out.size)
  clear hb
  go_wp2_with fail
  go_ret
  exact ⟨rfl, HB.out⟩

set_option maxHeartbeats 1000000 in
theorem specSegAt (v : Value) (r : Rgm) (n : Int) (w : World) (h : GRow w v r) : Calls Tryz.prog 36 #[v, .int .i64 n] w fun e w' => e = .returned (.int .i64 (segAt r.segs n)) ∧ Below w.heap.size w w' := by
  obtain ⟨v1, v2, v3, rfl, _, x1, x2, x3⟩ := h
  obtain ⟨W0, hW0, d0, d1, d2, d3, d4, d5, d6, hBl⟩ := seven_box w (.string r.name) (.int .i64 r.fr) (.int .i64 r.to) v1 v2 v3 (.int .i64 r.rule) 29
  have hrow := x1.below (hBl ⟨W0, Below.refl _ _⟩)
  obtain ⟨a1, c1, rfl, _⟩ := x1
  obtain ⟨a2, c2, rfl, _⟩ := x2
  obtain ⟨a3, c3, rfl, _⟩ := x3
  obtain ⟨a, c, ev, hl, hm, H⟩ := hrow
  cases ev
  have HK := hideP H
  have HW0 := hideP hW0
  have HBl := hideP hBl
  unfold maxLen at hm
  clear H hW0 hBl d0 d1 d2 d6
  generalize r.segs = l at *
  have hst : Hid (Below W0.heap.size W0 W0) := Below.refl _ _
  go_enter Tryz.func36, Tryz.ntmps36
  go_wp2
  rw [← HW0.out]
  go_loopw [5] (fun i wr => ∃ k : Nat, k ≤ l.length ∧ i = .int .i64 (k : Int) ∧ Hid (ifFrom (segHas n) (l.drop k) k = segAt l n) ∧ ∃ y : Later W0, wr = y.w) (fun i _ => l.length - (intOf i).toNat)
  case atStart => exact ⟨0, Nat.zero_le _, rfl, rfl, ⟨W0, hst.out⟩, rfl⟩
  case round =>
    obtain ⟨k, hk, rfl, HF, y, rfl⟩ := hrel
    by_cases hlt : k < l.length
    · obtain ⟨g, rfl, hg, x⟩ := HK.out k hlt
      have e0 : ∀ y : Later W0, y.w.cell? ⟨g, k * 5, none⟩ = some (.int .i64 (atK segK l k).fr) := fun y => ((x.below y.below hg).seg).1
      have e1 : ∀ y : Later W0, y.w.cell? ⟨g, k * 5 + 1, none⟩ = some (.int .i64 (atK segK l k).to) := fun y => ((x.below y.below hg).seg).2.1
      have K1 := hideP (fun h => if_hit (K := segK) (p := segHas n) hlt h HF.out)
      have K2 := hideP (fun h => if_miss (K := segK) (p := segHas n) hlt h HF.out)
      clear x
      generalize atK segK l k = r at *
      have HD : Hid (segHas n r = inB n r.fr r.to) := rfl
      have KI : ∀ y : Later W0, Calls Tryz.prog 82 #[.int .i64 n, .int .i64 r.fr, .int .i64 r.to] y.w fun e w' => e = .returned (.bool (inB n r.fr r.to)) ∧ w' = y.w := fun y => l01In _ _ _ y.w
      generalize inB n r.fr r.to = b at *
      go_wp2_with fail
      refine wp_region_later (W := W0) y.below (by kernel_rfl) (by kernel_rfl) ?_
      repeat (go_big_quiet_step (first | (go_at_call 82; exact calls_same (KI _)) | fail))
      refine wpQuiet_nil ?_
      intro _ hw'
      obtain ⟨x, rfl⟩ := hw'
      cases b
      · have HN := hideP (K2.out HD.out)
        go_wp2
        exact ⟨⟨k + 1, by omega, by go_num, HN.out, x, rfl⟩, by simp [intOf]; omega⟩
      · have HN := hideP (K1.out HD.out)
        go_wp2
        go_ret
        exact ⟨ret_int HN.out.symm, HBl.out x⟩
    · have HN := hideP (if_end (by omega) HF.out)
      go_wp2
      go_ret
      exact ⟨ret_int HN.out.symm, HBl.out y⟩

set_option maxHeartbeats 1000000 in
theorem specPatAt (v : Value) (r : Rgm) (n : Int) (w : World) (h : GRow w v r) : Calls Tryz.prog 38 #[v, .int .i64 n] w fun e w' => e = .returned (.int .i64 (patAt r.pats n)) ∧ Below w.heap.size w w' := by
  obtain ⟨v1, v2, v3, rfl, _, x1, x2, x3⟩ := h
  obtain ⟨W0, hW0, d0, d1, d2, d3, d4, d5, d6, hBl⟩ := seven_box w (.string r.name) (.int .i64 r.fr) (.int .i64 r.to) v1 v2 v3 (.int .i64 r.rule) 29
  have hrow := x2.below (hBl ⟨W0, Below.refl _ _⟩)
  obtain ⟨a1, c1, rfl, _⟩ := x1
  obtain ⟨a2, c2, rfl, _⟩ := x2
  obtain ⟨a3, c3, rfl, _⟩ := x3
  obtain ⟨a, c, ev, hl, hm, H⟩ := hrow
  cases ev
  have HK := hideP H
  have HW0 := hideP hW0
  have HBl := hideP hBl
  unfold maxLen at hm
  clear H hW0 hBl d0 d1 d2 d6
  generalize r.pats = l at *
  have hst : Hid (Below W0.heap.size W0 W0) := Below.refl _ _
  go_enter Tryz.func38, Tryz.ntmps38
  go_wp2
  rw [← HW0.out]
  go_loopw [5] (fun i wr => ∃ k : Nat, k ≤ l.length ∧ i = .int .i64 (k : Int) ∧ Hid (ifFrom (patIs n) (l.drop k) k = patAt l n) ∧ ∃ y : Later W0, wr = y.w) (fun i _ => l.length - (intOf i).toNat)
  case atStart => exact ⟨0, Nat.zero_le _, rfl, rfl, ⟨W0, hst.out⟩, rfl⟩
  case round =>
    obtain ⟨k, hk, rfl, HF, y, rfl⟩ := hrel
    by_cases hlt : k < l.length
    · obtain ⟨g, rfl, hg, x⟩ := HK.out k hlt
      have e0 : ∀ y : Later W0, y.w.cell? ⟨g, k * 3, none⟩ = some (.int .i64 (atK patK l k).day) := fun y => ((x.below y.below hg).pat).1
      have K1 := hideP (fun h => if_hit (K := patK) (p := patIs n) hlt h HF.out)
      have K2 := hideP (fun h => if_miss (K := patK) (p := patIs n) hlt h HF.out)
      clear x
      generalize atK patK l k = r at *
      by_cases hd : r.day = n
      · have HN := hideP (K1.out (decide_eq_true hd))
        have hq : (r.day == n) = true := by simp [hd]
        go_wp2
        go_ret
        exact ⟨ret_int HN.out.symm, HBl.out y⟩
      · have HN := hideP (K2.out (decide_eq_false hd))
        have hq : (r.day == n) = false := by simp [hd]
        go_wp2
        exact ⟨⟨k + 1, by omega, by go_num, HN.out, y, rfl⟩, by simp [intOf]; omega⟩
    · have HN := hideP (if_end (by omega) HF.out)
      go_wp2
      go_ret
      exact ⟨ret_int HN.out.symm, HBl.out y⟩

end Go.Proofs.YtchhdoipkimbgaaGreatDoor.ctr

namespace Go.Proofs.YtchhdoipkimbgaaGreatDoor.ctr
open Go.RowKit

theorem bare_has {t : Int} : ∀ (L : List Seg) (f n : Int), bareS t L f = false → f ≤ n → n ≤ t → ∃ s ∈ L, s.fr ≤ n ∧ n ≤ s.to
  | [], f, n, h, h1, h2 => by
    rw [bareS] at h
    have := of_decide_eq_false h
    omega
  | s :: l, f, n, h, h1, h2 => by
    rw [bareS, if_pos (by omega)] at h
    by_cases a : s.to < f
    · rw [if_pos a] at h
      obtain ⟨x, hx, hh⟩ := bare_has l f n h h1 h2
      exact ⟨x, List.mem_cons_of_mem _ hx, hh⟩
    · rw [if_neg a] at h
      by_cases b : f < s.fr
      · rw [if_pos b] at h; cases h
      · rw [if_neg b] at h
        by_cases c : n ≤ s.to
        · exact ⟨s, List.mem_cons_self, by omega, c⟩
        · rw [if_neg (by omega)] at h
          obtain ⟨x, hx, hh⟩ := bare_has l (s.to + 1) n h (by omega) h2
          exact ⟨x, List.mem_cons_of_mem _ hx, hh⟩
theorem tiles_has {f t n : Int} {l : List Seg} (h : tilesZ f t l = 0) (h1 : f ≤ n) (h2 : n ≤ t) : ∃ s ∈ l, s.fr ≤ n ∧ n ≤ s.to := by
  unfold tilesZ tileC at h
  by_cases a : sharedB (fullS l) = true
  · rw [if_pos a] at h; omega
  · rw [if_neg a] at h
    by_cases b : bareS t (fullS l) f = true
    · rw [if_pos b] at h; omega
    · obtain ⟨s, hs, hh⟩ := bare_has (fullS l) f n (by simpa using b) h1 h2
      exact ⟨s, full_mem hs, hh⟩
theorem ifc_cases {α : Type} (K : IK α) (p : α → Bool) : ∀ (l : List α) (j : Nat), (ifFrom p l j = -1 ∧ ∀ x ∈ l, p x = false) ∨ ∃ k, k < l.length ∧ ifFrom p l j = ((j + k : Nat) : Int) ∧ p (atK K l k) = true
  | [], j => .inl ⟨rfl, fun x hx => by cases hx⟩
  | a :: l, j => by
    rw [ifFrom]
    cases h : p a
    · rw [if_neg (by simp)]
      rcases ifc_cases K p l (j + 1) with ⟨h1, h2⟩ | ⟨k, hk, h1, h2⟩
      · exact .inl ⟨h1, fun x hx => by rcases List.mem_cons.1 hx with rfl | hx; exact h; exact h2 x hx⟩
      · exact .inr ⟨k + 1, by simp; omega, by rw [h1]; congr 1; omega, by simpa [atK] using h2⟩
    · rw [if_pos rfl]
      exact .inr ⟨0, by simp, by simp, by simpa [atK] using h⟩
theorem segAt_cases (l : List Seg) (n : Int) : (segAt l n = -1 ∧ ∀ x ∈ l, segHas n x = false) ∨ ∃ k, k < l.length ∧ segAt l n = (k : Int) ∧ (atK segK l k).fr ≤ n ∧ n ≤ (atK segK l k).to := by
  rcases ifc_cases segK (segHas n) l 0 with h | ⟨k, hk, h1, h2⟩
  · exact .inl h
  · refine .inr ⟨k, hk, by unfold segAt ifind; rw [h1]; congr 1; omega, ?_⟩
    unfold segHas at h2
    by_cases a : (atK segK l k).fr ≤ n
    · by_cases b : n ≤ (atK segK l k).to
      · exact ⟨a, b⟩
      · rw [inB_false (.inr (by omega))] at h2; cases h2
    · rw [inB_false (.inl (by omega))] at h2; cases h2
theorem regime_parts {r : Rgm} (h : regimeB r = true) : allTo (segFit r.fr r.to r.segs) r.segs.length = true ∧ tilesZ r.fr r.to r.segs = 0 := by
  unfold regimeB segsB at h
  simp only [Bool.and_eq_true, decide_eq_true_eq] at h
  exact h.2.2.2.1.2
/-- In a right regime SegAt tells a segment just for the days of From .. To. -/
theorem seg_fact {r : Rgm} (h : regimeB r = true) (n : Int) : 0 ≤ segAt r.segs n ↔ (r.fr ≤ n ∧ n ≤ r.to) := by
  obtain ⟨ha, ht⟩ := regime_parts h
  constructor
  · intro h0
    rcases segAt_cases r.segs n with ⟨h1, _⟩ | ⟨k, hk, h1, h2, h3⟩
    · omega
    · have := segFit_ok (allTo_at ha hk)
      omega
  · rintro ⟨h1, h2⟩
    rcases segAt_cases r.segs n with ⟨_, h3⟩ | ⟨k, hk, h3, _⟩
    · obtain ⟨s, hs, h4, h5⟩ := tiles_has ht h1 h2
      have := h3 s hs
      unfold segHas at this
      rw [inB_true h4 h5] at this
      cases this
    · omega
theorem chTo_at {l : List Seg} {k j : Nat} (hj : j < k) (hk : k + 1 ≤ l.length) : (chTo l k).getD j 0 = (atK segK l (j + 1)).fr := by
  unfold chTo
  rw [atK_eq (by omega : j + 1 < l.length)]
  simp [List.getD, hj, List.getElem?_eq_getElem (by omega : j + 1 < l.length)]
theorem chTo_size {l : List Seg} {k : Nat} (hk : k + 1 ≤ l.length) : (chTo l k).length = k := by
  unfold chTo
  rw [List.length_map, List.length_take, List.length_drop]
  omega
theorem changes_rise {r : Rgm} (j : Nat) (hj : j + 1 < (changes r).length) : (changes r).getD j 0 < (changes r).getD (j + 1) 0 := by
  cases h : regimeB r
  · rw [changes_no h] at hj; simp at hj
  · have hl := okg_len h
    rw [changes_yes h] at hj ⊢
    rw [chTo_size (by omega)] at hj
    rw [chTo_at (by omega) (by omega), chTo_at (by omega) (by omega)]
    have hf := allTo_at (regime_parts h).1 (k := j + 1 + 1) (by omega)
    rw [segFit_succ] at hf
    simp only [Bool.and_eq_true, decide_eq_true_eq] at hf
    exact hf.2.2.2

set_option maxHeartbeats 1000000 in
theorem rising (v : Value) (xs : List Int) (w : World) (hx : xs.length ≤ 2000000) (h : IntRow w v xs) (hr : ∀ j, j + 1 < xs.length → xs.getD j 0 < xs.getD (j + 1) 0) :
    Calls Tryz.prog 42 #[v] w fun e w' => e = .returned (.bool true) ∧ Below w.heap.size w w' := by
  obtain ⟨a1, c1, rfl, H1⟩ := h
  have K1 : Hid _ := H1
  have HR := hideP hr
  clear H1 hr
  go_enter Tryz.func42, Tryz.ntmps42
  go_wp2
  go_loopw [3] (fun i wr => ∃ k : Nat, k ≤ xs.length ∧ i = .int .i64 ((k : Int) + 1) ∧ ∃ y : Later w, wr = y.w) (fun i _ => xs.length + 1 - (intOf i).toNat)
  case atStart => exact ⟨0, Nat.zero_le _, rfl, ⟨w, Below.refl _ _⟩, rfl⟩
  case round =>
    obtain ⟨k, hk, rfl, y, rfl⟩ := hrel
    by_cases hlt : (k : Int) + 1 < (xs.length : Int)
    · obtain ⟨g1, rfl, hg1, e1⟩ := K1.out k (by omega)
      obtain ⟨g2, eg, _, e2⟩ := K1.out (k + 1) (by omega)
      cases eg
      have E1 : ∀ z : Later w, z.w.cell? ⟨g1, k, none⟩ = some (.int .i64 (xs.getD k 0)) := fun z => Later.at e1 z
      have E2 : ∀ z : Later w, z.w.cell? ⟨g1, k + 1, none⟩ = some (.int .i64 (xs.getD (k + 1) 0)) := fun z => Later.at e2 z
      have hlt2 := HR.out k (by omega)
      clear e1 e2
      generalize xs.getD k 0 = x1 at *
      generalize xs.getD (k + 1) 0 = x2 at *
      have hd : decide (x2 ≤ x1) = false := decide_eq_false (by omega)
      go_wp2_with fail
      refine wp_region_later (W := w) y.below (by kernel_rfl) (by kernel_rfl) ?_
      repeat (go_big_quiet_step (fail))
      refine wpQuiet_nil ?_
      intro _ hw'
      obtain ⟨u, rfl⟩ := hw'
      go_wp2
      exact ⟨⟨k + 1, by omega, by go_num, u, rfl⟩, by simp [intOf]; omega⟩
    · go_wp2
      go_ret
      exact ⟨rfl, y.below⟩
end Go.Proofs.YtchhdoipkimbgaaGreatDoor.ctr
