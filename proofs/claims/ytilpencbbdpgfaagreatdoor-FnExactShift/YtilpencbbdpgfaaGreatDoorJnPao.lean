/- Contracts of cmp.Compare and cmp.Or at ints, and of the heap's Less: one segment is ahead of another by From, then To, then its number. A row of structs of ints that lies in a block of its own with room behind it ('PRow'): what is read, what stores make of it, what append makes of it. Contract of the heap's Swap: two segments take each other's place; nothing else turns. -/
import Derived.Test.YtilpencbbdpgfaaGreatDoorJnPac
import Derived.Test.YtilpencbbdpgfaaGreatDoorJnPan
import Derived.BigRegion
import Derived.Test.YtilpencbbdpgfaaGreatDoorJnPaa
import Derived.Laws.AppendOwn
import Derived.Handy
namespace Go.Proofs.YtilpencbbdpgfaaGreatDoor.ctr
open Go.RowKit
def cmpI (a b : Int) : Int := if a < b then -1 else if b < a then 1 else 0
def or3 (x y z : Int) : Int := if x ≠ 0 then x else if y ≠ 0 then y else z
theorem cmpI_cases (a b : Int) : (a < b ∧ cmpI a b = -1) ∨ (a = b ∧ cmpI a b = 0) ∨ (b < a ∧ cmpI a b = 1) := by
  unfold cmpI
  rcases Int.lt_trichotomy a b with h | h | h
  · exact .inl ⟨h, by rw [if_pos h]⟩
  · exact .inr (.inl ⟨h, by rw [if_neg (by omega), if_neg (by omega)]⟩)
  · exact .inr (.inr ⟨h, by rw [if_neg (by omega), if_pos h]⟩)
theorem or_lt (a b : PSeg) : decide (or3 (cmpI a.s.fr b.s.fr) (cmpI a.s.to b.s.to) (cmpI a.at' b.at') < 0) = ltP a b := by
  have e : ∀ x y : Bool, (x = true ↔ y = true) → x = y := by decide
  apply e
  rw [ltP_iff, decide_eq_true_eq]
  unfold or3
  rcases cmpI_cases a.s.fr b.s.fr with ⟨h, k⟩ | ⟨h, k⟩ | ⟨h, k⟩ <;> rw [k]
  · simp; omega
  · rcases cmpI_cases a.s.to b.s.to with ⟨h', k'⟩ | ⟨h', k'⟩ | ⟨h', k'⟩ <;> rw [k']
    · simp; omega
    · rcases cmpI_cases a.at' b.at' with ⟨h2, k2⟩ | ⟨h2, k2⟩ | ⟨h2, k2⟩ <;> rw [k2] <;> simp <;> omega
    · simp; omega
  · simp; omega
def psK : IK PSeg := ⟨6, fun p => [p.s.fr, p.s.to, p.s.cal, p.s.sty, p.s.off, p.at'], fun zs => ⟨⟨zs.getD 0 0, zs.getD 1 0, zs.getD 2 0, zs.getD 3 0, zs.getD 4 0⟩, zs.getD 5 0⟩, p0, fun _ => rfl, fun zs h => by
  match zs, h with
  | [_, _, _, _, _, _], _ => rfl⟩
theorem IAt.ps {w : World} {g k : Nat} {r : PSeg} (h : IAt psK w g k r) : w.cell? ⟨g, k * 6, none⟩ = some (.int .i64 r.s.fr) ∧ w.cell? ⟨g, k * 6 + 1, none⟩ = some (.int .i64 r.s.to) ∧ w.cell? ⟨g, k * 6 + 2, none⟩ = some (.int .i64 r.s.cal) ∧ w.cell? ⟨g, k * 6 + 3, none⟩ = some (.int .i64 r.s.sty) ∧ w.cell? ⟨g, k * 6 + 4, none⟩ = some (.int .i64 r.s.off) ∧ w.cell? ⟨g, k * 6 + 5, none⟩ = some (.int .i64 r.at') :=
  ⟨h 0 _ rfl, h 1 _ rfl, h 2 _ rfl, h 3 _ rfl, h 4 _ rfl, h 5 _ rfl⟩
theorem cmpNaN (a : Int) (w : World) : Calls Tryz.prog 257 #[.int .i64 a] w fun e w' => e = .returned (.bool false) ∧ w' = w := by
  go_enter Tryz.func257, Tryz.ntmps257
  go_wp2
  go_ret
  exact ⟨rfl, rfl⟩
theorem cmpCmp (a b : Int) (w : World) : Calls Tryz.prog 433 #[.int .i64 a, .int .i64 b] w fun e w' => e = .returned (.int .i64 (cmpI a b)) ∧ w' = w := by
  unfold cmpI
  by_cases h1 : a < b
  · rw [if_pos h1]
    go_enter Tryz.func433, Tryz.ntmps433
    go_wp2_with (go_at_call 257; refine (cmpNaN _ _).mono ?_; rintro e w1 ⟨rfl, rfl⟩)
    go_ret
    exact ⟨rfl, rfl⟩
  rw [if_neg h1]
  by_cases h2 : b < a
  · rw [if_pos h2]
    go_enter Tryz.func433, Tryz.ntmps433
    go_wp2_with (go_at_call 257; refine (cmpNaN _ _).mono ?_; rintro e w1 ⟨rfl, rfl⟩)
    go_ret
    exact ⟨rfl, rfl⟩
  rw [if_neg h2]
  go_enter Tryz.func433, Tryz.ntmps433
  go_wp2_with (go_at_call 257; refine (cmpNaN _ _).mono ?_; rintro e w1 ⟨rfl, rfl⟩)
  go_ret
  exact ⟨rfl, rfl⟩
set_option maxHeartbeats 1000000 in
theorem cmpOr (x y z : Int) (g : Nat) (w : World) (h0 : w.cell? ⟨g, 0, none⟩ = some (.int .i64 x)) (h1 : w.cell? ⟨g, 1, none⟩ = some (.int .i64 y)) (h2 : w.cell? ⟨g, 2, none⟩ = some (.int .i64 z)) : Calls Tryz.prog 432 #[.slice (some ⟨g, 0, none⟩) 3 3] w fun e w' => e = .returned (.int .i64 (or3 x y z)) ∧ w' = w := by
  obtain ⟨R, hR⟩ : ∃ R, R = or3 x y z := ⟨_, rfl⟩
  have HR := hideP hR
  rw [← hR]
  clear hR
  go_enter Tryz.func432, Tryz.ntmps432
  go_wp2
  go_loopw [8] (fun i wr => ∃ k : Nat, k ≤ 3 ∧ i = .int .i64 (k : Int) ∧ Hid ((0 < k → x = 0) ∧ (1 < k → y = 0) ∧ (2 < k → z = 0)) ∧ wr = w) (fun i _ => 3 - (intOf i).toNat)
  case atStart => exact ⟨0, by omega, rfl, ⟨by omega, by omega, by omega⟩, rfl⟩
  case round =>
    obtain ⟨k, hk, rfl, HH, rfl⟩ := hrel
    have k0 := HH.out.1
    have k1 := HH.out.2.1
    have k2 := HH.out.2.2
    clear HH
    rcases (show k = 0 ∨ k = 1 ∨ k = 2 ∨ k = 3 by omega) with rfl | rfl | rfl | rfl
    · clear k0 k1 k2
      by_cases hx : x = 0
      · have HN : Hid ((0 < 1 → x = 0) ∧ (1 < 1 → y = 0) ∧ (2 < 1 → z = 0)) := ⟨fun _ => hx, by omega, by omega⟩
        have hq : (x == 0) = true := by simp [hx]
        clear hx
        go_wp2
        exact ⟨⟨1, by omega, rfl, HN.out, trivial⟩, by simp [intOf]⟩
      · have hq : (x == 0) = false := by simp [hx]
        have HN : Hid (R = x) := by unfold Hid; rw [HR.out, or3, if_pos hx]
        go_wp2
        go_ret
        exact ⟨ret_int HN.out.symm, rfl⟩
    · have HX := hideP (k0 (by omega))
      clear k0 k1 k2
      by_cases hy : y = 0
      · have HN : Hid ((0 < 2 → x = 0) ∧ (1 < 2 → y = 0) ∧ (2 < 2 → z = 0)) := ⟨fun _ => HX.out, fun _ => hy, by omega⟩
        have hq : (y == 0) = true := by simp [hy]
        clear hy
        go_wp2
        exact ⟨⟨2, by omega, rfl, HN.out, trivial⟩, by simp [intOf]⟩
      · have hq : (y == 0) = false := by simp [hy]
        have HN : Hid (R = y) := by unfold Hid; rw [HR.out, or3, if_neg (by simp [HX.out]), if_pos hy]
        go_wp2
        go_ret
        exact ⟨ret_int HN.out.symm, rfl⟩
    · have HX := hideP (k0 (by omega))
      have HY := hideP (k1 (by omega))
      clear k0 k1 k2
      have HN : Hid (R = z) := by unfold Hid; rw [HR.out, or3, if_neg (by simp [HX.out]), if_neg (by simp [HY.out])]
      by_cases hz : z = 0
      · have HM : Hid ((0 < 3 → x = 0) ∧ (1 < 3 → y = 0) ∧ (2 < 3 → z = 0)) := ⟨fun _ => HX.out, fun _ => HY.out, fun _ => hz⟩
        have hq : (z == 0) = true := by simp [hz]
        clear hz
        go_wp2
        exact ⟨⟨3, by omega, rfl, HM.out, trivial⟩, by simp [intOf]⟩
      · have hq : (z == 0) = false := by simp [hz]
        go_wp2
        go_ret
        exact ⟨ret_int HN.out.symm, rfl⟩
    · have HN : Hid (R = 0) := by unfold Hid; rw [HR.out, or3, if_neg (by simp [k0 (by omega)]), if_neg (by simp [k1 (by omega)]), k2 (by omega)]
      clear k0 k1 k2
      go_wp2
      go_ret
      exact ⟨ret_int HN.out.symm, rfl⟩
end Go.Proofs.YtilpencbbdpgfaaGreatDoor.ctr
namespace Go.Proofs.YtilpencbbdpgfaaGreatDoor.ctr
open Go.RowKit
def CIs {α : Type} (K : IK α) (cur : Array Value) (L : List α) : Prop := ∀ k, k < L.length → ∀ (j : Nat) (z : Int), (K.iv (atK K L k))[j]? = some z → cur[k * K.m + j]? = some (.int .i64 z)
def PRow {α : Type} (K : IK α) (T : TypeId) (w : World) (g cap : Nat) (L : List α) : Prop := ∃ cur, Blk w g cur T ∧ cur.size = cap * K.m ∧ L.length ≤ cap ∧ cap ≤ maxLen ∧ CIs K cur L
theorem atK_set {α : Type} {K : IK α} {L : List α} {i k : Nat} {x : α} (hi : i < L.length) : atK K (L.set i x) k = if k = i then x else atK K L k := by
  unfold atK
  simp only [List.getD, List.getElem?_set]
  by_cases e : i = k
  · subst e; simp [hi]
  · simp [e, Ne.symm e]
theorem CIs.set {α : Type} {K : IK α} {cur : Array Value} {L : List α} (h : CIs K cur L) {i cap : Nat} (x : α) (hi : i < L.length) (hc : L.length ≤ cap) (hs : cur.size = cap * K.m) : CIs K (setI cur (i * K.m) 0 (K.iv x)) (L.set i x) := by
  intro k hk j z e
  have hk' : k < L.length := by simpa using hk
  have hl : (K.iv x).length = K.m := K.len x
  have h1 : (i + 1) * K.m ≤ cap * K.m := Nat.mul_le_mul_right _ (by omega)
  have e1 : (i + 1) * K.m = i * K.m + K.m := by rw [Nat.add_mul]; omega
  rw [atK_set hi] at e
  by_cases q : k = i
  · subst q
    rw [if_pos rfl] at e
    have := setI_new (K.iv x) cur (k * K.m) 0 j z (by omega) e
    rw [Nat.add_zero] at this
    exact this
  · rw [if_neg q] at e
    have hj : j < K.m := by rw [← K.len (atK K L k)]; exact (List.getElem?_eq_some_iff.1 e).1
    rw [setI_old _ _ _ _ _ (by
      rcases Nat.lt_or_gt_of_ne q with q | q
      · left
        have : (k + 1) * K.m ≤ i * K.m := Nat.mul_le_mul_right _ q
        rw [Nat.add_mul] at this
        omega
      · right
        have : (i + 1) * K.m ≤ k * K.m := Nat.mul_le_mul_right _ q
        omega)]
    exact h k hk' j z e
theorem PRow.lt {α : Type} {K : IK α} {T : TypeId} {w : World} {g cap : Nat} {L : List α} (h : PRow K T w g cap L) : g < w.heap.size := by obtain ⟨cur, h, _⟩ := h; exact h.lt
theorem PRow.at {α : Type} {K : IK α} {T : TypeId} {w : World} {g cap : Nat} {L : List α} (h : PRow K T w g cap L) {k : Nat} (hk : k < L.length) : IAt K w g k (atK K L k) := by
  obtain ⟨cur, hB, _, _, _, hC⟩ := h
  exact fun j z e => hB.cell _ (hC k hk j z e)
theorem PRow.below {α : Type} {K : IK α} {T : TypeId} {B : Nat} {w w' : World} {g cap : Nat} {L : List α} (h : PRow K T w g cap L) (hb : Below B w w') (hg : g < B) : PRow K T w' g cap L := by
  obtain ⟨cur, hB, r⟩ := h
  exact ⟨cur, hB.below hb hg, r⟩
theorem PRow.grown {α : Type} {K : IK α} {T : TypeId} {w w' : World} {g cap : Nat} {L : List α} {r : Option Nat} (h : PRow K T w g cap L) (hb : w.grownBy w' r) (hg : some g ≠ r) : PRow K T w' g cap L := by
  obtain ⟨cur, hB, q⟩ := h
  exact ⟨cur, (hb.block g hB.lt hg).trans hB, q⟩
theorem PRow.row {α : Type} {K : IK α} {T : TypeId} {w : World} {g cap : Nat} {L : List α} (h : PRow K T w g cap L) : IRow K w (.slice (some ⟨g, 0, none⟩) L.length cap) L := by
  obtain ⟨cur, hB, _, h1, h2, hC⟩ := h
  exact ⟨_, cap, rfl, h1, h2, fun k hk => ⟨g, rfl, hB.lt, fun j z e => hB.cell _ (hC k hk j z e)⟩⟩
theorem CIs.take {α : Type} {K : IK α} {cur : Array Value} {L : List α} (h : CIs K cur L) (hm : 0 < K.m) {cap : Nat} (hc : L.length ≤ cap) (hs : cur.size = cap * K.m) : cur.toList.take (L.length * K.m) = icells K L := by
  have h1 : L.length * K.m ≤ cap * K.m := Nat.mul_le_mul_right _ hc
  apply List.ext_getElem?
  intro q
  by_cases hq : q < L.length * K.m
  · rw [List.getElem?_take, if_pos hq]
    have hk : q / K.m < L.length := Nat.div_lt_of_lt_mul (by rw [Nat.mul_comm]; exact hq)
    have hj : q % K.m < K.m := Nat.mod_lt _ hm
    have hd : q / K.m * K.m + q % K.m = q := by rw [Nat.mul_comm]; exact Nat.div_add_mod q K.m
    have e : (K.iv (atK K L (q / K.m)))[q % K.m]? = some ((K.iv (atK K L (q / K.m)))[q % K.m]'(by rw [K.len]; exact hj)) := by simp
    have a := h _ hk _ _ e
    have b := icells_at L _ _ _ hk e
    rw [hd] at a b
    rw [b]
    simpa using a
  · rw [List.getElem?_eq_none (by simp; omega), List.getElem?_eq_none (by rw [icells_len]; omega)]
theorem CIs.of_take {α : Type} {K : IK α} {cur : Array Value} {L : List α} (h : cur.toList.take (L.length * K.m) = icells K L) : CIs K cur L := by
  intro k hk j z e
  have hj : j < K.m := by rw [← K.len (atK K L k)]; exact (List.getElem?_eq_some_iff.1 e).1
  have b := icells_at L k j z hk e
  have hq : k * K.m + j < L.length * K.m := by
    have : (k + 1) * K.m ≤ L.length * K.m := Nat.mul_le_mul_right _ hk
    rw [Nat.add_mul] at this
    omega
  rw [← h, List.getElem?_take, if_pos hq] at b
  simpa using b
theorem PRow.owns {α : Type} {K : IK α} {T : TypeId} {w : World} {g cap base : Nat} {L : List α} (h : PRow K T w g cap L) (hm : 0 < K.m) (hg : base ≤ g) : w.ownsRow base T K.m (.slice (some ⟨g, 0, none⟩) L.length cap) L.length (icells K L) := by
  obtain ⟨cur, hB, hs, h1, h2, hC⟩ := h
  exact ⟨icells_len L, .inr ⟨g, cap, cur, rfl, hg, hB, h1, h2, hs, hC.take hm h1 hs⟩⟩
theorem PRow.of_owns {α : Type} {K : IK α} {T : TypeId} {w : World} {base : Nat} {v : Value} {L : List α} (h : w.ownsRow base T K.m v L.length (icells K L)) (h0 : 0 < L.length) : ∃ g cap, v = .slice (some ⟨g, 0, none⟩) L.length cap ∧ base ≤ g ∧ PRow K T w g cap L := by
  obtain ⟨_, ⟨_, h⟩ | ⟨g, cap, cur, rfl, hg, hB, h1, h2, hs, hC⟩⟩ := h
  · omega
  · exact ⟨g, cap, rfl, hg, cur, hB, hs, h1, h2, CIs.of_take hC⟩
theorem icells_app {α : Type} {K : IK α} : ∀ (l l' : List α), icells K (l ++ l') = icells K l ++ icells K l'
  | [], l' => rfl
  | a :: l, l' => by rw [List.cons_append, icells, icells, icells_app l l', List.append_assoc]
theorem icell_one {α : Type} {K : IK α} {l : List α} : ∀ u ∈ icells K l, u.oneCell' = true := by
  induction l with
  | nil => simp [icells]
  | cons a l ih =>
    intro u hu
    rcases List.mem_append.1 hu with h | h
    · obtain ⟨z, _, rfl⟩ := List.mem_map.1 h
      rfl
    · exact ih u h
theorem PRow.shorter {α : Type} {K : IK α} {T : TypeId} {w : World} {g cap : Nat} {L : List α} (h : PRow K T w g cap L) (n : Nat) : PRow K T w g cap (L.take n) := by
  obtain ⟨cur, hB, hs, h1, h2, hC⟩ := h
  refine ⟨cur, hB, hs, by simp; omega, h2, fun k hk j z e => hC k (by simp at hk; omega) j z ?_⟩
  simp at hk
  have hkn : k < n := by omega
  have : atK K (L.take n) k = atK K L k := by simp [atK, List.getD, hkn]
  rw [← this]
  exact e
end Go.Proofs.YtilpencbbdpgfaaGreatDoor.ctr
namespace Go.Proofs.YtilpencbbdpgfaaGreatDoor.ctr
open Go.RowKit
def putI (w : World) (g b : Nat) : Nat → List Int → World
  | _, [] => w
  | j, z :: zs => putI (w.setCell ⟨g, b + j, none⟩ (.int .i64 z)) g b (j + 1) zs
theorem putI_blk : ∀ (zs : List Int) (w : World) (g b j : Nat) (cur : Array Value) (T : TypeId), Blk w g cur T → Blk (putI w g b j zs) g (setI cur b j zs) T
  | [], _, _, _, _, _, _, h => h
  | _ :: zs, _, g, b, j, _, T, h => putI_blk zs _ g b (j + 1) _ T (h.set (b + j) _)
theorem putI_grown : ∀ (zs : List Int) (w : World) (g b j : Nat), w.grownBy (putI w g b j zs) (some g)
  | [], _, _, _, _ => ⟨rfl, rfl, rfl, Nat.le_refl _, fun _ _ _ => rfl⟩
  | z :: zs, w, g, b, j => by
    have h := putI_grown zs (w.setCell ⟨g, b + j, none⟩ (.int .i64 z)) g b (j + 1)
    refine ⟨h.os, h.tape, h.output, Nat.le_trans (by rw [World.size_setCell]; exact Nat.le_refl _) h.size, fun k hk hn => ?_⟩
    rw [putI, h.block k (by rw [World.size_setCell]; exact hk) hn]
    exact Below.heap_setCell w _ _ k (fun e => hn (by rw [e]))
theorem grown_two {w w1 w2 : World} {r : Option Nat} (h : w.grownBy w1 r) (k : w1.grownBy w2 r) : w.grownBy w2 r := ⟨k.os.trans h.os, k.tape.trans h.tape, k.output.trans h.output, Nat.le_trans h.size k.size, fun j hj hn => (k.block j (Nat.lt_of_lt_of_le hj h.size) hn).trans (h.block j hj hn)⟩
theorem PRow.put {α : Type} {K : IK α} {T : TypeId} {w : World} {g cap : Nat} {L : List α} (h : PRow K T w g cap L) {i : Nat} (hi : i < L.length) (x : α) : PRow K T (putI w g (i * K.m) 0 (K.iv x)) g cap (L.set i x) := by
  obtain ⟨cur, hB, hs, h1, h2, hC⟩ := h
  exact ⟨_, putI_blk _ w g _ 0 cur T hB, by rw [setI_size, hs], by simpa using h1, h2, hC.set x hi h1 hs⟩
theorem PRow.swapped {w : World} {g cap i j : Nat} {T : TypeId} {L : List PSeg} (h : PRow psK T w g cap L) (hi : i < L.length) (hj : j < L.length) : PRow psK T (putI (putI w g (i * 6) 0 (psK.iv (atK psK L j))) g (j * 6) 0 (psK.iv (atK psK L i))) g cap (swP L i j) ∧ w.grownBy (putI (putI w g (i * 6) 0 (psK.iv (atK psK L j))) g (j * 6) 0 (psK.iv (atK psK L i))) (some g) :=
  ⟨(h.put hi (atK psK L j)).put (by simpa using hj) (atK psK L i), grown_two (putI_grown _ _ _ _ _) (putI_grown _ _ _ _ _)⟩
theorem end_void {P : Program} {fn : Func} {R : Ending → World → Prop} {a : Act} {w : World} (hr : fn.results = #[]) (hd : a.defers = []) (hR : R (.returned (.tuple #[])) w) : bodyPost P fn R .normal a w := ⟨hd, .tuple #[], by simp [results, hr], hR⟩
theorem swap_world (w : World) (g i j : Nat) (a b : PSeg) : ((((((((((((w.setCell ⟨g, i * 6, none⟩ (.int .i64 b.s.fr)).setCell ⟨g, i * 6 + 1, none⟩ (.int .i64 b.s.to)).setCell ⟨g, i * 6 + 2, none⟩ (.int .i64 b.s.cal)).setCell ⟨g, i * 6 + 3, none⟩ (.int .i64 b.s.sty)).setCell ⟨g, i * 6 + 4, none⟩ (.int .i64 b.s.off)).setCell ⟨g, i * 6 + 5, none⟩ (.int .i64 b.at')).setCell ⟨g, j * 6, none⟩ (.int .i64 a.s.fr)).setCell ⟨g, j * 6 + 1, none⟩ (.int .i64 a.s.to)).setCell ⟨g, j * 6 + 2, none⟩ (.int .i64 a.s.cal)).setCell ⟨g, j * 6 + 3, none⟩ (.int .i64 a.s.sty)).setCell ⟨g, j * 6 + 4, none⟩ (.int .i64 a.s.off)).setCell ⟨g, j * 6 + 5, none⟩ (.int .i64 a.at')) = putI (putI w g (i * 6) 0 (psK.iv b)) g (j * 6) 0 (psK.iv a) := rfl
theorem PRow.drew {α : Type} {K : IK α} {T : TypeId} {w : World} {g cap : Nat} {L : List α} (h : PRow K T w g cap L) : PRow K T w.drew g cap L := h
theorem grown_drew {w w1 : World} {r : Option Nat} (h : w.grownBy w1 r) : w.grownBy w1.drew r := ⟨h.os, h.tape, h.output, h.size, h.block⟩
set_option maxHeartbeats 1000000 in
theorem heapSwap (g cap i j : Nat) (L : List PSeg) (w : World) (hP : PRow psK 337 w g cap L) (hi : i < L.length) (hj : j < L.length) :
    Calls Tryz.prog 431 #[.slice (some ⟨g, 0, none⟩) L.length cap, .int .i64 (i : Int), .int .i64 (j : Int)] w fun e w' => e = .returned (.tuple #[]) ∧ PRow psK 337 w' g cap (swP L i j) ∧ w.grownBy w' (some g) := by
  obtain ⟨a0, a1, a2, a3, a4, a5⟩ := (hP.at hi).ps
  obtain ⟨b0, b1, b2, b3, b4, b5⟩ := (hP.at hj).ps
  have hf : ∀ k, w.frozen? ⟨g, k, none⟩ = false := by obtain ⟨cur, hB, _⟩ := hP; exact hB.thaw
  have hc : L.length ≤ cap := by obtain ⟨cur, _, _, h, _⟩ := hP; exact h
  have hm : cap ≤ maxLen := by obtain ⟨cur, _, _, _, h, _⟩ := hP; exact h
  unfold maxLen at hm
  have HP := hideP hP
  clear hP
  by_cases hij : i = j
  · subst hij
    clear b0 b1 b2 b3 b4 b5
    have HS := hideP (HP.out.swapped hi hi)
    generalize atK psK L i = a at *
    go_enter Tryz.func431, Tryz.ntmps431
    go_wp2_with fail
    go_region
    all_goals go_wp2_with fail
    all_goals rw [swap_world]
    all_goals exact end_void Tryz.results431 rfl ⟨rfl, HS.out.1.drew, grown_drew HS.out.2⟩
  · have HS := hideP (HP.out.swapped hi hj)
    generalize atK psK L i = a at *
    generalize atK psK L j = b at *
    go_enter Tryz.func431, Tryz.ntmps431
    go_wp2_with fail
    go_region
    all_goals go_wp2_with fail
    all_goals rw [swap_world]
    all_goals exact end_void Tryz.results431 rfl ⟨rfl, HS.out.1.drew, grown_drew HS.out.2⟩
end Go.Proofs.YtilpencbbdpgfaaGreatDoor.ctr
