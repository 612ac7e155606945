/- A row of structs of ints that lies in a block of its own with room behind it ('PRow'): what is read, what stores make of it, what append makes of it. -/
import Derived.Test.YtaakgidndjoocaaGreatDoorSegA
import Derived.Laws.AppendOwn
import Derived.Handy
namespace Go.Proofs.YtaakgidndjoocaaGreatDoor.ctr
open Go.RowKit

/-- The cells' array holds these, whatever lies behind. -/
def CIs {α : Type} (K : IK α) (cur : Array Value) (L : List α) : Prop := ∀ k, k < L.length → ∀ (j : Nat) (z : Int), (K.iv (atK K L k))[j]? = some z → cur[k * K.m + j]? = some (.int .i64 z)
def PRow {α : Type} (K : IK α) (T : TypeId) (w : World) (g cap : Nat) (L : List α) : Prop := ∃ cur, Blk w g cur T ∧ cur.size = cap * K.m ∧ L.length ≤ cap ∧ cap ≤ maxLen ∧ CIs K cur L
theorem atK_set {α : Type} {K : IK α} {L : List α} {i k : Nat} {x : α} (hi : i < L.length) : atK K (L.set i x) k = if k = i then x else atK K L k := by
  unfold atK
  simp only [List.getD, List.getElem?_set]
  by_cases e : i = k
  · subst e; simp [hi]
  · simp [e, Ne.symm e]
theorem CIs.set {α : Type} {K : IK α} {cur : Array Value} {L : List α} (h : CIs K cur L) {i cap : Nat} (x : α) (hi : i < L.length) (hc : L.length ≤ cap) (hs : cur.size = cap * K.m) : CIs K (setI cur (i * K.m) 0 (K.iv x)) (L.set i x) := by
  intro k hk j z e
  have hk' : k < L.length := by simpa using hk
  have hl : (K.iv x).length = K.m := K.len x
  have h1 : (i + 1) * K.m ≤ cap * K.m := Nat.mul_le_mul_right _ (by omega)
  have e1 : (i + 1) * K.m = i * K.m + K.m := by rw [Nat.add_mul]; omega
  rw [atK_set hi] at e
  by_cases q : k = i
  · subst q
    rw [if_pos rfl] at e
    have := setI_new (K.iv x) cur (k * K.m) 0 j z (by omega) e
    rw [Nat.add_zero] at this
    exact this
  · rw [if_neg q] at e
    have hj : j < K.m := by rw [← K.len (atK K L k)]; exact (List.getElem?_eq_some_iff.1 e).1
    rw [setI_old _ _ _ _ _ (by
      rcases Nat.lt_or_gt_of_ne q with q | q
      · left
        have : (k + 1) * K.m ≤ i * K.m := Nat.mul_le_mul_right _ q
        rw [Nat.add_mul] at this
        omega
      · right
        have : (i + 1) * K.m ≤ k * K.m := Nat.mul_le_mul_right _ q
        omega)]
    exact h k hk' j z e
theorem PRow.lt {α : Type} {K : IK α} {T : TypeId} {w : World} {g cap : Nat} {L : List α} (h : PRow K T w g cap L) : g < w.heap.size := by obtain ⟨cur, h, _⟩ := h; exact h.lt
theorem PRow.at {α : Type} {K : IK α} {T : TypeId} {w : World} {g cap : Nat} {L : List α} (h : PRow K T w g cap L) {k : Nat} (hk : k < L.length) : IAt K w g k (atK K L k) := by
  obtain ⟨cur, hB, _, _, _, hC⟩ := h
  exact fun j z e => hB.cell _ (hC k hk j z e)
theorem PRow.below {α : Type} {K : IK α} {T : TypeId} {B : Nat} {w w' : World} {g cap : Nat} {L : List α} (h : PRow K T w g cap L) (hb : Below B w w') (hg : g < B) : PRow K T w' g cap L := by
  obtain ⟨cur, hB, r⟩ := h
  exact ⟨cur, hB.below hb hg, r⟩
theorem PRow.grown {α : Type} {K : IK α} {T : TypeId} {w w' : World} {g cap : Nat} {L : List α} {r : Option Nat} (h : PRow K T w g cap L) (hb : w.grownBy w' r) (hg : some g ≠ r) : PRow K T w' g cap L := by
  obtain ⟨cur, hB, q⟩ := h
  exact ⟨cur, (hb.block g hB.lt hg).trans hB, q⟩
theorem PRow.row {α : Type} {K : IK α} {T : TypeId} {w : World} {g cap : Nat} {L : List α} (h : PRow K T w g cap L) : IRow K w (.slice (some ⟨g, 0, none⟩) L.length cap) L := by
  obtain ⟨cur, hB, _, h1, h2, hC⟩ := h
  exact ⟨_, cap, rfl, h1, h2, fun k hk => ⟨g, rfl, hB.lt, fun j z e => hB.cell _ (hC k hk j z e)⟩⟩
theorem CIs.take {α : Type} {K : IK α} {cur : Array Value} {L : List α} (h : CIs K cur L) (hm : 0 < K.m) {cap : Nat} (hc : L.length ≤ cap) (hs : cur.size = cap * K.m) : cur.toList.take (L.length * K.m) = icells K L := by
  have h1 : L.length * K.m ≤ cap * K.m := Nat.mul_le_mul_right _ hc
  apply List.ext_getElem?
  intro q
  by_cases hq : q < L.length * K.m
  · rw [List.getElem?_take, if_pos hq]
    have hk : q / K.m < L.length := Nat.div_lt_of_lt_mul (by rw [Nat.mul_comm]; exact hq)
    have hj : q % K.m < K.m := Nat.mod_lt _ hm
    have hd : q / K.m * K.m + q % K.m = q := by rw [Nat.mul_comm]; exact Nat.div_add_mod q K.m
    have e : (K.iv (atK K L (q / K.m)))[q % K.m]? = some ((K.iv (atK K L (q / K.m)))[q % K.m]'(by rw [K.len]; exact hj)) := by simp
    have a := h _ hk _ _ e
    have b := icells_at L _ _ _ hk e
    rw [hd] at a b
    rw [b]
    simpa using a
  · rw [List.getElem?_eq_none (by simp; omega), List.getElem?_eq_none (by rw [icells_len]; omega)]
theorem CIs.of_take {α : Type} {K : IK α} {cur : Array Value} {L : List α} (h : cur.toList.take (L.length * K.m) = icells K L) : CIs K cur L := by
  intro k hk j z e
  have hj : j < K.m := by rw [← K.len (atK K L k)]; exact (List.getElem?_eq_some_iff.1 e).1
  have b := icells_at L k j z hk e
  have hq : k * K.m + j < L.length * K.m := by
    have : (k + 1) * K.m ≤ L.length * K.m := Nat.mul_le_mul_right _ hk
    rw [Nat.add_mul] at this
    omega
  rw [← h, List.getElem?_take, if_pos hq] at b
  simpa using b
theorem PRow.owns {α : Type} {K : IK α} {T : TypeId} {w : World} {g cap base : Nat} {L : List α} (h : PRow K T w g cap L) (hm : 0 < K.m) (hg : base ≤ g) : w.ownsRow base T K.m (.slice (some ⟨g, 0, none⟩) L.length cap) L.length (icells K L) := by
  obtain ⟨cur, hB, hs, h1, h2, hC⟩ := h
  exact ⟨icells_len L, .inr ⟨g, cap, cur, rfl, hg, hB, h1, h2, hs, hC.take hm h1 hs⟩⟩
theorem PRow.of_owns {α : Type} {K : IK α} {T : TypeId} {w : World} {base : Nat} {v : Value} {L : List α} (h : w.ownsRow base T K.m v L.length (icells K L)) (h0 : 0 < L.length) : ∃ g cap, v = .slice (some ⟨g, 0, none⟩) L.length cap ∧ base ≤ g ∧ PRow K T w g cap L := by
  obtain ⟨_, ⟨_, h⟩ | ⟨g, cap, cur, rfl, hg, hB, h1, h2, hs, hC⟩⟩ := h
  · omega
  · exact ⟨g, cap, rfl, hg, cur, hB, hs, h1, h2, CIs.of_take hC⟩
theorem icells_app {α : Type} {K : IK α} : ∀ (l l' : List α), icells K (l ++ l') = icells K l ++ icells K l'
  | [], l' => rfl
  | a :: l, l' => by rw [List.cons_append, icells, icells, icells_app l l', List.append_assoc]
theorem icell_one {α : Type} {K : IK α} {l : List α} : ∀ u ∈ icells K l, u.oneCell' = true := by
  induction l with
  | nil => simp [icells]
  | cons a l ih =>
    intro u hu
    rcases List.mem_append.1 hu with h | h
    · obtain ⟨z, _, rfl⟩ := List.mem_map.1 h
      rfl
    · exact ih u h
theorem PRow.shorter {α : Type} {K : IK α} {T : TypeId} {w : World} {g cap : Nat} {L : List α} (h : PRow K T w g cap L) (n : Nat) : PRow K T w g cap (L.take n) := by
  obtain ⟨cur, hB, hs, h1, h2, hC⟩ := h
  refine ⟨cur, hB, hs, by simp; omega, h2, fun k hk j z e => hC k (by simp at hk; omega) j z ?_⟩
  simp at hk
  have hkn : k < n := by omega
  have : atK K (L.take n) k = atK K L k := by simp [atK, List.getD, hkn]
  rw [← this]
  exact e
end Go.Proofs.YtaakgidndjoocaaGreatDoor.ctr
