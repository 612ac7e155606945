/- Small laws on lists of texts that lie in a row of their own. Contract of the laws' own sameTexts: two lists alike are told alike. -/
import Derived.Test.YtaahkfdledahdaaGreatDoorCutCtr
import Derived.Laws.AppendOwn
import Derived.Handy
import Derived.BigQuiet
import Derived.Deep.QuietTactic
namespace Go.Proofs.YtaahkfdledahdaaGreatDoor.ctr
open Go.RowKit

/-- The value is a slice whose elements are these texts. -/
def StrRow (W : World) (v : Value) (xs : List ByteArray) : Prop :=
  ∃ a cap, v = .slice a xs.length cap ∧ (xs = [] ∨ ∃ g, a = some ⟨g, 0, none⟩ ∧ ∀ j, j < xs.length → W.cell? ⟨g, j, none⟩ = some (.string (xs.getD j ⟨#[]⟩)))
theorem StrRow.at {W : World} {v : Value} {xs : List ByteArray} (h : StrRow W v xs) : ∃ a cap, v = .slice a xs.length cap ∧ ∀ k, k < xs.length → ∃ g, a = some ⟨g, 0, none⟩ ∧ W.cell? ⟨g, k, none⟩ = some (.string (xs.getD k ⟨#[]⟩)) := by
  obtain ⟨a, cap, hv, hc⟩ := h
  refine ⟨a, cap, hv, fun k hk => ?_⟩
  rcases hc with rfl | ⟨g, ha, hc⟩
  · simp at hk
  · exact ⟨g, ha, hc k hk⟩

/-- A list's own row that can be written. -/
def OwnRow (W : World) (g n : Nat) : Prop := ∀ j, j < n → (∃ u, W.cell? ⟨g, j, none⟩ = some u) ∧ W.frozen? ⟨g, j, none⟩ = false
theorem mset_size (w : World) (p : Addr) (v : Value) : (w.setCell p v).heap.size = w.heap.size := by simp [World.setCell]
/-- The row g holds these texts. -/
def StrAt (W : World) (g : Nat) (xs : List ByteArray) : Prop := ∀ j, j < xs.length → W.cell? ⟨g, j, none⟩ = some (.string (xs.getD j ⟨#[]⟩))
theorem StrAt.row {W : World} {g cap : Nat} {xs : List ByteArray} (h : StrAt W g xs) : StrRow W (.slice (some ⟨g, 0, none⟩) xs.length cap) xs := ⟨_, _, rfl, .inr ⟨g, rfl, h⟩⟩
theorem StrAt.below {W W' : World} {g : Nat} {xs : List ByteArray} (h : StrAt W g xs) {B : Nat} (hb : Below B W W') (hg : g < B) : StrAt W' g xs := fun j hj => (hb.cell (p := ⟨g, j, none⟩) hg).trans (h j hj)
theorem StrAt.grown {W W' : World} {g r : Nat} {xs : List ByteArray} (h : StrAt W g xs) (hb : W.grownBy W' (some r)) (hg : g < W.heap.size) (hr : g ≠ r) : StrAt W' g xs := fun j hj =>
  (World.cell?_of_block (hb.block g hg (by intro e; exact hr (Option.some.inj e)))).trans (h j hj)
theorem own_row {W : World} {base : Nat} {v : Value} {xs : List ByteArray} (h : W.ownsRow base 9 1 v xs.length (xs.map Value.string)) (hx : xs ≠ []) :
    ∃ g cap, v = .slice (some ⟨g, 0, none⟩) xs.length cap ∧ base ≤ g ∧ g < W.heap.size ∧ StrAt W g xs ∧ OwnRow W g xs.length := by
  rcases h.2 with ⟨_, h0⟩ | ⟨g, cap, cur, hv, hb, hh, hcap, _, hsz, htake⟩
  · exact absurd (List.length_eq_zero_iff.1 h0) hx
  · subst hv
    have hlt : g < W.heap.size := (Array.getElem?_eq_some_iff.1 hh).1
    have hcell : ∀ j, j < xs.length → W.cell? ⟨g, j, none⟩ = some (.string (xs.getD j ⟨#[]⟩)) := fun j hj => by
      have := h.cellAt j (by omega)
      rw [this]
      simp [List.getD, hj]
    refine ⟨g, cap, rfl, hb, hlt, hcell, fun j hj => ⟨⟨_, hcell j hj⟩, ?_⟩⟩
    simp [World.frozen?, hh]
theorem cut_ne (s : ByteArray) (g : Int) : cut s g ≠ [] := by unfold cut; simp
end Go.Proofs.YtaahkfdledahdaaGreatDoor.ctr

namespace Go.Proofs.YtaahkfdledahdaaGreatDoor.ctr
open Go.RowKit

set_option maxHeartbeats 1000000 in
theorem sameTexts (v1 v2 : Value) (xs : List ByteArray) (w : World) (hx : xs.length ≤ 2000000) (h1 : StrRow w v1 xs) (h2 : StrRow w v2 xs) :
    Calls Tryz.prog 20 #[v1, v2] w fun e w' => e = .returned (.bool true) ∧ Below w.heap.size w w' := by
  obtain ⟨a1, c1, rfl, H1⟩ := h1.at
  obtain ⟨a2, c2, rfl, H2⟩ := h2.at
  have K1 : Hid _ := H1
  have K2 : Hid _ := H2
  clear h1 h2 H1 H2
  go_enter Tryz.func20, Tryz.ntmps20
  go_wp2
  go_loopw [5] (fun i wr => ∃ k : Nat, k ≤ xs.length ∧ i = .int .i64 (k : Int) ∧ ∃ m, wr = w.drewN m) (fun i _ => xs.length - (intOf i).toNat)
  case atStart => exact ⟨0, Nat.zero_le _, rfl, 0, rfl⟩
  case round =>
    obtain ⟨k, hk, rfl, m, rfl⟩ := hrel
    by_cases hlt : k < xs.length
    · obtain ⟨g1, rfl, e1⟩ := K1.out k hlt
      obtain ⟨g2, rfl, e2⟩ := K2.out k hlt
      generalize xs.getD k ⟨#[]⟩ = x at e1 e2
      go_wp2
      go_quiet (fail)
      go_wp2
      exact ⟨⟨k + 1, by omega, by go_num, _, rfl⟩, by simp [intOf]; omega⟩
    · go_wp2
      go_ret
      exact ⟨rfl, below_drewN (Below.refl _ _) m⟩
end Go.Proofs.YtaahkfdledahdaaGreatDoor.ctr
