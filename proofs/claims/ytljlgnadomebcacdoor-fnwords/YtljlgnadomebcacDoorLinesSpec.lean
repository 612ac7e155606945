/- Contract of the model's Lines: it answers, in new memory, the plain list lines, at every text of at most 1048576 bytes; nothing that was there turns. -/
import Derived.Test.YtljlgnadomebcacDoorRowBase
namespace Go.Proofs.YtljlgnadomebcacDoor.ctr
open Go.RowKit

def lastPart (s : ByteArray) (g : Int) : ByteArray := s.extract (startAt s g s.size) s.size
def lines (s : ByteArray) : List ByteArray := if (lastPart s 10).size = 0 then partsTo s 10 s.size else cut s 10
theorem cut_last (s : ByteArray) (g : Int) : (cut s g).length = (partsTo s g s.size).length + 1 ∧ (cut s g).getD (partsTo s g s.size).length ⟨#[]⟩ = lastPart s g := by
  unfold cut lastPart
  constructor
  · simp
  · simp [List.getD]
theorem cut_init (s : ByteArray) (g : Int) (j : Nat) (h : j < (partsTo s g s.size).length) : (cut s g).getD j ⟨#[]⟩ = (partsTo s g s.size).getD j ⟨#[]⟩ := by
  unfold cut
  simp [List.getD, List.getElem?_append_left h]
theorem lines_len (s : ByteArray) : (lines s).length ≤ s.size + 1 := by
  have := parts_len s 10 s.size
  unfold lines
  split
  · omega
  · unfold cut
    rw [List.length_append]
    simp
    omega
/-- A list in a row of its own: where it has an element, the row lies at or behind base. -/
def NewRow (base : Nat) (W : World) (v : Value) (xs : List ByteArray) : Prop :=
  ∃ g cap, v = .slice (some ⟨g, 0, none⟩) xs.length cap ∧ base ≤ g ∧ g < W.heap.size ∧ StrAt W g xs ∧ OwnRow W g xs.length
theorem empty_iff (s : ByteArray) : s.toList.isEmpty = decide (s.size = 0) := by
  rw [ByteArray.toList_eq]
  by_cases h : s.size = 0
  · simp [h]
    exact Array.eq_empty_of_size_eq_zero h
  · simp [h]
    intro e
    exact h (by show s.data.size = 0; rw [e]; rfl)

set_option maxHeartbeats 1000000 in
theorem specLines (s : ByteArray) (w : World) (hs : s.size ≤ 1048576) :
    Calls Tryd.prog 33 #[.string s] w fun e w' => ∃ v, e = .returned v ∧ NewRow w.heap.size w' v (lines s) ∧ Below w.heap.size w w' := by
  have hcl := parts_len s 10 s.size
  go_enter Tryd.func33, Tryd.ntmps33
  go_wp2_with fail
  refine (l01Cut s 10 _ hs).mono ?_
  rintro e W1 ⟨v0, rfl, hr0, hb1⟩
  obtain ⟨g0, c0, rfl, hg0, hl0, hs0, ho0⟩ := own_row hr0 (cut_ne s 10)
  have HB1 : Hid (Below w.heap.size w W1) := hb1
  have HS0 : Hid (StrAt W1 g0 (cut s 10)) := hs0
  have HO0 : Hid (OwnRow W1 g0 (cut s 10).length) := ho0
  have hcap : (cut s 10).length ≤ c0 := by
    rcases hr0.2 with ⟨h, _⟩ | ⟨g, cap, cur, h, _, _, hc, _⟩
    · cases h
    · cases h; exact hc
  obtain ⟨hl, hget⟩ := cut_last s 10
  have hc0 : W1.cell? ⟨g0, (partsTo s 10 s.size).length, none⟩ = some (.string (lastPart s 10)) := by
    rw [← hget]
    exact hs0 _ (by omega)
  clear hr0 hb1 hs0 ho0 hget
  rw [hl] at hcap ⊢
  generalize hp : (partsTo s 10 s.size).length = p at *
  have HP : Hid ((partsTo s 10 s.size).length = p) := hp
  have HL : Hid ((cut s 10).length = p + 1) := hl
  have he := empty_iff (lastPart s 10)
  clear hp hl
  by_cases hz : (lastPart s 10).size = 0
  · have he' : (lastPart s 10).toList.isEmpty = true := by rw [he]; simp [hz]
    have HN : Hid (lines s = partsTo s 10 s.size) := by unfold Hid lines; rw [if_pos hz]
    clear he hz
    go_wp2
    go_ret
    refine ⟨_, rfl, ?_, HB1.out⟩
    rw [HN.out]
    refine ⟨g0, c0, by rw [HP.out]; rfl, hg0, hl0, fun j hj => ?_, fun j hj => HO0.out j (by rw [HL.out, ← HP.out]; omega)⟩
    rw [← cut_init s 10 j hj]
    exact HS0.out j (by rw [HL.out, ← HP.out]; omega)
  · have he' : (lastPart s 10).toList.isEmpty = false := by rw [he]; simp [hz]
    have HN : Hid (lines s = cut s 10) := by unfold Hid lines; rw [if_neg hz]
    clear he hz
    go_wp2
    go_ret
    refine ⟨_, rfl, ?_, HB1.out⟩
    rw [HN.out]
    exact ⟨g0, c0, by rw [HL.out]; rfl, hg0, hl0, HS0.out, HO0.out⟩
end Go.Proofs.YtljlgnadomebcacDoor.ctr
