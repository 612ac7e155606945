/- What a law is told of its []byte, and the contract of the laws' own big. -/
import Derived.Test.YtifekkehbaegiaaGreatDoorDrawCtr
import Derived.Test.YtifekkehbaegiaaGreatDoorVarsKit
namespace Go.Proofs.YtifekkehbaegiaaGreatDoor.ctr
open Go.RowKit Go.ChangeShapes

theorem code_of {W : World} {a : Option Addr} {len cap : Nat} {zs : List Int} (h : kit.IsRow .u8 W a len cap zs) : CodeAt W.heap.size W a len ∧ len ≤ maxLen := by
  rcases h with ⟨rfl, rfl, rfl, rfl⟩ | ⟨x, rfl, hl, hm, hz, hcell, hwz⟩
  · exact ⟨.inl rfl, Nat.zero_le _⟩
  · refine ⟨?_, Nat.le_trans hl hm⟩
    by_cases h0 : len = 0
    · exact .inl h0
    · obtain ⟨b, off, spot⟩ := x
      have hc := hcell 0 (by omega)
      have hspot : spot = none := by simpa [Addr.add] using World.cell?_spot hc
      subst hspot
      have hadd : ∀ i : Nat, (⟨b, off, none⟩ : Addr).add i = ⟨b, off + i, none⟩ := fun i => by unfold Addr.add; split <;> simp_all
      have hblk : b < W.heap.size := by
        rw [hadd] at hc
        by_cases hb : b < W.heap.size
        · exact hb
        · simp [World.cell?, Array.getElem?_eq_none (Nat.le_of_not_lt hb)] at hc
      refine .inr ⟨b, off, fun i => zs.getD i 0, rfl, hblk, fun i hi => by rw [← hadd]; exact hcell i (by omega), fun i hi => ?_⟩
      have hmem : zs.getD i 0 ∈ zs := by
        rw [List.getD, List.getElem?_eq_getElem (show i < zs.length by omega)]
        exact List.getElem_mem _
      exact bounds_u8 (hwz _ hmem)
theorem CodeAt.up {W W' : World} {a : Option Addr} {len : Nat} (h : CodeAt W.heap.size W a len) (hb : Below W.heap.size W W') : CodeAt W'.heap.size W' a len := by
  rcases h with h | ⟨b, off, zs, ha, hlt, hc, hz⟩
  · exact .inl h
  · exact .inr ⟨b, off, zs, ha, Nat.lt_of_lt_of_le hlt hb.size, fun i hi => by rw [hb.cell (p := ⟨b, off + i, none⟩) hlt]; exact hc i hi, hz⟩

theorem big_ (w : World) (a : Option Addr) (len cap : Nat) : Calls Tryz.prog 5 #[.slice a len cap] w fun e w' => e = .returned (.bool (decide ((1048576 : Int) < (len : Int)))) ∧ w' = w := by
  go_enter Tryz.func5, Tryz.ntmps5
  go_wp2
  go_ret
  exact ⟨rfl, rfl⟩
end Go.Proofs.YtifekkehbaegiaaGreatDoor.ctr
