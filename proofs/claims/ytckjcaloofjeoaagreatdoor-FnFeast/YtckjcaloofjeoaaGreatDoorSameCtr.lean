/- Contract of the laws' own sameTexts: two lists alike are told alike. -/
import Derived.Test.YtckjcaloofjeoaaGreatDoorRowBase
import Derived.Handy
import Derived.BigQuiet
import Derived.Deep.QuietTactic
namespace Go.Proofs.YtckjcaloofjeoaaGreatDoor.ctr
open Go.RowKit

set_option maxHeartbeats 1000000 in
theorem sameTexts (v1 v2 : Value) (xs : List ByteArray) (w : World) (hx : xs.length ≤ 2000000) (h1 : StrRow w v1 xs) (h2 : StrRow w v2 xs) :
    Calls Tryz.prog 20 #[v1, v2] w fun e w' => e = .returned (.bool true) ∧ Below w.heap.size w w' := by
  obtain ⟨a1, c1, rfl, H1⟩ := h1.at
  obtain ⟨a2, c2, rfl, H2⟩ := h2.at
  have K1 : Hid _ := H1
  have K2 : Hid _ := H2
  clear h1 h2 H1 H2
  go_enter Tryz.func20, Tryz.ntmps20
  go_wp2
  go_loopw [5] (fun i wr => ∃ k : Nat, k ≤ xs.length ∧ i = .int .i64 (k : Int) ∧ ∃ m, wr = w.drewN m) (fun i _ => xs.length - (intOf i).toNat)
  case atStart => exact ⟨0, Nat.zero_le _, rfl, 0, rfl⟩
  case round =>
    obtain ⟨k, hk, rfl, m, rfl⟩ := hrel
    by_cases hlt : k < xs.length
    · obtain ⟨g1, rfl, e1⟩ := K1.out k hlt
      obtain ⟨g2, rfl, e2⟩ := K2.out k hlt
      generalize xs.getD k ⟨#[]⟩ = x at e1 e2
      go_wp2
      go_quiet (fail)
      go_wp2
      exact ⟨⟨k + 1, by omega, by go_num, _, rfl⟩, by simp [intOf]; omega⟩
    · go_wp2
      go_ret
      exact ⟨rfl, below_drewN (Below.refl _ _) m⟩
end Go.Proofs.YtckjcaloofjeoaaGreatDoor.ctr
