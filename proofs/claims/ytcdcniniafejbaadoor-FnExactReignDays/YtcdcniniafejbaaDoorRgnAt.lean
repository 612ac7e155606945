/- Contracts of both ReignAt and of the program's hasDay: the number of the first reign that has the day, -1 for none. -/
import Derived.Test.YtcdcniniafejbaaDoorRgnList
import Derived.Deep.RegionWith
namespace Go.Proofs.YtcdcniniafejbaaDoor.ctr
open Go.RowKit

def atR (l : List Rgn) (n : Int) : Int := rfind (hasD n) l
theorem implHasDay (s : ByteArray) (f t n : Int) (w : World) : Calls Tryd.prog 43 #[.agg #[.string s, .int .i64 f, .int .i64 t], .int .i64 n] w fun e w' => e = .returned (.bool (inB n f t)) ∧ Below w.heap.size w w' := by
  by_cases h1 : f ≤ n
  · by_cases h2 : n ≤ t
    · rw [inB_true h1 h2]
      go_enter Tryd.func43, Tryd.ntmps43
      go_wp2
      go_ret
      exact ⟨rfl, (Below.refl _ _).alloc (Nat.le_refl _) _⟩
    · rw [inB_false (.inr (by omega))]
      have hd : decide (n ≤ t) = false := decide_eq_false h2
      go_enter Tryd.func43, Tryd.ntmps43
      go_wp2
      go_ret
      exact ⟨rfl, (Below.refl _ _).alloc (Nat.le_refl _) _⟩
  · rw [inB_false (.inl (by omega))]
    have hd : decide (f ≤ n) = false := decide_eq_false h1
    go_enter Tryd.func43, Tryd.ntmps43
    go_wp2
    go_ret
    exact ⟨rfl, (Below.refl _ _).alloc (Nat.le_refl _) _⟩

end Go.Proofs.YtcdcniniafejbaaDoor.ctr
