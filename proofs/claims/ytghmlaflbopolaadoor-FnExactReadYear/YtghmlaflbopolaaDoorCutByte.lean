/- Contract of strings.Cut at one sign: at every text of at most 1048576 bytes it answers what is ahead of the first such sign and what is behind it, or the whole text. -/
import Derived.Test.YtghmlaflbopolaaDoorTexPlain
import Derived.Test.YtghmlaflbopolaaDoorShelf
import Derived.PlainAid
namespace Go.Proofs.YtghmlaflbopolaaDoor.ctr
open Go.RowKit

theorem run_ahead (s : ByteArray) (p : Nat) (hp : p < s.size) (w : World) : (Instr.slice 9 (.string s) none (some (.int .i64 (p : Int))) none).run Tryd.prog w = .ok (.string (s.extract 0 p)) w :=
  (run_slice_string_h (P := Tryd.prog) (w := w) (t := 9) (s := s) (ht := Tryd.underlying9) .i64 (p : Int) (by omega) (by omega)).trans (by rw [show ((p : Int)).toNat = p from by omega])
theorem run_behind (s : ByteArray) (p : Nat) (hp : p < s.size) (w : World) : (Instr.slice 9 (.string s) (some (.int .i64 ((p : Int) + 1))) none none).run Tryd.prog w = .ok (.string (s.extract (p + 1) s.size)) w :=
  (run_slice_string_l (P := Tryd.prog) (w := w) (t := 9) (s := s) (ht := Tryd.underlying9) .i64 ((p : Int) + 1) (by omega) (by omega)).trans (by rw [show ((p : Int) + 1).toNat = p + 1 from by omega])
set_option maxHeartbeats 1000000 in
theorem cutHit (s : ByteArray) (g : UInt8) (p : Nat) (w : World) (hs : s.size ≤ 1048576) (hp : p < s.size) (hix : Lib.indexByte s.data.toList g = p) : Calls Tryd.prog 103 #[.string s, .string ⟨#[g]⟩] w fun e w' => e = .returned (.tuple #[.string (s.extract 0 p), .string (s.extract (p + 1) s.size), .bool true]) ∧ Below w.heap.size w w' := by
  have KI : ∀ W, Calls Tryd.prog 112 #[.string s, .string ⟨#[g]⟩] W fun e w' => e = .returned (.int .i64 (p : Int)) ∧ w' = W := fun W => by rw [← hix]; exact Tryd.stringslite_Index_one s g W
  have h1 := run_ahead s p hp
  have h2 := run_behind s p hp
  have hwr : IntKind.i64.wrap ((p : Int) + 1) = (p : Int) + 1 := by rw [PlainAid.i64_is]; unfold wrap64; omega
  have hle : (p : Int) < (s.size : Int) := by omega
  have hle2 : (s.size : Int) ≤ 1048576 := by omega
  clear hix
  go_enter Tryd.func103, Tryd.ntmps103
  go_wp2_with fail
  refine (KI _).mono ?_
  rintro e w1 ⟨rfl, rfl⟩
  go_wp2
  go_region
  all_goals go_wp2
  all_goals go_ret3
  all_goals exact ⟨rfl, (Below.refl _ _).drew⟩
set_option maxHeartbeats 1000000 in
theorem cutMiss (s : ByteArray) (g : UInt8) (w : World) (hix : Lib.indexByte s.data.toList g = -1) : Calls Tryd.prog 103 #[.string s, .string ⟨#[g]⟩] w fun e w' => e = .returned (.tuple #[.string s, .string ⟨#[]⟩, .bool false]) ∧ Below w.heap.size w w' := by
  have KI : ∀ W, Calls Tryd.prog 112 #[.string s, .string ⟨#[g]⟩] W fun e w' => e = .returned (.int .i64 (-1)) ∧ w' = W := fun W => by rw [← hix]; exact Tryd.stringslite_Index_one s g W
  clear hix
  go_enter Tryd.func103, Tryd.ntmps103
  go_wp2_with fail
  refine (KI _).mono ?_
  rintro e w1 ⟨rfl, rfl⟩
  go_wp2
  go_ret3
  exact ⟨rfl, Below.refl _ _⟩
set_option maxHeartbeats 1000000 in
theorem cutFace (s a b : ByteArray) (g : UInt8) (f : Bool) (w : World) (h : Calls Tryd.prog 103 #[.string s, .string ⟨#[g]⟩] w fun e w' => e = .returned (.tuple #[.string a, .string b, .bool f]) ∧ Below w.heap.size w w') : Calls Tryd.prog 76 #[.string s, .string ⟨#[g]⟩] w fun e w' => e = .returned (.tuple #[.string a, .string b, .bool f]) ∧ Below w.heap.size w w' := by
  go_enter Tryd.func76, Tryd.ntmps76
  go_wp2_with fail
  refine h.mono ?_
  rintro e w1 ⟨rfl, hb⟩
  go_wp2
  go_ret3
  exact ⟨rfl, hb⟩
end Go.Proofs.YtghmlaflbopolaaDoor.ctr
