/- Contract of strings.Cut at one sign: at every text of at most 1048576 bytes it answers what is ahead of the first such sign and what is behind it, or the whole text. -/
import Derived.Test.YtioiaefjkmgmdaaDoorTexPlain
import Derived.Test.YtioiaefjkmgmdaaDoorShelf
import Derived.PlainAid
namespace Go.Proofs.YtioiaefjkmgmdaaDoor.ctr
open Go.RowKit

theorem run_ahead (s : ByteArray) (p : Nat) (hp : p < s.size) (w : World) : (Instr.slice 9 (.string s) none (some (.int .i64 (p : Int))) none).run Tryd.prog w = .ok (.string (s.extract 0 p)) w :=
  (run_slice_string_h (P := Tryd.prog) (w := w) (t := 9) (s := s) (ht := Tryd.underlying9) .i64 (p : Int) (by omega) (by omega)).trans (by rw [show ((p : Int)).toNat = p from by omega])
theorem run_behind (s : ByteArray) (p : Nat) (hp : p < s.size) (w : World) : (Instr.slice 9 (.string s) (some (.int .i64 ((p : Int) + 1))) none none).run Tryd.prog w = .ok (.string (s.extract (p + 1) s.size)) w :=
  (run_slice_string_l (P := Tryd.prog) (w := w) (t := 9) (s := s) (ht := Tryd.underlying9) .i64 ((p : Int) + 1) (by omega) (by omega)).trans (by rw [show ((p : Int) + 1).toNat = p + 1 from by omega])
end Go.Proofs.YtioiaefjkmgmdaaDoor.ctr
