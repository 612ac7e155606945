/- Contract of the model's DateOk: it answers its plain function at every argument. -/
import Derived.Test.YthpfpijkgggodaaDoorSolMonth
import Derived.Test.YthpfpijkgggodaaDoorLaterKit
namespace Go.Proofs.YthpfpijkgggodaaDoor.ctr
open Go.RowKit

theorem dateOk_true {c y m d : Int} (h : dateP c y m d) : dateOk c y m d = true := decide_eq_true h
theorem dateOk_false {c y m d : Int} (h : ¬ dateP c y m d) : dateOk c y m d = false := decide_eq_false h

end Go.Proofs.YthpfpijkgggodaaDoor.ctr
