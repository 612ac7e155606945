/- Contracts of both DateText: at every date the calendar's name, a blank and the numbers with hyphens; the empty text at what is no date. -/
import Derived.Test.YteebgakbeoiflaaDoorSolOkImpl
import Derived.Test.YteebgakbeoiflaaDoorDecImpl
import Derived.Lib.ItoaLen
namespace Go.Proofs.YteebgakbeoiflaaDoor.ctr
open Go.RowKit

def decN (n : Int) : ByteArray := ⟨(Lib.itoa n).toArray⟩
def dateTx (c y m d : Int) : ByteArray := if dateOk c y m d = true then calText c ++ ⟨#[32]⟩ ++ decN y ++ ⟨#[45]⟩ ++ decN m ++ ⟨#[45]⟩ ++ decN d else ⟨#[]⟩
abbrev PowN (w : World) : Prop := Lib.TabIs Tryd.prog w "internal/strconv.uint64pow10" .u64 Lib.pow10Tab
theorem PowN.later {w w1 : World} (h : PowN w) (hb : Below w.heap.size w w1) : PowN w1 := kit.tab_below h hb (g := 2) (by kernel_rfl)
theorem calT_small (c : Int) : (calText c).size ≤ 3 := by
  unfold calText
  repeat' split
  all_goals decide
theorem decN_small {n : Int} (h0 : -9223372036854775808 ≤ n) (h1 : n ≤ 9223372036854775807) : (decN n).size ≤ 21 := by
  have h := Lib.itoa_length_le n h0 h1
  show (Lib.itoa n).toArray.size ≤ 21
  simpa using h
theorem date_nums {c y m d : Int} (h : dateOk c y m d = true) : 0 ≤ y ∧ y ≤ 3000 ∧ 0 ≤ m ∧ m ≤ 12 ∧ 0 ≤ d ∧ d ≤ 31 := by
  have hP : dateP c y m d := of_decide_eq_true h
  have h1 := dateP_month hP
  have h2 := dateP_day hP
  have h3 := hP.2.1
  have h4 := hP.2.2.1
  omega

end Go.Proofs.YteebgakbeoiflaaDoor.ctr
