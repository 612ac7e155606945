/- Contracts of both ReadDate: at every two texts the date that is told, or none. -/
import Derived.Test.YtioiaefjkmgmdaaDoorSplPlain
import Derived.Test.YtioiaefjkmgmdaaDoorSolOkImpl
import Derived.Test.YtioiaefjkmgmdaaDoorReadImpl
import Derived.Test.YtioiaefjkmgmdaaDoorSplImpl
import Derived.Test.YtioiaefjkmgmdaaDoorDatTx
import Derived.Test.YtioiaefjkmgmdaaDoorSolDate
import Derived.Deep.RegionHeld
import Derived.Deep.DeepCutAuto
namespace Go.Proofs.YtioiaefjkmgmdaaDoor.ctr
open Go.RowKit

/-- The calendar of a name; -1 for none. -/
def calNo (s : ByteArray) : Int := if calText 0 = s then 0 else if calText 1 = s then 1 else -1

theorem implCalOf (s : ByteArray) (w : World) : Calls Tryd.prog 24 #[.string s] w fun e w' => e = .returned (.int .i64 (calNo s)) ∧ w' = w := by
  have hx0 : ∀ W, (Instr.index 49 (.agg #[.int .i64 0, .int .i64 1]) (.int .i64 0)).run Tryd.prog W = .ok (.int .i64 0) W := fun W => by simp [Instr.index, run_underlying Tryd.underlying49, asIntOf, go_sem, part]
  have hx1 : ∀ W, (Instr.index 49 (.agg #[.int .i64 0, .int .i64 1]) (.int .i64 1)).run Tryd.prog W = .ok (.int .i64 1) W := fun W => by simp [Instr.index, run_underlying Tryd.underlying49, asIntOf, go_sem, part]
  have K0 := fun W => implCalName 0 W
  have K1 := fun W => implCalName 1 W
  obtain ⟨R, hR⟩ : ∃ R, R = calNo s := ⟨_, rfl⟩
  rw [← hR]
  unfold calNo at hR
  generalize calText 0 = t0 at *
  generalize calText 1 = t1 at *
  have HR := hideP hR
  clear hR
  by_cases h0 : t0 = s
  · have e0 : (t0.toList == s.toList) = true := by rw [h0]; simp
    have HE : Hid (R = 0) := by unfold Hid; rw [HR.out, if_pos h0]
    clear h0 HR
    go_enter Tryd.func24, Tryd.ntmps24
    go_wp2_with fail
    go_loopw [6] (fun i wr => i = .int .i64 0 ∧ wr = w) (fun _ _ => 0)
    case atStart => exact ⟨rfl, rfl⟩
    case round =>
      obtain ⟨rfl, rfl⟩ := hrel
      go_wp2_with fail
      refine (K0 _).mono ?_
      rintro e w1 ⟨rfl, rfl⟩
      go_wp2
      go_ret
      exact ⟨ret_int HE.out.symm, rfl⟩
  have e0 : (t0.toList == s.toList) = false := by
    cases h : (t0.toList == s.toList)
    · rfl
    · exact absurd (str_eq h) h0
  by_cases h1 : t1 = s
  · have e1 : (t1.toList == s.toList) = true := by rw [h1]; simp
    have HE : Hid (R = 1) := by unfold Hid; rw [HR.out, if_neg h0, if_pos h1]
    clear h0 h1 HR
    go_enter Tryd.func24, Tryd.ntmps24
    go_wp2_with fail
    go_loopw [6] (fun i wr => (i = .int .i64 0 ∨ i = .int .i64 1) ∧ wr = w) (fun i _ => 2 - (intOf i).toNat)
    case atStart => exact ⟨.inl rfl, rfl⟩
    case round =>
      obtain ⟨rfl | rfl, rfl⟩ := hrel
      · go_wp2_with fail
        refine (K0 _).mono ?_
        rintro e w1 ⟨rfl, rfl⟩
        go_wp2
        exact ⟨⟨.inr rfl, by trivial⟩, by simp [intOf]⟩
      · go_wp2_with fail
        refine (K1 _).mono ?_
        rintro e w1 ⟨rfl, rfl⟩
        go_wp2
        go_ret
        exact ⟨ret_int HE.out.symm, rfl⟩
  · have e1 : (t1.toList == s.toList) = false := by
      cases h : (t1.toList == s.toList)
      · rfl
      · exact absurd (str_eq h) h1
    have HE : Hid (R = -1) := by unfold Hid; rw [HR.out, if_neg h0, if_neg h1]
    clear h0 h1 HR
    go_enter Tryd.func24, Tryd.ntmps24
    go_wp2_with fail
    go_loopw [6] (fun i wr => (i = .int .i64 0 ∨ i = .int .i64 1 ∨ i = .int .i64 2) ∧ wr = w) (fun i _ => 2 - (intOf i).toNat)
    case atStart => exact ⟨.inl rfl, rfl⟩
    case round =>
      obtain ⟨rfl | rfl | rfl, rfl⟩ := hrel
      · go_wp2_with fail
        refine (K0 _).mono ?_
        rintro e w1 ⟨rfl, rfl⟩
        go_wp2
        exact ⟨⟨.inr (.inl rfl), by trivial⟩, by simp [intOf]⟩
      · go_wp2_with fail
        refine (K1 _).mono ?_
        rintro e w1 ⟨rfl, rfl⟩
        go_wp2
        exact ⟨⟨.inr (.inr rfl), by trivial⟩, by simp [intOf]⟩
      · go_wp2
        go_ret
        exact ⟨ret_int HE.out.symm, rfl⟩

theorem specCalOf (s : ByteArray) (w : World) : Calls Tryd.prog 21 #[.string s] w fun e w' => e = .returned (.int .i64 (calNo s)) ∧ w' = w := by
  have K0 := fun W => specCalName 0 W
  have K1 := fun W => specCalName 1 W
  obtain ⟨R, hR⟩ : ∃ R, R = calNo s := ⟨_, rfl⟩
  rw [← hR]
  unfold calNo at hR
  generalize calText 0 = t0 at *
  generalize calText 1 = t1 at *
  have HR := hideP hR
  clear hR
  by_cases h0 : t0 = s
  · have e0 : (t0.toList == s.toList) = true := by rw [h0]; simp
    have HE : Hid (R = 0) := by unfold Hid; rw [HR.out, if_pos h0]
    clear h0 HR
    go_enter Tryd.func21, Tryd.ntmps21
    go_wp2_with fail
    go_loopw [3] (fun i wr => i = .int .i64 0 ∧ wr = w) (fun _ _ => 0)
    case atStart => exact ⟨rfl, rfl⟩
    case round =>
      obtain ⟨rfl, rfl⟩ := hrel
      go_wp2_with fail
      refine (K0 _).mono ?_
      rintro e w1 ⟨rfl, rfl⟩
      go_wp2
      go_ret
      exact ⟨ret_int HE.out.symm, rfl⟩
  have e0 : (t0.toList == s.toList) = false := by
    cases h : (t0.toList == s.toList)
    · rfl
    · exact absurd (str_eq h) h0
  by_cases h1 : t1 = s
  · have e1 : (t1.toList == s.toList) = true := by rw [h1]; simp
    have HE : Hid (R = 1) := by unfold Hid; rw [HR.out, if_neg h0, if_pos h1]
    clear h0 h1 HR
    go_enter Tryd.func21, Tryd.ntmps21
    go_wp2_with fail
    go_loopw [3] (fun i wr => (i = .int .i64 0 ∨ i = .int .i64 1) ∧ wr = w) (fun i _ => 2 - (intOf i).toNat)
    case atStart => exact ⟨.inl rfl, rfl⟩
    case round =>
      obtain ⟨rfl | rfl, rfl⟩ := hrel
      · go_wp2_with fail
        refine (K0 _).mono ?_
        rintro e w1 ⟨rfl, rfl⟩
        go_wp2
        exact ⟨⟨.inr rfl, by trivial⟩, by simp [intOf]⟩
      · go_wp2_with fail
        refine (K1 _).mono ?_
        rintro e w1 ⟨rfl, rfl⟩
        go_wp2
        go_ret
        exact ⟨ret_int HE.out.symm, rfl⟩
  · have e1 : (t1.toList == s.toList) = false := by
      cases h : (t1.toList == s.toList)
      · rfl
      · exact absurd (str_eq h) h1
    have HE : Hid (R = -1) := by unfold Hid; rw [HR.out, if_neg h0, if_neg h1]
    clear h0 h1 HR
    go_enter Tryd.func21, Tryd.ntmps21
    go_wp2_with fail
    go_loopw [3] (fun i wr => (i = .int .i64 0 ∨ i = .int .i64 1 ∨ i = .int .i64 2) ∧ wr = w) (fun i _ => 2 - (intOf i).toNat)
    case atStart => exact ⟨.inl rfl, rfl⟩
    case round =>
      obtain ⟨rfl | rfl | rfl, rfl⟩ := hrel
      · go_wp2_with fail
        refine (K0 _).mono ?_
        rintro e w1 ⟨rfl, rfl⟩
        go_wp2
        exact ⟨⟨.inr (.inl rfl), by trivial⟩, by simp [intOf]⟩
      · go_wp2_with fail
        refine (K1 _).mono ?_
        rintro e w1 ⟨rfl, rfl⟩
        go_wp2
        exact ⟨⟨.inr (.inr rfl), by trivial⟩, by simp [intOf]⟩
      · go_wp2
        go_ret
        exact ⟨ret_int HE.out.symm, rfl⟩

def rdN (s : ByteArray) (k : Nat) : Int := readDec ((cut s 45).getD k ⟨#[]⟩)
/-- Is a date told? -/
def rdOk (c s : ByteArray) : Bool := decide ((cut s 45).length = 3) && dateOk (calNo c) (rdN s 0) (rdN s 1) (rdN s 2)
/-- What ReadDate answers. -/
def rdR (c s : ByteArray) : Value := if rdOk c s = true then .tuple #[.agg #[.int .i64 (calNo c), .int .i64 (rdN s 0), .int .i64 (rdN s 1), .int .i64 (rdN s 2)], .bool true] else .tuple #[.agg z4, .bool false]
theorem rdR_short {c s : ByteArray} (h : (cut s 45).length ≠ 3) : rdR c s = .tuple #[.agg z4, .bool false] := by
  unfold rdR rdOk
  rw [decide_eq_false h, Bool.false_and, if_neg (by simp)]
theorem rdR_three {c s : ByteArray} (h : (cut s 45).length = 3) : rdR c s = if dateOk (calNo c) (rdN s 0) (rdN s 1) (rdN s 2) = true then .tuple #[.agg #[.int .i64 (calNo c), .int .i64 (rdN s 0), .int .i64 (rdN s 1), .int .i64 (rdN s 2)], .bool true] else .tuple #[.agg z4, .bool false] := by
  unfold rdR rdOk
  rw [decide_eq_true h, Bool.true_and]
/-- Three parts of a text, and where they lie. -/
theorem cells_of (W : World) (L : List ByteArray) (N : Nat) (t : TypeId) {i : Nat} (hi : i < L.length) : (W.alloc (.cells (Lib.cellsOf L N) t)).cell? ⟨W.heap.size, i, none⟩ = some (.string (L.getD i ⟨#[]⟩)) := by
  refine (Blk.new W (Lib.cellsOf L N) t).cell i ?_
  unfold Lib.cellsOf
  simp [List.getElem?_append_left, hi, List.getD]
theorem size_cal (c : ByteArray) : -1 ≤ calNo c ∧ calNo c ≤ 1 := by
  unfold calNo
  repeat' split
  all_goals omega
end Go.Proofs.YtioiaefjkmgmdaaDoor.ctr
