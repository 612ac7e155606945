/- Contracts of the model's MonthOf and of the program's MonthOf: each answers the plain function monOf, at every text, where the program's table of months holds its texts. -/
import Derived.Test.YtoofnjccpoeomaaGreatDoorMonCtr
namespace Go.Proofs.YtoofnjccpoeomaaGreatDoor.ctr
open Go.RowKit

/-! ### MonthOf -/
def monB (j : Nat) : ByteArray := ⟨(mons.getD j []).toArray⟩
def monOf (s : ByteArray) : Int := if (mons.findIdx fun l => l == s.data.toList) < 12 then ((mons.findIdx fun l => l == s.data.toList : Nat) : Int) + 1 else 0
theorem monB_ne {s : ByteArray} {j : Nat} (h : monB j ≠ s) : (mons.getD j [] == s.data.toList) = false := by
  rw [beq_eq_false_iff_ne]
  intro e
  apply h
  unfold monB
  rw [e]
theorem mons_len : mons.length = 12 := rfl
theorem mons_get {k : Nat} (h : k < mons.length) : mons[k] = mons.getD k [] := by simp [List.getD, h]
theorem monOf_hit {s : ByteArray} {k : Nat} (hk : k < 12) (h : monB k = s) (hn : ∀ j, j < k → monB j ≠ s) : monOf s = (k : Int) + 1 := by
  have hl : k < mons.length := by rw [mons_len]; exact hk
  have e : (mons.findIdx fun l => l == s.data.toList) = k := by
    rw [List.findIdx_eq hl]
    refine ⟨?_, fun j hj => ?_⟩
    · rw [mons_get hl, ← h]
      simp [monB]
    · rw [mons_get (Nat.lt_trans hj hl)]
      exact monB_ne (hn j hj)
  unfold monOf
  rw [e, if_pos hk]
theorem monOf_miss {s : ByteArray} (hn : ∀ j, j < 12 → monB j ≠ s) : monOf s = 0 := by
  have e : (mons.findIdx fun l => l == s.data.toList) = mons.length := by
    rw [List.findIdx_eq_length]
    intro l hl
    obtain ⟨j, hj, rfl⟩ := List.getElem_of_mem hl
    rw [mons_get hj]
    exact monB_ne (hn j (by rw [mons_len] at hj; exact hj))
  unfold monOf
  rw [e, mons_len]
  rfl
theorem monthText_monB (j : Nat) (h : j < 12) : monthText ((j : Int) + 1) = monB j := by
  unfold monthText monB
  rw [if_pos (by omega)]
  have : ((j : Int) + 1 - 1).toNat = j := by omega
  rw [this]

set_option maxHeartbeats 400000 in
theorem specMonthOf (s : ByteArray) (w : World) :
    Calls Tryz.prog 56 #[.string s] w fun e w' => e = .returned (.int .i64 (monOf s)) ∧ Below w.heap.size w w' := by
  go_enter Tryz.func56, Tryz.ntmps56
  go_wp2
  go_loopw [3] (fun i wr => ∃ k : Nat, k ≤ 12 ∧ i = .int .i64 ((k : Int) + 1) ∧ (∀ j, j < k → monB j ≠ s) ∧ Below w.heap.size w wr) (fun i _ => 13 - (intOf i).toNat)
  case atStart => exact ⟨0, by omega, rfl, by omega, Below.refl _ _⟩
  case round =>
    obtain ⟨k, hk, rfl, hn, hb⟩ := hrel
    have HN : Hid (∀ j, j < k → monB j ≠ s) := hn
    clear hn
    by_cases hlt : k < 12
    · cases hq : ((monthText ((k : Int) + 1)).toList == s.toList)
      · have HN' : Hid (∀ j, j < k + 1 → monB j ≠ s) := by
          intro j hj
          by_cases e : j = k
          · subst e
            rw [← monthText_monB j hlt]
            exact str_ne hq
          · exact HN.out j (by omega)
        go_wp2_with (go_at_call 19; refine (specMonthName _ _).mono ?_; rintro e w' ⟨rfl, hb'⟩)
        exact ⟨⟨k + 1, by omega, by go_num, HN'.out, hb.trans (hb'.mono hb.size)⟩, by simp [intOf]; omega⟩
      · have HF : Hid (monOf s = (k : Int) + 1) := monOf_hit hlt (by rw [← monthText_monB k hlt]; exact str_eq hq) HN.out
        go_wp2_with (go_at_call 19; refine (specMonthName _ _).mono ?_; rintro e w' ⟨rfl, hb'⟩)
        go_ret
        exact ⟨ret_int HF.out.symm, hb.trans (hb'.mono hb.size)⟩
    · have HF : Hid (monOf s = 0) := monOf_miss (fun j hj => HN.out j (by omega))
      go_wp2_with fail
      go_ret
      exact ⟨ret_int HF.out.symm, hb⟩

/-- The whole table as a value. -/
def monVals : Array Value := (mons.map fun s => Value.string ⟨s.toArray⟩).toArray

set_option maxRecDepth 100000 in
theorem mon_index (k : Nat) (h : k < 12) (w : World) : (Instr.index 104 (.agg monVals) (.int .i64 (k : Int))).run Tryz.prog w = .ok (.string (monB k)) w := by
  have : k = 0 ∨ k = 1 ∨ k = 2 ∨ k = 3 ∨ k = 4 ∨ k = 5 ∨ k = 6 ∨ k = 7 ∨ k = 8 ∨ k = 9 ∨ k = 10 ∨ k = 11 := by omega
  rcases this with rfl | rfl | rfl | rfl | rfl | rfl | rfl | rfl | rfl | rfl | rfl | rfl <;> rfl
theorem mon_size : (Tryz.prog.info? 104).map (·.size) = some monVals.size := by kernel_rfl

set_option maxHeartbeats 400000 in
theorem implMonthOf (s : ByteArray) (w : World) (hT : kit.StrIs Tryz.prog w "loop.example/g00638/impl.monthNames" mons) :
    Calls Tryz.prog 64 #[.string s] w fun e w' => e = .returned (.int .i64 (monOf s)) ∧ w' = w := by
  obtain ⟨tt, fr, hh⟩ := hT.heap (g := 0) (by kernel_rfl)
  have HG : Hid (w.heap[0]? = some (.cells monVals tt fr)) := hh
  clear hT hh
  go_enter Tryz.func64, Tryz.ntmps64
  go_wp2_with (refine wpList_load_row rfl 104 _ rfl 0 rfl tt monVals fr _ HG.out Tryz.underlying104 rfl mon_size ?_)
  go_loop [6] (fun i => ∃ k : Nat, k ≤ 12 ∧ i = .int .i64 (k : Int) ∧ (∀ j, j < k → monB j ≠ s)) (fun i => 12 - (intOf i).toNat)
  case atStart => exact ⟨0, by omega, rfl, by omega⟩
  case round =>
    obtain ⟨k, hk, rfl, hn⟩ := hrel
    have HN : Hid (∀ j, j < k → monB j ≠ s) := hn
    clear hn
    by_cases hlt : k < 12
    · have hi := mon_index k hlt
      cases hq : ((monB k).toList == s.toList)
      · have HN' : Hid (∀ j, j < k + 1 → monB j ≠ s) := by
          intro j hj
          by_cases e : j = k
          · subst e
            exact str_ne hq
          · exact HN.out j (by omega)
        go_wp2
        exact ⟨⟨k + 1, by omega, by go_num, HN'.out⟩, by simp [intOf]; omega⟩
      · have HF : Hid (monOf s = (k : Int) + 1) := monOf_hit hlt (str_eq hq) HN.out
        go_wp2
        go_ret
        exact ⟨ret_int HF.out.symm, rfl⟩
    · have HF : Hid (monOf s = 0) := monOf_miss (fun j hj => HN.out j (by omega))
      go_wp2
      go_ret
      exact ⟨ret_int HF.out.symm, rfl⟩
end Go.Proofs.YtoofnjccpoeomaaGreatDoor.ctr
