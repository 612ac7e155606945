/- What a style is, and its name: the model's StyleName and the program's styleOk answer their plain functions at every number. -/
import Derived.Test.YtaakgidndjoocaaGreatDoorBaseM
import Derived.Test.YtaakgidndjoocaaGreatDoorBlkKitM
namespace Go.Proofs.YtaakgidndjoocaaGreatDoor.ctr
open Go.RowKit

def styleP (s : Int) : Prop := 0 ≤ s ∧ s ≤ 6
instance (s : Int) : Decidable (styleP s) := by unfold styleP; infer_instance
def styleB (s : Int) : Bool := decide (styleP s)
theorem styleB_true {s : Int} (h : styleP s) : styleB s = true := decide_eq_true h
theorem styleB_false {s : Int} (h : ¬ styleP s) : styleB s = false := decide_eq_false h
theorem style_cases {s : Int} (h : styleP s) : s = 0 ∨ s = 1 ∨ s = 2 ∨ s = 3 ∨ s = 4 ∨ s = 5 ∨ s = 6 := by unfold styleP at h; omega

def stys : List (List UInt8) := [[106, 97, 110], [109, 97, 114, 99, 104], [108, 97, 100, 121], [112, 105, 115, 97], [101, 97, 115, 116, 101, 114], [115, 101, 112, 116], [121, 117, 108, 101]]
def styText (s : Int) : ByteArray := ⟨(if styleP s then stys.getD s.toNat [] else []).toArray⟩
theorem styText_no {s : Int} (h : ¬ styleP s) : styText s = ⟨#[]⟩ := by unfold styText; rw [if_neg h]
theorem styText_some {s : Int} (h : styleP s) : (styText s).toList.isEmpty = false := by
  rw [ByteArray.toList_eq]
  rcases style_cases h with rfl | rfl | rfl | rfl | rfl | rfl | rfl <;> rfl
theorem styText_none {s : Int} (h : ¬ styleP s) : (styText s).toList.isEmpty = true := by rw [styText_no h, ByteArray.toList_eq]; rfl
theorem styleB_in (s : Int) : inB s 0 6 = styleB s := by
  by_cases h : styleP s
  · rw [styleB_true h, inB_true h.1 h.2]
  · rw [styleB_false h, inB_false]
    unfold styleP at h
    omega

/-- The model's list of names. -/
def styVals : Array Value := (stys.map fun s => Value.string ⟨s.toArray⟩).toArray
theorem specNames (w : World) : Calls Tryz.prog 197 #[] w fun e w' => e = .returned (.slice (some ⟨w.heap.size, 0, none⟩) 7 7) ∧ w' = w.alloc (.cells styVals 9) := by
  go_enter Tryz.func197, Tryz.ntmps197
  go_wp2
  go_ret
  exact ⟨rfl, rfl⟩

set_option maxHeartbeats 400000 in
theorem specStyleName (s : Int) (w : World) : Calls Tryz.prog 142 #[.int .i64 s] w fun e w' => e = .returned (.string (styText s)) ∧ Below w.heap.size w w' := by
  have KI := l01In s 0 6 w
  rw [styleB_in] at KI
  by_cases h : styleP s
  · rw [styleB_true h] at KI
    rcases style_cases h with rfl | rfl | rfl | rfl | rfl | rfl | rfl
    · clear h
      go_enter Tryz.func142, Tryz.ntmps142
      go_wp2_with fail
      refine KI.mono ?_
      rintro e w1 ⟨rfl, hw0⟩
      rw [hw0]
      clear hw0
      go_wp2_with fail
      refine (specNames _).mono ?_
      rintro e w1 ⟨rfl, hw⟩
      have c : w1.cell? ⟨w.heap.size, 0, none⟩ = some (.string (styText 0)) := by rw [hw]; exact (Blk.new w styVals _).cell 0 rfl
      have HB : Hid (Below w.heap.size w w1) := by unfold Hid; rw [hw]; exact (Below.refl _ _).alloc (Nat.le_refl _) _
      clear hw
      go_wp2
      go_ret
      exact ⟨rfl, HB.out⟩
    · clear h
      go_enter Tryz.func142, Tryz.ntmps142
      go_wp2_with fail
      refine KI.mono ?_
      rintro e w1 ⟨rfl, hw0⟩
      rw [hw0]
      clear hw0
      go_wp2_with fail
      refine (specNames _).mono ?_
      rintro e w1 ⟨rfl, hw⟩
      have c : w1.cell? ⟨w.heap.size, 1, none⟩ = some (.string (styText 1)) := by rw [hw]; exact (Blk.new w styVals _).cell 1 rfl
      have HB : Hid (Below w.heap.size w w1) := by unfold Hid; rw [hw]; exact (Below.refl _ _).alloc (Nat.le_refl _) _
      clear hw
      go_wp2
      go_ret
      exact ⟨rfl, HB.out⟩
    · clear h
      go_enter Tryz.func142, Tryz.ntmps142
      go_wp2_with fail
      refine KI.mono ?_
      rintro e w1 ⟨rfl, hw0⟩
      rw [hw0]
      clear hw0
      go_wp2_with fail
      refine (specNames _).mono ?_
      rintro e w1 ⟨rfl, hw⟩
      have c : w1.cell? ⟨w.heap.size, 2, none⟩ = some (.string (styText 2)) := by rw [hw]; exact (Blk.new w styVals _).cell 2 rfl
      have HB : Hid (Below w.heap.size w w1) := by unfold Hid; rw [hw]; exact (Below.refl _ _).alloc (Nat.le_refl _) _
      clear hw
      go_wp2
      go_ret
      exact ⟨rfl, HB.out⟩
    · clear h
      go_enter Tryz.func142, Tryz.ntmps142
      go_wp2_with fail
      refine KI.mono ?_
      rintro e w1 ⟨rfl, hw0⟩
      rw [hw0]
      clear hw0
      go_wp2_with fail
      refine (specNames _).mono ?_
      rintro e w1 ⟨rfl, hw⟩
      have c : w1.cell? ⟨w.heap.size, 3, none⟩ = some (.string (styText 3)) := by rw [hw]; exact (Blk.new w styVals _).cell 3 rfl
      have HB : Hid (Below w.heap.size w w1) := by unfold Hid; rw [hw]; exact (Below.refl _ _).alloc (Nat.le_refl _) _
      clear hw
      go_wp2
      go_ret
      exact ⟨rfl, HB.out⟩
    · clear h
      go_enter Tryz.func142, Tryz.ntmps142
      go_wp2_with fail
      refine KI.mono ?_
      rintro e w1 ⟨rfl, hw0⟩
      rw [hw0]
      clear hw0
      go_wp2_with fail
      refine (specNames _).mono ?_
      rintro e w1 ⟨rfl, hw⟩
      have c : w1.cell? ⟨w.heap.size, 4, none⟩ = some (.string (styText 4)) := by rw [hw]; exact (Blk.new w styVals _).cell 4 rfl
      have HB : Hid (Below w.heap.size w w1) := by unfold Hid; rw [hw]; exact (Below.refl _ _).alloc (Nat.le_refl _) _
      clear hw
      go_wp2
      go_ret
      exact ⟨rfl, HB.out⟩
    · clear h
      go_enter Tryz.func142, Tryz.ntmps142
      go_wp2_with fail
      refine KI.mono ?_
      rintro e w1 ⟨rfl, hw0⟩
      rw [hw0]
      clear hw0
      go_wp2_with fail
      refine (specNames _).mono ?_
      rintro e w1 ⟨rfl, hw⟩
      have c : w1.cell? ⟨w.heap.size, 5, none⟩ = some (.string (styText 5)) := by rw [hw]; exact (Blk.new w styVals _).cell 5 rfl
      have HB : Hid (Below w.heap.size w w1) := by unfold Hid; rw [hw]; exact (Below.refl _ _).alloc (Nat.le_refl _) _
      clear hw
      go_wp2
      go_ret
      exact ⟨rfl, HB.out⟩
    · clear h
      go_enter Tryz.func142, Tryz.ntmps142
      go_wp2_with fail
      refine KI.mono ?_
      rintro e w1 ⟨rfl, hw0⟩
      rw [hw0]
      clear hw0
      go_wp2_with fail
      refine (specNames _).mono ?_
      rintro e w1 ⟨rfl, hw⟩
      have c : w1.cell? ⟨w.heap.size, 6, none⟩ = some (.string (styText 6)) := by rw [hw]; exact (Blk.new w styVals _).cell 6 rfl
      have HB : Hid (Below w.heap.size w w1) := by unfold Hid; rw [hw]; exact (Below.refl _ _).alloc (Nat.le_refl _) _
      clear hw
      go_wp2
      go_ret
      exact ⟨rfl, HB.out⟩
  · rw [styleB_false h] at KI
    rw [styText_no h]
    clear h
    go_enter Tryz.func142, Tryz.ntmps142
    go_wp2_with fail
    refine KI.mono ?_
    rintro e w1 ⟨rfl, rfl⟩
    go_wp2
    go_ret
    exact ⟨rfl, Below.refl _ _⟩

theorem implStyleOk (s : Int) (w : World) : Calls Tryz.prog 153 #[.int .i64 s] w fun e w' => e = .returned (.bool (styleB s)) ∧ w' = w := by
  by_cases h1 : 0 ≤ s
  · by_cases h2 : s < 7
    · rw [styleB_true ⟨h1, by omega⟩]
      go_enter Tryz.func153, Tryz.ntmps153
      go_wp2
      go_ret
      exact ⟨rfl, rfl⟩
    · rw [styleB_false (by unfold styleP; omega)]
      have hd : decide (s < 7) = false := decide_eq_false h2
      go_enter Tryz.func153, Tryz.ntmps153
      go_wp2
      go_ret
      exact ⟨rfl, rfl⟩
  · rw [styleB_false (by unfold styleP; omega)]
    have hd : decide (0 ≤ s) = false := decide_eq_false h1
    go_enter Tryz.func153, Tryz.ntmps153
    go_wp2
    go_ret
    exact ⟨rfl, rfl⟩
end Go.Proofs.YtaakgidndjoocaaGreatDoor.ctr
