/- Contracts of the model's and of the program's StyleName and StyleOf: each answers its plain function at every argument, where the program's table of styles holds its texts. -/
import Derived.Test.YtghmlaflbopolaaDoorVarsKit
import Derived.Test.YtghmlaflbopolaaDoorStyPlain
import Derived.Test.YtghmlaflbopolaaDoorBlkKit
namespace Go.Proofs.YtghmlaflbopolaaDoor.ctr
open Go.RowKit

def stys : List (List UInt8) := [[106, 97, 110], [109, 97, 114, 99, 104], [108, 97, 100, 121], [112, 105, 115, 97], [101, 97, 115, 116, 101, 114], [115, 101, 112, 116], [121, 117, 108, 101]]
def styText (s : Int) : ByteArray := ⟨(if styleP s then stys.getD s.toNat [] else []).toArray⟩
theorem styText_no {s : Int} (h : ¬ styleP s) : styText s = ⟨#[]⟩ := by unfold styText; rw [if_neg h]
theorem styText_some {s : Int} (h : styleP s) : (styText s).toList.isEmpty = false := by
  rw [ByteArray.toList_eq]
  rcases style_cases h with rfl | rfl | rfl | rfl | rfl | rfl | rfl <;> rfl
theorem styText_none {s : Int} (h : ¬ styleP s) : (styText s).toList.isEmpty = true := by rw [styText_no h, ByteArray.toList_eq]; rfl
theorem styleB_in (s : Int) : inB s 0 6 = styleB s := by
  by_cases h : styleP s
  · rw [styleB_true h, inB_true h.1 h.2]
  · rw [styleB_false h, inB_false]
    unfold styleP at h
    omega

/-- The model's list of names. -/
def styVals : Array Value := (stys.map fun s => Value.string ⟨s.toArray⟩).toArray
theorem specNames (w : World) : Calls Tryd.prog 64 #[] w fun e w' => e = .returned (.slice (some ⟨w.heap.size, 0, none⟩) 7 7) ∧ w' = w.alloc (.cells styVals 9) := by
  go_enter Tryd.func64, Tryd.ntmps64
  go_wp2
  go_ret
  exact ⟨rfl, rfl⟩

set_option maxHeartbeats 400000 in
theorem specStyleName (s : Int) (w : World) : Calls Tryd.prog 33 #[.int .i64 s] w fun e w' => e = .returned (.string (styText s)) ∧ Below w.heap.size w w' := by
  have KI := l01In s 0 6 w
  rw [styleB_in] at KI
  by_cases h : styleP s
  · rw [styleB_true h] at KI
    rcases style_cases h with rfl | rfl | rfl | rfl | rfl | rfl | rfl
    · clear h
      go_enter Tryd.func33, Tryd.ntmps33
      go_wp2_with fail
      refine KI.mono ?_
      rintro e w1 ⟨rfl, hw0⟩
      rw [hw0]
      clear hw0
      go_wp2_with fail
      refine (specNames _).mono ?_
      rintro e w1 ⟨rfl, hw⟩
      have c : w1.cell? ⟨w.heap.size, 0, none⟩ = some (.string (styText 0)) := by rw [hw]; exact (Blk.new w styVals _).cell 0 rfl
      have HB : Hid (Below w.heap.size w w1) := by unfold Hid; rw [hw]; exact (Below.refl _ _).alloc (Nat.le_refl _) _
      clear hw
      go_wp2
      go_ret
      exact ⟨rfl, HB.out⟩
    · clear h
      go_enter Tryd.func33, Tryd.ntmps33
      go_wp2_with fail
      refine KI.mono ?_
      rintro e w1 ⟨rfl, hw0⟩
      rw [hw0]
      clear hw0
      go_wp2_with fail
      refine (specNames _).mono ?_
      rintro e w1 ⟨rfl, hw⟩
      have c : w1.cell? ⟨w.heap.size, 1, none⟩ = some (.string (styText 1)) := by rw [hw]; exact (Blk.new w styVals _).cell 1 rfl
      have HB : Hid (Below w.heap.size w w1) := by unfold Hid; rw [hw]; exact (Below.refl _ _).alloc (Nat.le_refl _) _
      clear hw
      go_wp2
      go_ret
      exact ⟨rfl, HB.out⟩
    · clear h
      go_enter Tryd.func33, Tryd.ntmps33
      go_wp2_with fail
      refine KI.mono ?_
      rintro e w1 ⟨rfl, hw0⟩
      rw [hw0]
      clear hw0
      go_wp2_with fail
      refine (specNames _).mono ?_
      rintro e w1 ⟨rfl, hw⟩
      have c : w1.cell? ⟨w.heap.size, 2, none⟩ = some (.string (styText 2)) := by rw [hw]; exact (Blk.new w styVals _).cell 2 rfl
      have HB : Hid (Below w.heap.size w w1) := by unfold Hid; rw [hw]; exact (Below.refl _ _).alloc (Nat.le_refl _) _
      clear hw
      go_wp2
      go_ret
      exact ⟨rfl, HB.out⟩
    · clear h
      go_enter Tryd.func33, Tryd.ntmps33
      go_wp2_with fail
      refine KI.mono ?_
      rintro e w1 ⟨rfl, hw0⟩
      rw [hw0]
      clear hw0
      go_wp2_with fail
      refine (specNames _).mono ?_
      rintro e w1 ⟨rfl, hw⟩
      have c : w1.cell? ⟨w.heap.size, 3, none⟩ = some (.string (styText 3)) := by rw [hw]; exact (Blk.new w styVals _).cell 3 rfl
      have HB : Hid (Below w.heap.size w w1) := by unfold Hid; rw [hw]; exact (Below.refl _ _).alloc (Nat.le_refl _) _
      clear hw
      go_wp2
      go_ret
      exact ⟨rfl, HB.out⟩
    · clear h
      go_enter Tryd.func33, Tryd.ntmps33
      go_wp2_with fail
      refine KI.mono ?_
      rintro e w1 ⟨rfl, hw0⟩
      rw [hw0]
      clear hw0
      go_wp2_with fail
      refine (specNames _).mono ?_
      rintro e w1 ⟨rfl, hw⟩
      have c : w1.cell? ⟨w.heap.size, 4, none⟩ = some (.string (styText 4)) := by rw [hw]; exact (Blk.new w styVals _).cell 4 rfl
      have HB : Hid (Below w.heap.size w w1) := by unfold Hid; rw [hw]; exact (Below.refl _ _).alloc (Nat.le_refl _) _
      clear hw
      go_wp2
      go_ret
      exact ⟨rfl, HB.out⟩
    · clear h
      go_enter Tryd.func33, Tryd.ntmps33
      go_wp2_with fail
      refine KI.mono ?_
      rintro e w1 ⟨rfl, hw0⟩
      rw [hw0]
      clear hw0
      go_wp2_with fail
      refine (specNames _).mono ?_
      rintro e w1 ⟨rfl, hw⟩
      have c : w1.cell? ⟨w.heap.size, 5, none⟩ = some (.string (styText 5)) := by rw [hw]; exact (Blk.new w styVals _).cell 5 rfl
      have HB : Hid (Below w.heap.size w w1) := by unfold Hid; rw [hw]; exact (Below.refl _ _).alloc (Nat.le_refl _) _
      clear hw
      go_wp2
      go_ret
      exact ⟨rfl, HB.out⟩
    · clear h
      go_enter Tryd.func33, Tryd.ntmps33
      go_wp2_with fail
      refine KI.mono ?_
      rintro e w1 ⟨rfl, hw0⟩
      rw [hw0]
      clear hw0
      go_wp2_with fail
      refine (specNames _).mono ?_
      rintro e w1 ⟨rfl, hw⟩
      have c : w1.cell? ⟨w.heap.size, 6, none⟩ = some (.string (styText 6)) := by rw [hw]; exact (Blk.new w styVals _).cell 6 rfl
      have HB : Hid (Below w.heap.size w w1) := by unfold Hid; rw [hw]; exact (Below.refl _ _).alloc (Nat.le_refl _) _
      clear hw
      go_wp2
      go_ret
      exact ⟨rfl, HB.out⟩
  · rw [styleB_false h] at KI
    rw [styText_no h]
    clear h
    go_enter Tryd.func33, Tryd.ntmps33
    go_wp2_with fail
    refine KI.mono ?_
    rintro e w1 ⟨rfl, rfl⟩
    go_wp2
    go_ret
    exact ⟨rfl, Below.refl _ _⟩

theorem implStyleOk (s : Int) (w : World) : Calls Tryd.prog 45 #[.int .i64 s] w fun e w' => e = .returned (.bool (styleB s)) ∧ w' = w := by
  by_cases h1 : 0 ≤ s
  · by_cases h2 : s < 7
    · rw [styleB_true ⟨h1, by omega⟩]
      go_enter Tryd.func45, Tryd.ntmps45
      go_wp2
      go_ret
      exact ⟨rfl, rfl⟩
    · rw [styleB_false (by unfold styleP; omega)]
      have hd : decide (s < 7) = false := decide_eq_false h2
      go_enter Tryd.func45, Tryd.ntmps45
      go_wp2
      go_ret
      exact ⟨rfl, rfl⟩
  · rw [styleB_false (by unfold styleP; omega)]
    have hd : decide (0 ≤ s) = false := decide_eq_false h1
    go_enter Tryd.func45, Tryd.ntmps45
    go_wp2
    go_ret
    exact ⟨rfl, rfl⟩

/-- The program's table of styles holds its texts. -/
abbrev TabS (w : World) : Prop := kit.StrIs Tryd.prog w "loop.example/g00638/impl.styleNames" stys
theorem TabS.later {w w1 : World} (h : TabS w) (hb : Below w.heap.size w w1) : TabS w1 := kit.StrIs.below h hb (g := 0) (by kernel_rfl)
theorem implStyleName (s : Int) (w : World) (hT : TabS w) : Calls Tryd.prog 32 #[.int .i64 s] w fun e w' => e = .returned (.string (styText s)) ∧ w' = w := by
  have KI := implStyleOk s w
  by_cases h : styleP s
  · rw [styleB_true h] at KI
    rcases style_cases h with rfl | rfl | rfl | rfl | rfl | rfl | rfl
    · have c := hT.cell (g := 0) (by kernel_rfl) 0 (by decide)
      clear hT h
      go_enter Tryd.func32, Tryd.ntmps32
      go_wp2_with fail
      refine KI.mono ?_
      rintro e w1 ⟨rfl, rfl⟩
      go_wp2
      go_ret
      exact ⟨rfl, rfl⟩
    · have c := hT.cell (g := 0) (by kernel_rfl) 1 (by decide)
      clear hT h
      go_enter Tryd.func32, Tryd.ntmps32
      go_wp2_with fail
      refine KI.mono ?_
      rintro e w1 ⟨rfl, rfl⟩
      go_wp2
      go_ret
      exact ⟨rfl, rfl⟩
    · have c := hT.cell (g := 0) (by kernel_rfl) 2 (by decide)
      clear hT h
      go_enter Tryd.func32, Tryd.ntmps32
      go_wp2_with fail
      refine KI.mono ?_
      rintro e w1 ⟨rfl, rfl⟩
      go_wp2
      go_ret
      exact ⟨rfl, rfl⟩
    · have c := hT.cell (g := 0) (by kernel_rfl) 3 (by decide)
      clear hT h
      go_enter Tryd.func32, Tryd.ntmps32
      go_wp2_with fail
      refine KI.mono ?_
      rintro e w1 ⟨rfl, rfl⟩
      go_wp2
      go_ret
      exact ⟨rfl, rfl⟩
    · have c := hT.cell (g := 0) (by kernel_rfl) 4 (by decide)
      clear hT h
      go_enter Tryd.func32, Tryd.ntmps32
      go_wp2_with fail
      refine KI.mono ?_
      rintro e w1 ⟨rfl, rfl⟩
      go_wp2
      go_ret
      exact ⟨rfl, rfl⟩
    · have c := hT.cell (g := 0) (by kernel_rfl) 5 (by decide)
      clear hT h
      go_enter Tryd.func32, Tryd.ntmps32
      go_wp2_with fail
      refine KI.mono ?_
      rintro e w1 ⟨rfl, rfl⟩
      go_wp2
      go_ret
      exact ⟨rfl, rfl⟩
    · have c := hT.cell (g := 0) (by kernel_rfl) 6 (by decide)
      clear hT h
      go_enter Tryd.func32, Tryd.ntmps32
      go_wp2_with fail
      refine KI.mono ?_
      rintro e w1 ⟨rfl, rfl⟩
      go_wp2
      go_ret
      exact ⟨rfl, rfl⟩
  · rw [styleB_false h] at KI
    rw [styText_no h]
    clear h hT
    go_enter Tryd.func32, Tryd.ntmps32
    go_wp2_with fail
    refine KI.mono ?_
    rintro e w1 ⟨rfl, rfl⟩
    go_wp2
    go_ret
    exact ⟨rfl, rfl⟩

def styB (j : Nat) : ByteArray := ⟨(stys.getD j []).toArray⟩
def styOf (s : ByteArray) : Int := if (stys.findIdx fun l => l == s.data.toList) < 7 then ((stys.findIdx fun l => l == s.data.toList : Nat) : Int) else -1
theorem styB_ne {s : ByteArray} {j : Nat} (h : styB j ≠ s) : (stys.getD j [] == s.data.toList) = false := by
  rw [beq_eq_false_iff_ne]
  intro e
  apply h
  unfold styB
  rw [e]
theorem stys_len : stys.length = 7 := rfl
theorem stys_get {k : Nat} (h : k < stys.length) : stys[k] = stys.getD k [] := by simp [List.getD, h]
theorem styOf_hit {s : ByteArray} {k : Nat} (hk : k < 7) (h : styB k = s) (hn : ∀ j, j < k → styB j ≠ s) : styOf s = (k : Int) := by
  have hl : k < stys.length := by rw [stys_len]; exact hk
  have e : (stys.findIdx fun l => l == s.data.toList) = k := by
    rw [List.findIdx_eq hl]
    refine ⟨?_, fun j hj => ?_⟩
    · rw [stys_get hl, ← h]
      simp [styB]
    · rw [stys_get (Nat.lt_trans hj hl)]
      exact styB_ne (hn j hj)
  unfold styOf
  rw [e, if_pos hk]
theorem styOf_miss {s : ByteArray} (hn : ∀ j, j < 7 → styB j ≠ s) : styOf s = -1 := by
  have e : (stys.findIdx fun l => l == s.data.toList) = stys.length := by
    rw [List.findIdx_eq_length]
    intro l hl
    obtain ⟨j, hj, rfl⟩ := List.getElem_of_mem hl
    rw [stys_get hj]
    exact styB_ne (hn j (by rw [stys_len] at hj; exact hj))
  unfold styOf
  rw [e, stys_len]
  rfl
theorem styText_styB (j : Nat) (h : j < 7) : styText (j : Int) = styB j := by
  unfold styText styB
  rw [if_pos (by unfold styleP; omega)]
  rfl

set_option maxHeartbeats 400000 in
theorem specStyleOf (s : ByteArray) (w : World) :
    Calls Tryd.prog 35 #[.string s] w fun e w' => e = .returned (.int .i64 (styOf s)) ∧ Below w.heap.size w w' := by
  go_enter Tryd.func35, Tryd.ntmps35
  go_wp2
  go_loopw [3] (fun i wr => ∃ k : Nat, k ≤ 7 ∧ i = .int .i64 (k : Int) ∧ (∀ j, j < k → styB j ≠ s) ∧ Below w.heap.size w wr) (fun i _ => 13 - (intOf i).toNat)
  case atStart => exact ⟨0, by omega, rfl, by omega, Below.refl _ _⟩
  case round =>
    obtain ⟨k, hk, rfl, hn, hb⟩ := hrel
    have HN : Hid (∀ j, j < k → styB j ≠ s) := hn
    clear hn
    by_cases hlt : k < 7
    · cases hq : ((styText (k : Int)).toList == s.toList)
      · have HN' : Hid (∀ j, j < k + 1 → styB j ≠ s) := by
          intro j hj
          by_cases e : j = k
          · subst e
            rw [← styText_styB j hlt]
            exact str_ne hq
          · exact HN.out j (by omega)
        go_wp2_with (go_at_call 33; refine (specStyleName _ _).mono ?_; rintro e w' ⟨rfl, hb'⟩)
        exact ⟨⟨k + 1, by omega, by go_num, HN'.out, hb.trans (hb'.mono hb.size)⟩, by simp [intOf]; omega⟩
      · have HF : Hid (styOf s = (k : Int)) := styOf_hit hlt (by rw [← styText_styB k hlt]; exact str_eq hq) HN.out
        go_wp2_with (go_at_call 33; refine (specStyleName _ _).mono ?_; rintro e w' ⟨rfl, hb'⟩)
        go_ret
        exact ⟨ret_int HF.out.symm, hb.trans (hb'.mono hb.size)⟩
    · have HF : Hid (styOf s = -1) := styOf_miss (fun j hj => HN.out j (by omega))
      go_wp2_with fail
      go_ret
      exact ⟨ret_int HF.out.symm, hb⟩

set_option maxRecDepth 100000 in
theorem sty_index (k : Nat) (h : k < 7) (w : World) : (Instr.index 70 (.agg styVals) (.int .i64 (k : Int))).run Tryd.prog w = .ok (.string (styB k)) w := by
  have : k = 0 ∨ k = 1 ∨ k = 2 ∨ k = 3 ∨ k = 4 ∨ k = 5 ∨ k = 6 := by omega
  rcases this with rfl | rfl | rfl | rfl | rfl | rfl | rfl <;> rfl
theorem sty_size : (Tryd.prog.info? 70).map (·.size) = some styVals.size := by kernel_rfl

set_option maxHeartbeats 400000 in
theorem implStyleOf (s : ByteArray) (w : World) (hT : TabS w) :
    Calls Tryd.prog 34 #[.string s] w fun e w' => e = .returned (.int .i64 (styOf s)) ∧ w' = w := by
  obtain ⟨tt, fr, hh⟩ := hT.heap (g := 0) (by kernel_rfl)
  have HG : Hid (w.heap[0]? = some (.cells styVals tt fr)) := hh
  clear hT hh
  go_enter Tryd.func34, Tryd.ntmps34
  go_wp2_with (refine wpList_load_row rfl 70 _ rfl 0 rfl tt styVals fr _ HG.out Tryd.underlying70 rfl sty_size ?_)
  go_loop [6] (fun i => ∃ k : Nat, k ≤ 7 ∧ i = .int .i64 (k : Int) ∧ (∀ j, j < k → styB j ≠ s)) (fun i => 12 - (intOf i).toNat)
  case atStart => exact ⟨0, by omega, rfl, by omega⟩
  case round =>
    obtain ⟨k, hk, rfl, hn⟩ := hrel
    have HN : Hid (∀ j, j < k → styB j ≠ s) := hn
    clear hn
    by_cases hlt : k < 7
    · have hi := sty_index k hlt
      cases hq : ((styB k).toList == s.toList)
      · have HN' : Hid (∀ j, j < k + 1 → styB j ≠ s) := by
          intro j hj
          by_cases e : j = k
          · subst e
            exact str_ne hq
          · exact HN.out j (by omega)
        go_wp2
        exact ⟨⟨k + 1, by omega, by go_num, HN'.out⟩, by simp [intOf]; omega⟩
      · have HF : Hid (styOf s = (k : Int)) := styOf_hit hlt (str_eq hq) HN.out
        go_wp2
        go_ret
        exact ⟨ret_int HF.out.symm, rfl⟩
    · have HF : Hid (styOf s = -1) := styOf_miss (fun j hj => HN.out j (by omega))
      go_wp2
      go_ret
      exact ⟨ret_int HF.out.symm, rfl⟩
end Go.Proofs.YtghmlaflbopolaaDoor.ctr
