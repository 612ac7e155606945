/- Contract of the program's beginning: the day on which a year of a style begins, where the table of months holds its numbers. Plain laws of years of a style, of no program: which days come twice in a year from Easter to Easter, in which years of 1 January a month's day of a year stands, how long a year is. -/
import Derived.Test.YtilpencbbdpgfaaGreatDoorJnQaw
import Derived.Test.YtilpencbbdpgfaaGreatDoorJnQau
namespace Go.Proofs.YtilpencbbdpgfaaGreatDoor.ctr
open Go.RowKit
theorem beg_one : (#[.func (.func 237) #[] #[], .func (.func 238) #[] #[], .func (.func 239) #[] #[], .func (.func 240) #[] #[], .func (.func 241) #[] #[], .func (.func 242) #[] #[], .func (.func 243) #[] #[]] : Array Value).all (·.oneCell') = true := by first | rfl | kernel_rfl | decide | simp [Value.oneCell']
theorem beg_size : (Tryz.prog.info? 241).map (·.size) = some (#[.func (.func 237) #[] #[], .func (.func 238) #[] #[], .func (.func 239) #[] #[], .func (.func 240) #[] #[], .func (.func 241) #[] #[], .func (.func 242) #[] #[], .func (.func 243) #[] #[]] : Array Value).size := by kernel_rfl
set_option maxHeartbeats 1000000 in
theorem implBeginning (c s y : Int) (w : World) (hT : Tab w) (hc : c = 0 ∨ c = 1) (hs : styleP s) (hy1 : 1 ≤ y) (hy2 : y ≤ 3900) : Calls Tryz.prog 180 #[.int .i64 c, .int .i64 s, .int .i64 y] w fun e w' => e = .returned (.int .i64 (start c s y)) ∧ Below w.heap.size w w' := by
  obtain ⟨W1, hW1⟩ : ∃ W1, W1 = (w.alloc (.cells #[.nilFunc, .nilFunc, .nilFunc, .nilFunc, .nilFunc, .nilFunc, .nilFunc] 241)).setRow w.heap.size #[.func (.func 237) #[] #[], .func (.func 238) #[] #[], .func (.func 239) #[] #[], .func (.func 240) #[] #[], .func (.func 241) #[] #[], .func (.func 242) #[] #[], .func (.func 243) #[] #[]] := ⟨_, rfl⟩
  have HB : Hid (Blk W1 w.heap.size #[.func (.func 237) #[] #[], .func (.func 238) #[] #[], .func (.func 239) #[] #[], .func (.func 240) #[] #[], .func (.func 241) #[] #[], .func (.func 242) #[] #[], .func (.func 243) #[] #[]] 241) := by unfold Hid; rw [hW1]; exact (Blk.new w _ _).setRow _
  have HL : Hid (Below w.heap.size w W1) := by unfold Hid; rw [hW1]; exact below_setRow ((Below.refl _ _).alloc (Nat.le_refl _) _) _ (Nat.le_refl _)
  have HW1 := hideP hW1
  have KT : Tab W1 := hT.later HL.out
  clear hT hW1
  rcases style_cases hs with rfl | rfl | rfl | rfl | rfl | rfl | rfl
  · have ck : W1.cell? ⟨w.heap.size, 0, none⟩ = some (.func (.func 237) #[] #[]) := HB.out.cell 0 rfl
    have KL : Calls Tryz.prog 237 #[.agg #[.int .i64 c, .int .i64 y]] W1 fun e w' => e = .returned (.int .i64 (start c 0 y)) ∧ Below W1.heap.size W1 w' := by rw [start_0]; exact impl_january c y W1 KT hc (by omega) (by omega)
    clear KT hc hs
    generalize start c 0 y = R at *
    go_enter Tryz.func180, Tryz.ntmps180
    go_wp2_with (refine wpList_store_row _ rfl 241 _ _ rfl w.heap.size #[.nilFunc, .nilFunc, .nilFunc, .nilFunc, .nilFunc, .nilFunc, .nilFunc] #[.func (.func 237) #[] #[], .func (.func 238) #[] #[], .func (.func 239) #[] #[], .func (.func 240) #[] #[], .func (.func 241) #[] #[], .func (.func 242) #[] #[], .func (.func 243) #[] #[]] rfl rfl (Blk.new w _ _) beg_size rfl beg_one ?_; rw [← HW1.out])
    refine KL.mono ?_
    rintro e w1 ⟨rfl, hb⟩
    go_wp2
    go_ret
    exact ⟨rfl, HL.out.trans (hb.mono HL.out.size)⟩
  · have ck : W1.cell? ⟨w.heap.size, 1, none⟩ = some (.func (.func 238) #[] #[]) := HB.out.cell 1 rfl
    have KL : Calls Tryz.prog 238 #[.agg #[.int .i64 c, .int .i64 y]] W1 fun e w' => e = .returned (.int .i64 (start c 1 y)) ∧ Below W1.heap.size W1 w' := by rw [start_1]; exact impl_march c y W1 KT hc (by omega) (by omega)
    clear KT hc hs
    generalize start c 1 y = R at *
    go_enter Tryz.func180, Tryz.ntmps180
    go_wp2_with (refine wpList_store_row _ rfl 241 _ _ rfl w.heap.size #[.nilFunc, .nilFunc, .nilFunc, .nilFunc, .nilFunc, .nilFunc, .nilFunc] #[.func (.func 237) #[] #[], .func (.func 238) #[] #[], .func (.func 239) #[] #[], .func (.func 240) #[] #[], .func (.func 241) #[] #[], .func (.func 242) #[] #[], .func (.func 243) #[] #[]] rfl rfl (Blk.new w _ _) beg_size rfl beg_one ?_; rw [← HW1.out])
    refine KL.mono ?_
    rintro e w1 ⟨rfl, hb⟩
    go_wp2
    go_ret
    exact ⟨rfl, HL.out.trans (hb.mono HL.out.size)⟩
  · have ck : W1.cell? ⟨w.heap.size, 2, none⟩ = some (.func (.func 239) #[] #[]) := HB.out.cell 2 rfl
    have KL : Calls Tryz.prog 239 #[.agg #[.int .i64 c, .int .i64 y]] W1 fun e w' => e = .returned (.int .i64 (start c 2 y)) ∧ Below W1.heap.size W1 w' := by rw [start_2]; exact impl_lady c y W1 KT hc (by omega) (by omega)
    clear KT hc hs
    generalize start c 2 y = R at *
    go_enter Tryz.func180, Tryz.ntmps180
    go_wp2_with (refine wpList_store_row _ rfl 241 _ _ rfl w.heap.size #[.nilFunc, .nilFunc, .nilFunc, .nilFunc, .nilFunc, .nilFunc, .nilFunc] #[.func (.func 237) #[] #[], .func (.func 238) #[] #[], .func (.func 239) #[] #[], .func (.func 240) #[] #[], .func (.func 241) #[] #[], .func (.func 242) #[] #[], .func (.func 243) #[] #[]] rfl rfl (Blk.new w _ _) beg_size rfl beg_one ?_; rw [← HW1.out])
    refine KL.mono ?_
    rintro e w1 ⟨rfl, hb⟩
    go_wp2
    go_ret
    exact ⟨rfl, HL.out.trans (hb.mono HL.out.size)⟩
  · have ck : W1.cell? ⟨w.heap.size, 3, none⟩ = some (.func (.func 240) #[] #[]) := HB.out.cell 3 rfl
    have KL : Calls Tryz.prog 240 #[.agg #[.int .i64 c, .int .i64 y]] W1 fun e w' => e = .returned (.int .i64 (start c 3 y)) ∧ Below W1.heap.size W1 w' := by rw [start_3]; exact impl_pisa c y W1 KT hc (by omega) (by omega)
    clear KT hc hs
    generalize start c 3 y = R at *
    go_enter Tryz.func180, Tryz.ntmps180
    go_wp2_with (refine wpList_store_row _ rfl 241 _ _ rfl w.heap.size #[.nilFunc, .nilFunc, .nilFunc, .nilFunc, .nilFunc, .nilFunc, .nilFunc] #[.func (.func 237) #[] #[], .func (.func 238) #[] #[], .func (.func 239) #[] #[], .func (.func 240) #[] #[], .func (.func 241) #[] #[], .func (.func 242) #[] #[], .func (.func 243) #[] #[]] rfl rfl (Blk.new w _ _) beg_size rfl beg_one ?_; rw [← HW1.out])
    refine KL.mono ?_
    rintro e w1 ⟨rfl, hb⟩
    go_wp2
    go_ret
    exact ⟨rfl, HL.out.trans (hb.mono HL.out.size)⟩
  · have ck : W1.cell? ⟨w.heap.size, 4, none⟩ = some (.func (.func 241) #[] #[]) := HB.out.cell 4 rfl
    have KL : Calls Tryz.prog 241 #[.agg #[.int .i64 c, .int .i64 y]] W1 fun e w' => e = .returned (.int .i64 (start c 4 y)) ∧ Below W1.heap.size W1 w' := by rw [start_4]; exact impl_easter c y W1 KT hc (by omega) (by omega)
    clear KT hc hs
    generalize start c 4 y = R at *
    go_enter Tryz.func180, Tryz.ntmps180
    go_wp2_with (refine wpList_store_row _ rfl 241 _ _ rfl w.heap.size #[.nilFunc, .nilFunc, .nilFunc, .nilFunc, .nilFunc, .nilFunc, .nilFunc] #[.func (.func 237) #[] #[], .func (.func 238) #[] #[], .func (.func 239) #[] #[], .func (.func 240) #[] #[], .func (.func 241) #[] #[], .func (.func 242) #[] #[], .func (.func 243) #[] #[]] rfl rfl (Blk.new w _ _) beg_size rfl beg_one ?_; rw [← HW1.out])
    refine KL.mono ?_
    rintro e w1 ⟨rfl, hb⟩
    go_wp2
    go_ret
    exact ⟨rfl, HL.out.trans (hb.mono HL.out.size)⟩
  · have ck : W1.cell? ⟨w.heap.size, 5, none⟩ = some (.func (.func 242) #[] #[]) := HB.out.cell 5 rfl
    have KL : Calls Tryz.prog 242 #[.agg #[.int .i64 c, .int .i64 y]] W1 fun e w' => e = .returned (.int .i64 (start c 5 y)) ∧ Below W1.heap.size W1 w' := by rw [start_5]; exact impl_september c y W1 KT hc (by omega) (by omega)
    clear KT hc hs
    generalize start c 5 y = R at *
    go_enter Tryz.func180, Tryz.ntmps180
    go_wp2_with (refine wpList_store_row _ rfl 241 _ _ rfl w.heap.size #[.nilFunc, .nilFunc, .nilFunc, .nilFunc, .nilFunc, .nilFunc, .nilFunc] #[.func (.func 237) #[] #[], .func (.func 238) #[] #[], .func (.func 239) #[] #[], .func (.func 240) #[] #[], .func (.func 241) #[] #[], .func (.func 242) #[] #[], .func (.func 243) #[] #[]] rfl rfl (Blk.new w _ _) beg_size rfl beg_one ?_; rw [← HW1.out])
    refine KL.mono ?_
    rintro e w1 ⟨rfl, hb⟩
    go_wp2
    go_ret
    exact ⟨rfl, HL.out.trans (hb.mono HL.out.size)⟩
  · have ck : W1.cell? ⟨w.heap.size, 6, none⟩ = some (.func (.func 243) #[] #[]) := HB.out.cell 6 rfl
    have KL : Calls Tryz.prog 243 #[.agg #[.int .i64 c, .int .i64 y]] W1 fun e w' => e = .returned (.int .i64 (start c 6 y)) ∧ Below W1.heap.size W1 w' := by rw [start_6]; exact impl_yule c y W1 KT hc (by omega) (by omega)
    clear KT hc hs
    generalize start c 6 y = R at *
    go_enter Tryz.func180, Tryz.ntmps180
    go_wp2_with (refine wpList_store_row _ rfl 241 _ _ rfl w.heap.size #[.nilFunc, .nilFunc, .nilFunc, .nilFunc, .nilFunc, .nilFunc, .nilFunc] #[.func (.func 237) #[] #[], .func (.func 238) #[] #[], .func (.func 239) #[] #[], .func (.func 240) #[] #[], .func (.func 241) #[] #[], .func (.func 242) #[] #[], .func (.func 243) #[] #[]] rfl rfl (Blk.new w _ _) beg_size rfl beg_one ?_; rw [← HW1.out])
    refine KL.mono ?_
    rintro e w1 ⟨rfl, hb⟩
    go_wp2
    go_ret
    exact ⟨rfl, HL.out.trans (hb.mono HL.out.size)⟩
end Go.Proofs.YtilpencbbdpgfaaGreatDoor.ctr
namespace Go.Proofs.YtilpencbbdpgfaaGreatDoor.ctr
open Go.RowKit
theorem first_le' {c y z : Int} (hc : c = 0 ∨ c = 1) (h : y ≤ z) : first c y ≤ first c z := by
  by_cases e : y = z
  · subst e; omega
  · have := first_lt hc (show y < z by omega); omega
def solP (c s y m d z : Int) : Prop := yearP c y ∧ styleP s ∧ dateP c z m d ∧ start c s y ≤ lineD c z m d ∧ lineD c z m d < start c s (y + 1)
instance (c s y m d z : Int) : Decidable (solP c s y m d z) := by unfold solP; infer_instance
end Go.Proofs.YtilpencbbdpgfaaGreatDoor.ctr
