/- Contracts of the program's beginnings of years: the methods of solarYear, beginning. Each answers its plain function where the table of months holds its numbers. -/
import Derived.Test.YtaakgidndjoocaaGreatDoorStyBaseM
import Derived.Test.YtaakgidndjoocaaGreatDoorStyPlainM
import Derived.Test.YtaakgidndjoocaaGreatDoorEasOnlyM
import Derived.Test.YtaakgidndjoocaaGreatDoorRowKit2M
namespace Go.Proofs.YtaakgidndjoocaaGreatDoor.ctr
open Go.RowKit

theorem implDayOn (c y m d : Int) (w : World) (hT : Tab w) (hc : c = 0 ∨ c = 1) (hy1 : -5 ≤ y) (hy2 : y ≤ 4000) (hm1 : 1 ≤ m) (hm2 : m ≤ 13) (hd1 : -100 ≤ d) (hd2 : d ≤ 1000) : Calls Tryz.prog 257 #[.agg #[.int .i64 c, .int .i64 y], .int .i64 m, .int .i64 d] w fun e w' => e = .returned (.int .i64 (lineD c y m d)) ∧ Below w.heap.size w w' := by
  obtain ⟨W0, hW0⟩ : ∃ W0, W0 = w.alloc (.cells #[.int .i64 c, .int .i64 y] 235) := ⟨_, rfl⟩
  have HW0 := hideP hW0
  have KT : ∀ x : Later W0, Tab x.w := fun x => hT.later (below_of_alloc hW0 x.below)
  clear hW0 hT
  have KL : Calls Tryz.prog 118 #[.agg #[.int .i64 c, .int .i64 y, .int .i64 m, .int .i64 d]] W0 fun e w' => e = .returned (.int .i64 (lineD c y m d)) ∧ Below W0.heap.size W0 w' := implLine c y m d W0 (KT ⟨W0, Below.refl _ _⟩) hc hy1 hy2 hm1 hm2 hd1 hd2
  clear hc KT
  generalize lineD c y m d = R at *
  go_enter Tryz.func257, Tryz.ntmps257
  go_wp2_with fail
  rw [← HW0.out]
  refine KL.mono ?_
  rintro e w1 ⟨rfl, hb⟩
  go_wp2
  go_ret
  exact ⟨rfl, below_of_alloc HW0.out hb⟩

theorem implAhead (c y : Int) (w : World) (hy1 : -4 ≤ y) (hy2 : y ≤ 4000) : Calls Tryz.prog 258 #[.agg #[.int .i64 c, .int .i64 y]] w fun e w' => e = .returned (.agg #[.int .i64 c, .int .i64 (y - 1)]) ∧ Below w.heap.size w w' := by
  go_enter Tryz.func258, Tryz.ntmps258
  go_wp2
  go_returns
  refine ⟨rfl, ?_⟩
  go_grown

theorem impl_january (c y : Int) (w : World) (hT : Tab w) (hc : c = 0 ∨ c = 1) (hy1 : -5 ≤ y) (hy2 : y ≤ 4000) : Calls Tryz.prog 207 #[.agg #[.int .i64 c, .int .i64 y]] w fun e w' => e = .returned (.int .i64 (lineD c y 1 1)) ∧ Below w.heap.size w w' := by
  obtain ⟨W0, hW0⟩ : ∃ W0, W0 = w.alloc (.cells #[.int .i64 c, .int .i64 y] 235) := ⟨_, rfl⟩
  have HW0 := hideP hW0
  have KT : ∀ x : Later W0, Tab x.w := fun x => hT.later (below_of_alloc hW0 x.below)
  clear hW0 hT
  have KL : Calls Tryz.prog 257 #[.agg #[.int .i64 c, .int .i64 y], .int .i64 1, .int .i64 1] W0 fun e w' => e = .returned (.int .i64 (lineD c y 1 1)) ∧ Below W0.heap.size W0 w' := implDayOn c y 1 1 W0 (KT ⟨W0, Below.refl _ _⟩) hc hy1 hy2 (by omega) (by omega) (by omega) (by omega)
  clear hc KT
  generalize lineD c y 1 1 = R at *
  go_enter Tryz.func207, Tryz.ntmps207
  go_wp2_with fail
  rw [← HW0.out]
  refine KL.mono ?_
  rintro e w1 ⟨rfl, hb⟩
  go_wp2
  go_ret
  exact ⟨rfl, below_of_alloc HW0.out hb⟩

theorem impl_march (c y : Int) (w : World) (hT : Tab w) (hc : c = 0 ∨ c = 1) (hy1 : -5 ≤ y) (hy2 : y ≤ 4000) : Calls Tryz.prog 208 #[.agg #[.int .i64 c, .int .i64 y]] w fun e w' => e = .returned (.int .i64 (lineD c y 3 1)) ∧ Below w.heap.size w w' := by
  obtain ⟨W0, hW0⟩ : ∃ W0, W0 = w.alloc (.cells #[.int .i64 c, .int .i64 y] 235) := ⟨_, rfl⟩
  have HW0 := hideP hW0
  have KT : ∀ x : Later W0, Tab x.w := fun x => hT.later (below_of_alloc hW0 x.below)
  clear hW0 hT
  have KL : Calls Tryz.prog 257 #[.agg #[.int .i64 c, .int .i64 y], .int .i64 3, .int .i64 1] W0 fun e w' => e = .returned (.int .i64 (lineD c y 3 1)) ∧ Below W0.heap.size W0 w' := implDayOn c y 3 1 W0 (KT ⟨W0, Below.refl _ _⟩) hc hy1 hy2 (by omega) (by omega) (by omega) (by omega)
  clear hc KT
  generalize lineD c y 3 1 = R at *
  go_enter Tryz.func208, Tryz.ntmps208
  go_wp2_with fail
  rw [← HW0.out]
  refine KL.mono ?_
  rintro e w1 ⟨rfl, hb⟩
  go_wp2
  go_ret
  exact ⟨rfl, below_of_alloc HW0.out hb⟩

theorem impl_lady (c y : Int) (w : World) (hT : Tab w) (hc : c = 0 ∨ c = 1) (hy1 : -5 ≤ y) (hy2 : y ≤ 4000) : Calls Tryz.prog 209 #[.agg #[.int .i64 c, .int .i64 y]] w fun e w' => e = .returned (.int .i64 (lineD c y 3 25)) ∧ Below w.heap.size w w' := by
  obtain ⟨W0, hW0⟩ : ∃ W0, W0 = w.alloc (.cells #[.int .i64 c, .int .i64 y] 235) := ⟨_, rfl⟩
  have HW0 := hideP hW0
  have KT : ∀ x : Later W0, Tab x.w := fun x => hT.later (below_of_alloc hW0 x.below)
  clear hW0 hT
  have KL : Calls Tryz.prog 257 #[.agg #[.int .i64 c, .int .i64 y], .int .i64 3, .int .i64 25] W0 fun e w' => e = .returned (.int .i64 (lineD c y 3 25)) ∧ Below W0.heap.size W0 w' := implDayOn c y 3 25 W0 (KT ⟨W0, Below.refl _ _⟩) hc hy1 hy2 (by omega) (by omega) (by omega) (by omega)
  clear hc KT
  generalize lineD c y 3 25 = R at *
  go_enter Tryz.func209, Tryz.ntmps209
  go_wp2_with fail
  rw [← HW0.out]
  refine KL.mono ?_
  rintro e w1 ⟨rfl, hb⟩
  go_wp2
  go_ret
  exact ⟨rfl, below_of_alloc HW0.out hb⟩

theorem impl_pisa (c y : Int) (w : World) (hT : Tab w) (hc : c = 0 ∨ c = 1) (hy1 : -4 ≤ y) (hy2 : y ≤ 4000) : Calls Tryz.prog 210 #[.agg #[.int .i64 c, .int .i64 y]] w fun e w' => e = .returned (.int .i64 (lineD c (y - 1) 3 25)) ∧ Below w.heap.size w w' := by
  obtain ⟨W0, hW0⟩ : ∃ W0, W0 = w.alloc (.cells #[.int .i64 c, .int .i64 y] 235) := ⟨_, rfl⟩
  have HW0 := hideP hW0
  have KT : ∀ x : Later W0, Tab x.w := fun x => hT.later (below_of_alloc hW0 x.below)
  clear hW0 hT
  have KA : Calls Tryz.prog 258 #[.agg #[.int .i64 c, .int .i64 y]] W0 fun e w' => e = .returned (.agg #[.int .i64 c, .int .i64 (y - 1)]) ∧ Below W0.heap.size W0 w' := implAhead c y W0 hy1 hy2
  have KL : ∀ x : Later W0, Calls Tryz.prog 209 #[.agg #[.int .i64 c, .int .i64 (y - 1)]] x.w fun e w' => e = .returned (.int .i64 (lineD c (y - 1) 3 25)) ∧ Below x.w.heap.size x.w w' := fun x => impl_lady c (y - 1) x.w (KT x) hc (by omega) (by omega)
  clear hc KT
  generalize lineD c (y - 1) 3 25 = R at *
  go_enter Tryz.func210, Tryz.ntmps210
  go_wp2_with fail
  rw [← HW0.out]
  refine KA.mono ?_
  rintro e w1 ⟨rfl, hb⟩
  obtain ⟨x1, rfl⟩ := Later.of hb
  clear hb
  go_wp2_with fail
  refine (KL x1).mono ?_
  rintro e w2 ⟨rfl, hb⟩
  go_wp2
  go_ret
  exact ⟨rfl, below_of_alloc HW0.out (x1.on hb)⟩

theorem impl_september (c y : Int) (w : World) (hT : Tab w) (hc : c = 0 ∨ c = 1) (hy1 : -4 ≤ y) (hy2 : y ≤ 4000) : Calls Tryz.prog 212 #[.agg #[.int .i64 c, .int .i64 y]] w fun e w' => e = .returned (.int .i64 (lineD c (y - 1) 9 1)) ∧ Below w.heap.size w w' := by
  obtain ⟨W0, hW0⟩ : ∃ W0, W0 = w.alloc (.cells #[.int .i64 c, .int .i64 y] 235) := ⟨_, rfl⟩
  have HW0 := hideP hW0
  have KT : ∀ x : Later W0, Tab x.w := fun x => hT.later (below_of_alloc hW0 x.below)
  clear hW0 hT
  have KA : Calls Tryz.prog 258 #[.agg #[.int .i64 c, .int .i64 y]] W0 fun e w' => e = .returned (.agg #[.int .i64 c, .int .i64 (y - 1)]) ∧ Below W0.heap.size W0 w' := implAhead c y W0 hy1 hy2
  have KL : ∀ x : Later W0, Calls Tryz.prog 257 #[.agg #[.int .i64 c, .int .i64 (y - 1)], .int .i64 9, .int .i64 1] x.w fun e w' => e = .returned (.int .i64 (lineD c (y - 1) 9 1)) ∧ Below x.w.heap.size x.w w' := fun x => implDayOn c (y - 1) 9 1 x.w (KT x) hc (by omega) (by omega) (by omega) (by omega) (by omega) (by omega)
  clear hc KT
  generalize lineD c (y - 1) 9 1 = R at *
  go_enter Tryz.func212, Tryz.ntmps212
  go_wp2_with fail
  rw [← HW0.out]
  refine KA.mono ?_
  rintro e w1 ⟨rfl, hb⟩
  obtain ⟨x1, rfl⟩ := Later.of hb
  clear hb
  go_wp2_with fail
  refine (KL x1).mono ?_
  rintro e w2 ⟨rfl, hb⟩
  go_wp2
  go_ret
  exact ⟨rfl, below_of_alloc HW0.out (x1.on hb)⟩

theorem impl_yule (c y : Int) (w : World) (hT : Tab w) (hc : c = 0 ∨ c = 1) (hy1 : -4 ≤ y) (hy2 : y ≤ 4000) : Calls Tryz.prog 213 #[.agg #[.int .i64 c, .int .i64 y]] w fun e w' => e = .returned (.int .i64 (lineD c (y - 1) 12 25)) ∧ Below w.heap.size w w' := by
  obtain ⟨W0, hW0⟩ : ∃ W0, W0 = w.alloc (.cells #[.int .i64 c, .int .i64 y] 235) := ⟨_, rfl⟩
  have HW0 := hideP hW0
  have KT : ∀ x : Later W0, Tab x.w := fun x => hT.later (below_of_alloc hW0 x.below)
  clear hW0 hT
  have KA : Calls Tryz.prog 258 #[.agg #[.int .i64 c, .int .i64 y]] W0 fun e w' => e = .returned (.agg #[.int .i64 c, .int .i64 (y - 1)]) ∧ Below W0.heap.size W0 w' := implAhead c y W0 hy1 hy2
  have KL : ∀ x : Later W0, Calls Tryz.prog 257 #[.agg #[.int .i64 c, .int .i64 (y - 1)], .int .i64 12, .int .i64 25] x.w fun e w' => e = .returned (.int .i64 (lineD c (y - 1) 12 25)) ∧ Below x.w.heap.size x.w w' := fun x => implDayOn c (y - 1) 12 25 x.w (KT x) hc (by omega) (by omega) (by omega) (by omega) (by omega) (by omega)
  clear hc KT
  generalize lineD c (y - 1) 12 25 = R at *
  go_enter Tryz.func213, Tryz.ntmps213
  go_wp2_with fail
  rw [← HW0.out]
  refine KA.mono ?_
  rintro e w1 ⟨rfl, hb⟩
  obtain ⟨x1, rfl⟩ := Later.of hb
  clear hb
  go_wp2_with fail
  refine (KL x1).mono ?_
  rintro e w2 ⟨rfl, hb⟩
  go_wp2
  go_ret
  exact ⟨rfl, below_of_alloc HW0.out (x1.on hb)⟩

theorem impl_easter (c y : Int) (w : World) (hT : Tab w) (hc : c = 0 ∨ c = 1) (hy1 : 1 ≤ y) (hy2 : y ≤ 4000) : Calls Tryz.prog 211 #[.agg #[.int .i64 c, .int .i64 y]] w fun e w' => e = .returned (.int .i64 (easL c y)) ∧ Below w.heap.size w w' := by
  obtain ⟨W0, hW0⟩ : ∃ W0, W0 = w.alloc (.cells #[.int .i64 c, .int .i64 y] 235) := ⟨_, rfl⟩
  have HW0 := hideP hW0
  have KT : ∀ x : Later W0, Tab x.w := fun x => hT.later (below_of_alloc hW0 x.below)
  clear hW0 hT
  have KL : Calls Tryz.prog 259 #[.int .i64 c, .int .i64 y] W0 fun e w' => e = .returned (.int .i64 (easL c y)) ∧ Below W0.heap.size W0 w' := implLineEaster c y W0 (KT ⟨W0, Below.refl _ _⟩) hc hy1 hy2
  clear hc KT
  generalize easL c y = R at *
  go_enter Tryz.func211, Tryz.ntmps211
  go_wp2_with fail
  rw [← HW0.out]
  refine KL.mono ?_
  rintro e w1 ⟨rfl, hb⟩
  go_wp2
  go_ret
  exact ⟨rfl, below_of_alloc HW0.out hb⟩

theorem easDays_eq {c y : Int} (hc : c = 0 ∨ c = 1) (h1 : 1 ≤ y) (h2 : y ≤ 4000) : easL c y - lineD c y 3 21 = sumE c y - 113 := by
  rw [easL_eq hc h1 h2]
  unfold lineD march
  rw [show ((3 : Int) - 1).toNat = 2 from rfl]
  omega
theorem line_b {c y m d : Int} (hc : c = 0 ∨ c = 1) (hy1 : -5 ≤ y) (hy2 : y ≤ 4000) (hm : m ≤ 13) (hd1 : -100 ≤ d) (hd2 : d ≤ 1000) : -3000 ≤ lineD c y m d ∧ lineD c y m d ≤ 1480000 := by
  have b1 := first_bound hc hy1 hy2
  have b2 := before_bound c y (m - 1).toNat
  unfold lineD
  omega
end Go.Proofs.YtaakgidndjoocaaGreatDoor.ctr
