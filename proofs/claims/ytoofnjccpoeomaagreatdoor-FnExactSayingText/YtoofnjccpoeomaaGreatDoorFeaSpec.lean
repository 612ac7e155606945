/- Contracts of the model's Feasts: it answers the twenty feasts' cells, in a row of its own; nothing that was there turns. -/
import Derived.Test.YtoofnjccpoeomaaGreatDoorFeaList
namespace Go.Proofs.YtoofnjccpoeomaaGreatDoor.ctr
open Go.RowKit

theorem specMoves4 (s : ByteArray) (o : Int) (w : World) : Calls Tryz.prog 75 #[.string s, .int .i64 o] w fun e w' => e = .returned (.agg #[.string s, .bool true, .int .i64 o, .int .i64 0, .int .i64 0]) ∧ Below w.heap.size w w' := by
  go_enter Tryz.func75, Tryz.ntmps75
  go_wp2
  go_returns
  refine ⟨rfl, ?_⟩
  go_grown
theorem specFixed4 (s : ByteArray) (m d : Int) (w : World) : Calls Tryz.prog 76 #[.string s, .int .i64 m, .int .i64 d] w fun e w' => e = .returned (.agg #[.string s, .bool false, .int .i64 0, .int .i64 m, .int .i64 d]) ∧ Below w.heap.size w w' := by
  go_enter Tryz.func76, Tryz.ntmps76
  go_wp2
  go_returns
  refine ⟨rfl, ?_⟩
  go_grown
theorem implOnEaster (s : ByteArray) (o : Int) (w : World) : Calls Tryz.prog 84 #[.string s, .int .i64 o] w fun e w' => e = .returned (.agg #[.string s, .bool true, .int .i64 o, .int .i64 0, .int .i64 0]) ∧ Below w.heap.size w w' := by
  go_enter Tryz.func84, Tryz.ntmps84
  go_wp2
  go_returns
  refine ⟨rfl, ?_⟩
  go_grown
theorem implOnDate (s : ByteArray) (m d : Int) (w : World) : Calls Tryz.prog 86 #[.string s, .int .i64 m, .int .i64 d] w fun e w' => e = .returned (.agg #[.string s, .bool false, .int .i64 0, .int .i64 m, .int .i64 d]) ∧ Below w.heap.size w w' := by
  go_enter Tryz.func86, Tryz.ntmps86
  go_wp2
  go_returns
  refine ⟨rfl, ?_⟩
  go_grown
theorem row_new {w W : World} {cs : Array Value} {t : TypeId} {n : Nat} {xs : List Value} (hb : w.heap.size ≤ W.heap.size) (hn : n ≤ maxLen) (hs : cs.size = n * 5) (hx : cs.toList = xs) :
    (W.alloc (.cells cs t)).ownsRow w.heap.size t 5 (.slice (some ⟨W.heap.size, 0, none⟩) n n) n xs := by
  have hl : xs.length = n * 5 := by rw [← hx, Array.length_toList, hs]
  exact ⟨hl, .inr ⟨W.heap.size, n, cs, rfl, hb, heap_alloc_new W _, Nat.le_refl _, hn, hs, by rw [hx, List.take_of_length_le (by omega)]⟩⟩

set_option maxRecDepth 100000 in
set_option maxHeartbeats 4000000 in
theorem specFeasts (w : World) : Calls Tryz.prog 55 #[] w fun e w' => ∃ v, e = .returned v ∧ FeaOwn w w' v ∧ Below w.heap.size w w' := by
  go_enter Tryz.func55, Tryz.ntmps55
  go_wp2_with fail
  refine (specMoves4 _ _ _).mono ?_
  rintro e w1 ⟨rfl, hb⟩
  obtain ⟨x1, rfl⟩ := Later.of hb
  clear hb
  go_wp2_with fail
  refine (specMoves4 _ _ _).mono ?_
  rintro e w2 ⟨rfl, hb⟩
  obtain ⟨x2, rfl⟩ := x1.next hb
  clear hb
  go_wp2_with fail
  refine (specMoves4 _ _ _).mono ?_
  rintro e w3 ⟨rfl, hb⟩
  obtain ⟨x3, rfl⟩ := x2.next hb
  clear hb
  go_wp2_with fail
  refine (specMoves4 _ _ _).mono ?_
  rintro e w4 ⟨rfl, hb⟩
  obtain ⟨x4, rfl⟩ := x3.next hb
  clear hb
  go_wp2_with fail
  refine (specMoves4 _ _ _).mono ?_
  rintro e w5 ⟨rfl, hb⟩
  obtain ⟨x5, rfl⟩ := x4.next hb
  clear hb
  go_wp2_with fail
  refine (specMoves4 _ _ _).mono ?_
  rintro e w6 ⟨rfl, hb⟩
  obtain ⟨x6, rfl⟩ := x5.next hb
  clear hb
  go_wp2_with fail
  refine (specMoves4 _ _ _).mono ?_
  rintro e w7 ⟨rfl, hb⟩
  obtain ⟨x7, rfl⟩ := x6.next hb
  clear hb
  go_wp2_with fail
  refine (specMoves4 _ _ _).mono ?_
  rintro e w8 ⟨rfl, hb⟩
  obtain ⟨x8, rfl⟩ := x7.next hb
  clear hb
  go_wp2_with fail
  refine (specMoves4 _ _ _).mono ?_
  rintro e w9 ⟨rfl, hb⟩
  obtain ⟨x9, rfl⟩ := x8.next hb
  clear hb
  go_wp2_with fail
  refine (specMoves4 _ _ _).mono ?_
  rintro e w10 ⟨rfl, hb⟩
  obtain ⟨x10, rfl⟩ := x9.next hb
  clear hb
  go_wp2_with fail
  refine (specFixed4 _ _ _ _).mono ?_
  rintro e w11 ⟨rfl, hb⟩
  obtain ⟨x11, rfl⟩ := x10.next hb
  clear hb
  go_wp2_with fail
  refine (specFixed4 _ _ _ _).mono ?_
  rintro e w12 ⟨rfl, hb⟩
  obtain ⟨x12, rfl⟩ := x11.next hb
  clear hb
  go_wp2_with fail
  refine (specFixed4 _ _ _ _).mono ?_
  rintro e w13 ⟨rfl, hb⟩
  obtain ⟨x13, rfl⟩ := x12.next hb
  clear hb
  go_wp2_with fail
  refine (specFixed4 _ _ _ _).mono ?_
  rintro e w14 ⟨rfl, hb⟩
  obtain ⟨x14, rfl⟩ := x13.next hb
  clear hb
  go_wp2_with fail
  refine (specFixed4 _ _ _ _).mono ?_
  rintro e w15 ⟨rfl, hb⟩
  obtain ⟨x15, rfl⟩ := x14.next hb
  clear hb
  go_wp2_with fail
  refine (specFixed4 _ _ _ _).mono ?_
  rintro e w16 ⟨rfl, hb⟩
  obtain ⟨x16, rfl⟩ := x15.next hb
  clear hb
  go_wp2_with fail
  refine (specFixed4 _ _ _ _).mono ?_
  rintro e w17 ⟨rfl, hb⟩
  obtain ⟨x17, rfl⟩ := x16.next hb
  clear hb
  go_wp2_with fail
  refine (specFixed4 _ _ _ _).mono ?_
  rintro e w18 ⟨rfl, hb⟩
  obtain ⟨x18, rfl⟩ := x17.next hb
  clear hb
  go_wp2_with fail
  refine (specFixed4 _ _ _ _).mono ?_
  rintro e w19 ⟨rfl, hb⟩
  obtain ⟨x19, rfl⟩ := x18.next hb
  clear hb
  go_wp2_with fail
  refine (specFixed4 _ _ _ _).mono ?_
  rintro e w20 ⟨rfl, hb⟩
  obtain ⟨x20, rfl⟩ := x19.next hb
  clear hb
  go_wp2
  go_ret
  exact ⟨_, rfl, row_new x20.below.size (by unfold maxLen; omega) rfl rfl, x20.below.alloc x20.below.size _⟩
end Go.Proofs.YtoofnjccpoeomaaGreatDoor.ctr
