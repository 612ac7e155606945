/- Contracts of the program's parts and of the function that it hands back: it tells every part of a text between a byte, in order, to whatever loop body, where its two captured variables stay as they are. -/
import Derived.Test.YtoofnjccpoeomaaGreatDoorCutCtr
import Derived.Test.YtoofnjccpoeomaaGreatDoorShelf
import Derived.RangeFuncNested
import Derived.RangeFuncBound
import Derived.RangeFuncCalls
import Derived.RangeFuncLeaves
import Derived.Shelf.Abstract
import Derived.Shelf.RegionOpen
import Derived.OwnWalkIn
import Derived.TacticsInMore
import Derived.LoopNIn
import Derived.LoopIn
import Derived.Sort.QuietIn
namespace Go.Proofs.YtoofnjccpoeomaaGreatDoor.ctr
open Go.RowKit Go.Shelf

attribute [local go_sem] Oper.semAt_some

set_option maxHeartbeats 400000 in
theorem clone (s : ByteArray) (w : World) (hs : s.size ≤ 1048576) :
    Calls Tryz.prog 119 #[.string s] w fun e w' => e = .returned (.string s) ∧ Below w.heap.size w w' := by
  go_enter Tryz.func119, Tryz.ntmps119
  go_wp2_with fail
  refine (Tryz.stringslite_Clone s _ (by omega)).mono ?_
  rintro e w' ⟨rfl, hb⟩
  have HB : Hid _ := hb
  clear hb
  go_wp2
  go_ret
  exact ⟨rfl, HB.out⟩

theorem hideW {p : Prop} (h : p) : Hid p := h
theorem partsMono (s : ByteArray) (g : Int) : ∀ k j, (partsTo s g k).length ≤ (partsTo s g (k + j)).length
  | k, 0 => Nat.le_refl _
  | k, j + 1 => by
    refine Nat.le_trans (partsMono s g k j) ?_
    show _ ≤ (partsTo s g (k + j + 1)).length
    rw [partsTo]
    split
    · rw [List.length_append]; omega
    · exact Nat.le_refl _
theorem parts_lt (s : ByteArray) (g : Int) (k : Nat) (hk : k ≤ s.size) : (partsTo s g k).length < (cut s g).length := by
  have := partsMono s g k (s.size - k)
  rw [show k + (s.size - k) = s.size from by omega] at this
  unfold cut
  rw [List.length_append]
  simp
  omega
/-- What the captured variables' blocks hold stays. -/
def Keep2 (B1 B2 : Nat) (W W' : World) : Prop := W.heap.size ≤ W'.heap.size ∧ W'.heap[B1]? = W.heap[B1]? ∧ W'.heap[B2]? = W.heap[B2]?

set_option maxRecDepth 100000 in
set_option maxHeartbeats 2000000 in
theorem parts1_in (n : Nat) (hn : 3 ≤ n) (l B1 B2 : Nat) (s : ByteArray) (g : Int) (hs : s.size ≤ 1048576) (J Jx : List ByteArray → World → Prop)
    (hY : ∀ pre x W, J pre W → pre.length < (cut s g).length → YieldAt Fence.wide (n - 1) Tryz.prog l #[.string x] W fun e W' =>
      (e = .returned (.bool true) ∧ J (pre ++ [x]) W' ∧ Keep2 B1 B2 W W') ∨ (e = .returned (.bool false) ∧ Jx (pre ++ [x]) W'))
    (W : World) (hJ : AbidesFrom W.heap.size J) (hl1 : B1 < W.heap.size) (hl2 : B2 < W.heap.size) (hc1 : W.cell? ⟨B1, 0, none⟩ = some (.string s)) (hc2 : W.cell? ⟨B2, 0, none⟩ = some (.int .u8 g)) (h0 : J [] W) :
    CallsIn Fence.wide n Tryz.prog 118 #[.func (.yield l) #[] #[], .pointer (some ⟨B1, 0, none⟩), .pointer (some ⟨B2, 0, none⟩)] W fun e W' => (∃ v, e = .returned v) ∧
      ((∃ ys, ys = cut s g ∧ J ys W') ∨ (∃ pre, True ∧ Jx pre W')) := by
  have HJ : Hid (AbidesFrom W.heap.size J) := hJ
  have HY : Hid _ := hY
  clear hJ hY
  refine callsIn_of_wp Tryz.func118 rfl trivial ?_ rfl
  simp only [Tryz.ntmps118, List.size_toArray, List.length_cons, List.length_nil, Nat.reduceAdd, Nat.reduceSub, Array.replicate_succ, Array.replicate_zero, List.push_toArray, List.append_toArray, List.nil_append, List.cons_append]
  gi_wp2
  gi_loopw [4, 8] (fun st i wr => ∃ k : Nat, k ≤ s.size ∧ i = .int .i64 (k : Int) ∧ st = .int .i64 (startAt s g k : Int) ∧ J (partsTo s g k) wr ∧ W.heap.size ≤ wr.heap.size ∧ wr.cell? ⟨B1, 0, none⟩ = some (.string s) ∧ wr.cell? ⟨B2, 0, none⟩ = some (.int .u8 g)) (fun _ i _ => s.size - (intOf i).toNat)
  case atStart => exact ⟨0, Nat.zero_le _, rfl, rfl, h0, Nat.le_refl _, hc1, hc2⟩
  case round =>
    obtain ⟨k, hk, rfl, rfl, hJs, hsz, hd1, hd2⟩ := hrel
    have hsl := start_le s g k
    have HJs : Hid _ := hJs
    clear hJs
    by_cases hlt : k < s.size
    · have hx := bAt_eq s k hlt
      by_cases hg : bAt s k = g
      · have hg' : (bAt s k != g) = false := by simp [hg]
        obtain ⟨HP, HS⟩ : Hid (partsTo s g (k + 1) = partsTo s g k ++ [s.extract (startAt s g k) k]) ∧ Hid (startAt s g (k + 1) = k + 1) := parts_hit s g k hg
        clear hg
        have hex : (s.extract (startAt s g k) k).size ≤ 1048576 := by rw [ByteArray.size_extract]; omega
        gi_wp2
        gi_quiet (fail)
        gi_wp2_with fail
        refine ⟨trivial, fun _ => by omega, ?_⟩
        refine (callsIn_wide.2 (clone (s.extract (startAt s g k) k) _ hex)).mono ?_
        rintro e w2 ⟨rfl, hb2⟩
        have hJ2 : J (partsTo s g k) w2 := HJ.out _ _ _ none HJs.out ⟨hb2.os, hb2.tape, hb2.output, hb2.size, fun j hj _ => hb2.block j hj⟩ (fun r e => by cases e)
        have hb2' : Below wr.heap.size wr w2 := ⟨hb2.os, hb2.tape, hb2.output, hb2.size, hb2.block⟩
        have hcl1 : w2.cell? ⟨B1, 0, none⟩ = some (.string s) := (hb2'.cell (p := ⟨B1, 0, none⟩) (Nat.lt_of_lt_of_le hl1 hsz)).trans hd1
        have hcl2 : w2.cell? ⟨B2, 0, none⟩ = some (.int .u8 g) := (hb2'.cell (p := ⟨B2, 0, none⟩) (Nat.lt_of_lt_of_le hl2 hsz)).trans hd2
        have hsz2 : W.heap.size ≤ w2.heap.size := Nat.le_trans hsz hb2'.size
        obtain ⟨fn, tmps, assign, body, hy, hR⟩ := HY.out _ (s.extract (startAt s g k) k) w2 hJ2 (parts_lt s g k hk)
        have HR := hideW hR
        clear hR hJ2 hb2 hb2'
        gi_wp2
        refine ⟨fun _ => by omega, ?_⟩
        refine HR.out.mono ?_
        rintro e W3 (⟨rfl, hJ3, hk3⟩ | ⟨rfl, hJx3⟩)
        · have hm1 : W3.cell? ⟨B1, 0, none⟩ = some (.string s) := (World.cell?_of_block (a := ⟨B1, 0, none⟩) hk3.2.1).trans hcl1
          have hm2 : W3.cell? ⟨B2, 0, none⟩ = some (.int .u8 g) := (World.cell?_of_block (a := ⟨B2, 0, none⟩) hk3.2.2).trans hcl2
          have hsz3 : W.heap.size ≤ W3.heap.size := Nat.le_trans hsz2 hk3.1
          have HJ3 := hideW hJ3
          clear hk3 hJ3
          gi_wp2
          go_roundw
          case rel => exact ⟨k + 1, by omega, by go_num, by rw [HS.out]; go_num, by rw [HP.out]; exact HJ3.out, hsz3, hm1, hm2⟩
          case measure => simp [intOf]; omega
        · have HX3 := hideW hJx3
          clear hJx3
          gi_wp2
          refine bodyPost_ret (results_none rfl _ _ _) rfl ?_
          exact ⟨⟨_, rfl⟩, .inr ⟨_, trivial, HX3.out⟩⟩
      · have hg' : (bAt s k != g) = true := by simp [hg]
        obtain ⟨HP, HS⟩ : Hid (partsTo s g (k + 1) = partsTo s g k) ∧ Hid (startAt s g (k + 1) = startAt s g k) := parts_miss s g k hg
        clear hg
        gi_wp2
        gi_quiet (fail)
        gi_wp2
        go_roundw
        case rel => exact ⟨k + 1, by omega, by go_num, by rw [HS.out], by rw [HP.out]; exact HJ.out _ _ _ none HJs.out ⟨rfl, rfl, rfl, Nat.le_refl _, fun _ _ _ => rfl⟩ (fun r e => by cases e), hsz, hd1, hd2⟩
        case measure => simp [intOf]; omega
    · have hks : k = s.size := by omega
      subst hks
      have hlo : (startAt s g s.size : Int) ≤ (s.size : Int) := by omega
      have hex : (s.extract (startAt s g s.size) s.size).size ≤ 1048576 := by rw [ByteArray.size_extract]; omega
      gi_wp2_with fail
      refine ⟨trivial, fun _ => by omega, ?_⟩
      refine (callsIn_wide.2 (clone (s.extract (startAt s g s.size) s.size) _ hex)).mono ?_
      rintro e w2 ⟨rfl, hb2⟩
      have hJ2 : J (partsTo s g s.size) w2 := HJ.out _ _ _ none HJs.out ⟨hb2.os, hb2.tape, hb2.output, hb2.size, fun j hj _ => hb2.block j hj⟩ (fun r e => by cases e)
      obtain ⟨fn, tmps, assign, body, hy, hR⟩ := HY.out _ (s.extract (startAt s g s.size) s.size) w2 hJ2 (parts_lt s g s.size hk)
      have HR := hideW hR
      clear hR hJ2 hb2
      gi_wp2
      refine ⟨fun _ => by omega, ?_⟩
      refine HR.out.mono ?_
      rintro e W3 (⟨rfl, hJ3, hk3⟩ | ⟨rfl, hJx3⟩)
      · have HJ3 := hideW hJ3
        clear hk3 hJ3
        gi_wp2
        go_end0
        exact ⟨⟨_, rfl⟩, .inl ⟨_, rfl, HJ3.out⟩⟩
      · have HX3 := hideW hJx3
        clear hJx3
        gi_wp2
        go_end0
        exact ⟨⟨_, rfl⟩, .inr ⟨_, trivial, HX3.out⟩⟩

set_option maxHeartbeats 1000000 in
theorem parts_in (n : Nat) (s : ByteArray) (g : Int) (w : World) :
    CallsIn Fence.wide n Tryz.prog 97 #[.string s, .int .u8 g] w fun e w' => e = .returned (.func (.func 118) #[] #[.pointer (some ⟨w.heap.size, 0, none⟩), .pointer (some ⟨w.heap.size + 1, 0, none⟩)]) ∧ w' = (w.alloc (.cells #[.string s] 9)).alloc (.cells #[.int .u8 g] 5) := by
  refine callsIn_of_wp Tryz.func97 rfl trivial ?_ rfl
  simp only [Tryz.ntmps97, List.size_toArray, List.length_cons, List.length_nil, Nat.reduceAdd, Nat.reduceSub, Array.replicate_succ, Array.replicate_zero, List.push_toArray, List.append_toArray, List.nil_append, List.cons_append]
  gi_wp2
  go_ret
  exact ⟨rfl, rfl⟩

/-- What parts hands back tells all parts, in their order, to whatever loop body keeps its two variables. -/
theorem parts_stops (n : Nat) (hn : 3 ≤ n) (B1 B2 : Nat) (s : ByteArray) (g : Int) (hs : s.size ≤ 1048576) (w : World) (hl1 : B1 < w.heap.size) (hl2 : B2 < w.heap.size) (hc1 : w.cell? ⟨B1, 0, none⟩ = some (.string s)) (hc2 : w.cell? ⟨B2, 0, none⟩ = some (.int .u8 g)) :
    SeqStopsK Fence.wide n Tryz.prog 118 #[.pointer (some ⟨B1, 0, none⟩), .pointer (some ⟨B2, 0, none⟩)] (fun x : ByteArray => #[Value.string x]) (Keep2 B1 B2) (fun ys => ys = cut s g) (fun _ => True) (cut s g).length w := fun l J Jx W hW hJ _ hY h0 =>
  parts1_in n hn l B1 B2 s g hs J Jx hY W hJ (Nat.lt_of_lt_of_le hl1 hW.size) (Nat.lt_of_lt_of_le hl2 hW.size) ((hW.cell (p := ⟨B1, 0, none⟩) hl1).trans hc1) ((hW.cell (p := ⟨B2, 0, none⟩) hl2).trans hc2) h0
end Go.Proofs.YtoofnjccpoeomaaGreatDoor.ctr
