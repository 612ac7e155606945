/- Contracts of the program's digitSigns and PutRoman: PutRoman answers the plain function putRoman at every int,; and what else the law reaches. -/
import Derived.Test.YtpclaceefapppaaGreatDoorJnZatA
import Derived.Test.YtpclaceefapppaaGreatDoorJnZaf
import Derived.Test.YtpclaceefapppaaGreatDoorJnZab
import Derived.Test.YtpclaceefapppaaGreatDoorShelfZ
import Derived.Lib.ConvBytes
import Derived.Laws.IdiomStrings
import Derived.Test.YtpclaceefapppaaGreatDoorJnZai
import Derived.RangeFuncNested
import Derived.RangeFuncBound
import Derived.RangeFuncCalls
import Derived.RangeFuncLeaves
import Derived.Shelf.Abstract
import Derived.Shelf.RegionOpen
import Derived.OwnWalkIn
import Derived.TacticsInMore
import Derived.LoopNIn
import Derived.LoopIn
import Derived.Sort.QuietIn
set_option maxRecDepth 100000
set_option maxHeartbeats 2000000
namespace Go.Proofs.YtpclaceefapppaaGreatDoor.ctr
open Go.RowKit
theorem pow10_eq : Lib.pow10Tab = [1, 10, 100, 1000, 10000, 100000, 1000000, 10000000, 100000000, 1000000000, 10000000000, 100000000000, 1000000000000, 10000000000000, 100000000000000, 1000000000000000, 10000000000000000, 100000000000000000, 1000000000000000000, 10000000000000000000] := by decide
theorem implDecText (n : Int) (w : World) (h0 : -9223372036854775808 ≤ n) (h1 : n ≤ 9223372036854775807)
    (hT : Lib.TabIs Tryz.prog w "internal/strconv.uint64pow10" .u64 Lib.pow10Tab) :
    CR 123 #[.int .i64 n] w (.string ⟨(Lib.itoa n).toArray⟩) := by
  have HT : Hid (Lib.TabIs Tryz.prog w "internal/strconv.uint64pow10" .u64 Lib.pow10Tab) := hT
  clear hT
  go_enter Tryz.func123, Tryz.ntmps123
  go_wp2_with fail
  refine (Tryz.strconv_Itoa n h0 h1 _ HT.out).mono ?_
  rintro e w1 ⟨rfl, k, os, hw⟩
  have hb : Below w.heap.size w w1 := by rw [hw]; exact below_grown _ _ _
  clear hw
  go_wp2
  go_ret
  exact ⟨rfl, hb⟩
end Go.Proofs.YtpclaceefapppaaGreatDoor.ctr
namespace Go.Proofs.YtpclaceefapppaaGreatDoor.ctr
open Go.RowKit Go.Shelf
attribute [local go_sem] Oper.semAt_some
theorem clone (s : ByteArray) (w : World) (hs : s.size ≤ 1048576) :
    CR 280 #[.string s] w (.string s) := by
  go_enter Tryz.func280, Tryz.ntmps280
  go_wp2_with fail
  refine (Tryz.stringslite_Clone s _ (by omega)).mono ?_
  rintro e w' ⟨rfl, hb⟩
  have HB : Hid _ := hb
  clear hb
  go_wp2
  go_ret
  exact ⟨rfl, HB.out⟩
theorem hideW {p : Prop} (h : p) : Hid p := h
theorem partsMono (s : ByteArray) (g : Int) : ∀ k j, (partsTo s g k).length ≤ (partsTo s g (k + j)).length
  | k, 0 => Nat.le_refl _
  | k, j + 1 => by
   refine Nat.le_trans (partsMono s g k j) ?_
   show _ ≤ (partsTo s g (k + j + 1)).length
   rw [partsTo]
   split
   · rw [List.length_append]; omega
   · exact Nat.le_refl _
theorem parts_lt (s : ByteArray) (g : Int) (k : Nat) (hk : k ≤ s.size) : (partsTo s g k).length < (cut s g).length := by
 have := partsMono s g k (s.size - k)
 rw [show k + (s.size - k) = s.size from by omega] at this
 unfold cut
 rw [List.length_append]
 simp
 omega
def Keep2 (B1 B2 : Nat) (W W' : World) : Prop := W.heap.size ≤ W'.heap.size ∧ W'.heap[B1]? = W.heap[B1]? ∧ W'.heap[B2]? = W.heap[B2]?
theorem parts1_in (n : Nat) (hn : 3 ≤ n) (l B1 B2 : Nat) (s : ByteArray) (g : Int) (hs : s.size ≤ 1048576) (J Jx : List ByteArray → World → Prop)
    (hY : ∀ pre x W, J pre W → pre.length < (cut s g).length → YieldAt Fence.wide (n - 1) Tryz.prog l #[.string x] W fun e W' =>
     (e = .returned (.bool true) ∧ J (pre ++ [x]) W' ∧ Keep2 B1 B2 W W') ∨ (e = .returned (.bool false) ∧ Jx (pre ++ [x]) W'))
    (W : World) (hJ : AbidesFrom W.heap.size J) (hl1 : B1 < W.heap.size) (hl2 : B2 < W.heap.size) (hc1 : W.cell? ⟨B1, 0, none⟩ = some (.string s)) (hc2 : W.cell? ⟨B2, 0, none⟩ = some (.int .u8 g)) (h0 : J [] W) :
    CallsIn Fence.wide n Tryz.prog 279 #[.func (.yield l) #[] #[], .pointer (some ⟨B1, 0, none⟩), .pointer (some ⟨B2, 0, none⟩)] W fun e W' => (∃ v, e = .returned v) ∧
      ((∃ ys, ys = cut s g ∧ J ys W') ∨ (∃ pre, True ∧ Jx pre W')) := by
  have HJ : Hid (AbidesFrom W.heap.size J) := hJ
  have HY : Hid _ := hY
  clear hJ hY
  refine callsIn_of_wp Tryz.func279 rfl trivial ?_ rfl
  simp only [Tryz.ntmps279, List.size_toArray, List.length_cons, List.length_nil, Nat.reduceAdd, Nat.reduceSub, Array.replicate_succ, Array.replicate_zero, List.push_toArray, List.append_toArray, List.nil_append, List.cons_append]
  gi_wp2
  gi_loopw [4, 8] (fun st i wr => ∃ k : Nat, k ≤ s.size ∧ i = .int .i64 (k : Int) ∧ st = .int .i64 (startAt s g k : Int) ∧ J (partsTo s g k) wr ∧ W.heap.size ≤ wr.heap.size ∧ wr.cell? ⟨B1, 0, none⟩ = some (.string s) ∧ wr.cell? ⟨B2, 0, none⟩ = some (.int .u8 g)) (fun _ i _ => s.size - (intOf i).toNat)
  case atStart => exact ⟨0, Nat.zero_le _, rfl, rfl, h0, Nat.le_refl _, hc1, hc2⟩
  case round =>
   obtain ⟨k, hk, rfl, rfl, hJs, hsz, hd1, hd2⟩ := hrel
   have hsl := start_le s g k
   have HJs : Hid _ := hJs
   clear hJs
   by_cases hlt : k < s.size
   · have hx := bAt_eq s k hlt
     by_cases hg : bAt s k = g
     · have hg' : (bAt s k != g) = false := by simp [hg]
       obtain ⟨HP, HS⟩ : Hid (partsTo s g (k + 1) = partsTo s g k ++ [s.extract (startAt s g k) k]) ∧ Hid (startAt s g (k + 1) = k + 1) := parts_hit s g k hg
       clear hg
       have hex : (s.extract (startAt s g k) k).size ≤ 1048576 := by rw [ByteArray.size_extract]; omega
       gi_wp2
       gi_quiet (fail)
       gi_wp2_with fail
       refine ⟨trivial, fun _ => by omega, ?_⟩
       refine (callsIn_wide.2 (clone (s.extract (startAt s g k) k) _ hex)).mono ?_
       rintro e w2 ⟨rfl, hb2⟩
       have hJ2 : J (partsTo s g k) w2 := HJ.out _ _ _ none HJs.out ⟨hb2.os, hb2.tape, hb2.output, hb2.size, fun j hj _ => hb2.block j hj⟩ (fun r e => by cases e)
       have hb2' : Below wr.heap.size wr w2 := ⟨hb2.os, hb2.tape, hb2.output, hb2.size, hb2.block⟩
       have hcl1 : w2.cell? ⟨B1, 0, none⟩ = some (.string s) := (hb2'.cell (p := ⟨B1, 0, none⟩) (Nat.lt_of_lt_of_le hl1 hsz)).trans hd1
       have hcl2 : w2.cell? ⟨B2, 0, none⟩ = some (.int .u8 g) := (hb2'.cell (p := ⟨B2, 0, none⟩) (Nat.lt_of_lt_of_le hl2 hsz)).trans hd2
       have hsz2 : W.heap.size ≤ w2.heap.size := Nat.le_trans hsz hb2'.size
       obtain ⟨fn, tmps, assign, body, hy, hR⟩ := HY.out _ (s.extract (startAt s g k) k) w2 hJ2 (parts_lt s g k hk)
       have HR := hideW hR
       clear hR hJ2 hb2 hb2'
       gi_wp2
       refine ⟨fun _ => by omega, ?_⟩
       refine HR.out.mono ?_
       rintro e W3 (⟨rfl, hJ3, hk3⟩ | ⟨rfl, hJx3⟩)
       · have hm1 : W3.cell? ⟨B1, 0, none⟩ = some (.string s) := (World.cell?_of_block (a := ⟨B1, 0, none⟩) hk3.2.1).trans hcl1
         have hm2 : W3.cell? ⟨B2, 0, none⟩ = some (.int .u8 g) := (World.cell?_of_block (a := ⟨B2, 0, none⟩) hk3.2.2).trans hcl2
         have hsz3 : W.heap.size ≤ W3.heap.size := Nat.le_trans hsz2 hk3.1
         have HJ3 := hideW hJ3
         clear hk3 hJ3
         gi_wp2
         go_roundw
         case rel => exact ⟨k + 1, by omega, by go_num, by rw [HS.out]; go_num, by rw [HP.out]; exact HJ3.out, hsz3, hm1, hm2⟩
         case measure => simp [intOf]; omega
       · have HX3 := hideW hJx3
         clear hJx3
         gi_wp2
         refine bodyPost_ret (results_none rfl _ _ _) rfl ?_
         exact ⟨⟨_, rfl⟩, .inr ⟨_, trivial, HX3.out⟩⟩
     · have hg' : (bAt s k != g) = true := by simp [hg]
       obtain ⟨HP, HS⟩ : Hid (partsTo s g (k + 1) = partsTo s g k) ∧ Hid (startAt s g (k + 1) = startAt s g k) := parts_miss s g k hg
       clear hg
       gi_wp2
       gi_quiet (fail)
       gi_wp2
       go_roundw
       case rel => exact ⟨k + 1, by omega, by go_num, by rw [HS.out], by rw [HP.out]; exact HJ.out _ _ _ none HJs.out ⟨rfl, rfl, rfl, Nat.le_refl _, fun _ _ _ => rfl⟩ (fun r e => by cases e), hsz, hd1, hd2⟩
       case measure => simp [intOf]; omega
   · have hks : k = s.size := by omega
     subst hks
     have hlo : (startAt s g s.size : Int) ≤ (s.size : Int) := by omega
     have hex : (s.extract (startAt s g s.size) s.size).size ≤ 1048576 := by rw [ByteArray.size_extract]; omega
     gi_wp2_with fail
     refine ⟨trivial, fun _ => by omega, ?_⟩
     refine (callsIn_wide.2 (clone (s.extract (startAt s g s.size) s.size) _ hex)).mono ?_
     rintro e w2 ⟨rfl, hb2⟩
     have hJ2 : J (partsTo s g s.size) w2 := HJ.out _ _ _ none HJs.out ⟨hb2.os, hb2.tape, hb2.output, hb2.size, fun j hj _ => hb2.block j hj⟩ (fun r e => by cases e)
     obtain ⟨fn, tmps, assign, body, hy, hR⟩ := HY.out _ (s.extract (startAt s g s.size) s.size) w2 hJ2 (parts_lt s g s.size hk)
     have HR := hideW hR
     clear hR hJ2 hb2
     gi_wp2
     refine ⟨fun _ => by omega, ?_⟩
     refine HR.out.mono ?_
     rintro e W3 (⟨rfl, hJ3, hk3⟩ | ⟨rfl, hJx3⟩)
     · have HJ3 := hideW hJ3
       clear hk3 hJ3
       gi_wp2
       go_end0
       exact ⟨⟨_, rfl⟩, .inl ⟨_, rfl, HJ3.out⟩⟩
     · have HX3 := hideW hJx3
       clear hJx3
       gi_wp2
       go_end0
       exact ⟨⟨_, rfl⟩, .inr ⟨_, trivial, HX3.out⟩⟩
theorem parts_in (n : Nat) (s : ByteArray) (g : Int) (w : World) :
    CallsIn Fence.wide n Tryz.prog 234 #[.string s, .int .u8 g] w fun e w' => e = .returned (.func (.func 279) #[] #[.pointer (some ⟨w.heap.size, 0, none⟩), .pointer (some ⟨w.heap.size + 1, 0, none⟩)]) ∧ w' = (w.alloc (.cells #[.string s] 9)).alloc (.cells #[.int .u8 g] 5) := by
  refine callsIn_of_wp Tryz.func234 rfl trivial ?_ rfl
  simp only [Tryz.ntmps234, List.size_toArray, List.length_cons, List.length_nil, Nat.reduceAdd, Nat.reduceSub, Array.replicate_succ, Array.replicate_zero, List.push_toArray, List.append_toArray, List.nil_append, List.cons_append]
  gi_wp2
  go_ret
  exact ⟨rfl, rfl⟩
theorem parts_stops (n : Nat) (hn : 3 ≤ n) (B1 B2 : Nat) (s : ByteArray) (g : Int) (hs : s.size ≤ 1048576) (w : World) (hl1 : B1 < w.heap.size) (hl2 : B2 < w.heap.size) (hc1 : w.cell? ⟨B1, 0, none⟩ = some (.string s)) (hc2 : w.cell? ⟨B2, 0, none⟩ = some (.int .u8 g)) :
    SeqStopsK Fence.wide n Tryz.prog 279 #[.pointer (some ⟨B1, 0, none⟩), .pointer (some ⟨B2, 0, none⟩)] (fun x : ByteArray => #[Value.string x]) (Keep2 B1 B2) (fun ys => ys = cut s g) (fun _ => True) (cut s g).length w := fun l J Jx W hW hJ _ hY h0 =>
  parts1_in n hn l B1 B2 s g hs J Jx hY W hJ (Nat.lt_of_lt_of_le hl1 hW.size) (Nat.lt_of_lt_of_le hl2 hW.size) ((hW.cell (p := ⟨B1, 0, none⟩) hl1).trans hc1) ((hW.cell (p := ⟨B2, 0, none⟩) hl2).trans hc2) h0
end Go.Proofs.YtpclaceefapppaaGreatDoor.ctr
namespace Go.Proofs.YtpclaceefapppaaGreatDoor.ctr
open Go.RowKit Go.Shelf
attribute [local go_sem] Oper.semAt_some
theorem own_mono {w : World} {b b' e size : Nat} {v : Value} {n : Nat} {xs : List Value} (h : w.ownsRow b e size v n xs) (hb : b' ≤ b) : w.ownsRow b' e size v n xs := by
 obtain ⟨h1, h | ⟨g, cap, cur, hv, hg, hr⟩⟩ := h
 · exact ⟨h1, .inl h⟩
 · exact ⟨h1, .inr ⟨g, cap, cur, hv, Nat.le_trans hb hg, hr⟩⟩
theorem keep_t {B1 B2 : Nat} {A B C : World} (h : Keep2 B1 B2 A B) (k : Keep2 B1 B2 B C) : Keep2 B1 B2 A C :=
 ⟨Nat.le_trans h.1 k.1, k.2.1.trans h.2.1, k.2.2.trans h.2.2⟩
theorem keep_b {B1 B2 : Nat} {w : World} (h1 : B1 < w.heap.size) (h2 : B2 < w.heap.size) (W : World) (l : Nat) (o o' : Obj) (hl : w.heap.size ≤ l) (_ : W.heap[l]? = some o) (_ : o.isCells = false) (_ : o.isWalk = false) : Keep2 B1 B2 W (W.putObj l o') :=
 ⟨by simp [World.putObj], World.putObj_heap_other (by omega), World.putObj_heap_other (by omega)⟩
theorem appended3 {W w1 : World} {n0 n1 B B1 B2 : Nat} {t e : TypeId} {v v' : Value} {k m : Nat} {xs ys : List Value} {tmp : Obj}
    (hv : Boxed W B t v) (hte : t ≠ e) (hrow : W.ownsRow n1 e 1 v k xs) (hn1 : n1 ≤ W.heap.size) (h01 : n0 ≤ n1) (hB : n0 ≤ B) (hB1 : B1 < n1) (hB2 : B2 < n1) (hne1 : B1 ≠ B) (hne2 : B2 ≠ B)
    (hown' : w1.ownsRow n1 e 1 v' m ys) (hgrow : (W.alloc tmp).grownBy w1 v.ownBlock) :
    Boxed w1 B t v ∧ Boxed (w1.setCell ⟨B, 0, none⟩ v') B t v' ∧ (w1.setCell ⟨B, 0, none⟩ v').ownsRow n1 e 1 v' m ys ∧ KeepsOthers W (w1.setCell ⟨B, 0, none⟩ v') ∧ Below n0 W (w1.setCell ⟨B, 0, none⟩ v') ∧ Keep2 B1 B2 W (w1.setCell ⟨B, 0, none⟩ v') := by
  obtain ⟨hv1, hv2, _, hk2, hb2⟩ := hv.appended hte (own_mono hrow h01) (Nat.le_trans h01 hn1) hB (own_mono hown' h01) hgrow
  have hk : ∀ j, j < n1 → j ≠ B → (w1.setCell ⟨B, 0, none⟩ v').heap[j]? = W.heap[j]? := by
   intro j hj hjB
   rw [Below.heap_setCell w1 _ _ j hjB, hgrow.block j (by rw [size_new']; omega) (by intro ej; have := own_base hrow j ej.symm; omega), Below.heap_alloc W tmp j (by omega)]
  exact ⟨hv1, hv2, hown'.kept (grownBy_setCell' w1 B v') (.inr (hv1.not_row hte hown').symm), hk2, hb2, hb2.size, hk B1 hB1 hne1, hk B2 hB2 hne2⟩
theorem cut_len (s : ByteArray) (g : Int) : (cut s g).length ≤ s.size + 1 := by
 have := parts_len s g s.size
 unfold cut
 rw [List.length_append]
 simp
 omega
theorem words_in (n : Nat) (hn : 6 ≤ n) (s : ByteArray) (hs : s.size ≤ 1048576) (w : World) :
    CallsIn Fence.wide n Tryz.prog 167 #[.string s] w fun e W' => ∃ v, e = .returned v ∧ W'.ownsRow w.heap.size 9 1 v (cut s 32).length ((cut s 32).map Value.string) ∧ Below w.heap.size w W' := by
  have h1 : 1 ≤ n := by omega
  have hcl := cut_len s 32
  obtain ⟨i0, hi, hz0, hz1, hz2⟩ := info_parts info_str
  refine callsIn_of_wp_marks Tryz.func167 rfl trivial ?_ rfl
  simp only [Tryz.ntmps167, List.size_toArray, List.length_cons, List.length_nil, Nat.reduceAdd, Nat.reduceSub, Array.replicate_succ, Array.replicate_zero, List.push_toArray, List.append_toArray, List.nil_append, List.cons_append]
  gi_wp2_with fail
  refine ⟨trivial, ?_⟩
  refine (parts_in _ s 32 _).mono ?_
  rintro e w' ⟨rfl, rfl⟩
  gi_wp2_with fail
  have bO := Boxed.new w 42 (.slice none 0 0)
  have b1 := Boxed.new (w.alloc (.cells #[.slice none 0 0] 42)) 9 (.string s)
  rw [size_new'] at b1
  have b2 := Boxed.new ((w.alloc (.cells #[.slice none 0 0] 42)).alloc (.cells #[.string s] 9)) 5 (.int .u8 32)
  rw [size_new', size_new'] at b2
  obtain ⟨W0, hW0⟩ : ∃ W0, ((w.alloc (.cells #[.slice none 0 0] 42)).alloc (.cells #[.string s] 9)).alloc (.cells #[.int .u8 32] 5) = W0 := ⟨_, rfl⟩
  have hB0 : Below w.heap.size w W0 := by
   rw [← hW0]
   exact (((Below.refl _ w).alloc (Nat.le_refl _) _).alloc (by rw [size_new']; omega) _).alloc (by rw [size_new', size_new']; omega) _
  have hz : W0.heap.size = w.heap.size + 3 := by rw [← hW0, size_new', size_new', size_new']
  have bO' := (bO.alloc (.cells #[.string s] 9)).alloc (.cells #[.int .u8 32] 5)
  have b1' := b1.alloc (.cells #[.int .u8 32] 5)
  rw [hW0] at bO' b1' b2 ⊢
  clear bO b1
  refine wpIn_rangeFunc_ownG rfl h1 (gf := 279) (lb := #[.pointer (some ⟨w.heap.size + 1, 0, none⟩), .pointer (some ⟨w.heap.size + 2, 0, none⟩)]) rfl trivial (enters_of Tryz.func279 (by kernel_rfl) rfl)
    (parts_stops (n - 1) (by omega) (w.heap.size + 1) (w.heap.size + 2) s 32 hs W0 (by omega) (by omega) b1'.cell b2.cell) keep_t (keep_b (by omega) (by omega)) (Below.refl _ _) (fun _ => rfl)
    (fun pre W => (∃ v, Boxed W w.heap.size 42 v ∧ W.ownsRow (w.heap.size + 3) 9 1 v pre.length (pre.map Value.string) ∧ (v = .slice none 0 0 ↔ pre = [])) ∧ Below w.heap.size w W ∧ w.heap.size + 3 ≤ W.heap.size)
    (fun _ _ _ => False)
    (OwnFrom.and (Own.from (holdsRow_own (w.heap.size + 3) w.heap.size 42 9 1 (fun pre : List ByteArray => pre.length) (fun pre => pre.map Value.string) (fun pre v => v = .slice none 0 0 ↔ pre = [])) _) (OwnFrom.and (ownFrom_below (Nat.le_refl _) (by omega)) (fun s' A B row hs' hg _ => Nat.le_trans hs' hg.size)))
    (fun _ _ _ _ _ hs _ _ => hs)
    ⟨⟨_, bO', World.ownsRow_nil _ _ _ _, by simp⟩, hB0, by omega⟩
    (fun x => { tmps := #[.string s, undef, .slice none 0 0, .pointer (some ⟨w.heap.size, 0, none⟩), .string x, .string s, .func (.func 279) #[] #[.pointer (some ⟨w.heap.size + 1, 0, none⟩), .pointer (some ⟨w.heap.size + 2, 0, none⟩)], .string x, undef, undef, undef, undef, undef], defers := [] }) ?assign ?body ?done ?stop
  case assign =>
   intro l x W K hK
   gi_wp2
   exact hK
  case body =>
   rintro l pre x W ⟨⟨v, hv, hrow, hnil⟩, hB, hsz⟩ hlt
   have hc := hv.cell
   gi_wp2_with (gi_at_builtin; refine wpListIn_append_own _ rfl _ _ 42 rfl (w.heap.size + 3) 9 i0 (.string ⟨#[]⟩) 1 16 Tryz.underlying42 hi hz0 hz1 hz2 rfl (by decide) _ _ _ rfl (hrow.alloc _) ⟨W.heap.size, 0, none⟩ 1 1 [.string x] rfl rfl (cell_one_new _ _ _) (by simp [Value.oneCell']) (by unfold maxLen; omega) (by omega) (by rw [size_new']; omega) ?_; intro v' w1 hown' hgrow _; obtain ⟨g', cap', rfl⟩ := ownsRow_succ hown'; obtain ⟨hv1, hv2, hr2, hk2, hb2, hk3⟩ := appended3 (n0 := w.heap.size) (B1 := w.heap.size + 1) (B2 := w.heap.size + 2) hv (by decide) hrow hsz (by omega) (Nat.le_refl _) (by omega) (by omega) (by omega) (by omega) hown' hgrow; have hc1 := hv1.cell; have hf1 := hv1.frozen)
   exact ⟨hk2.from _, hk3, ⟨_, hv2, by simpa using hr2, by simp⟩, hB.trans hb2, Nat.le_trans hsz hb2.size⟩
  case done =>
   rintro D ys W hD rfl ⟨⟨v, hv, hrow, hnil⟩, hB, hsz⟩ hK
   have hc := hv.cell
   gi_wp2
   refine ⟨by simp, .inl ⟨_, _, rfl, run_takeDeferred hK, ?_⟩⟩
   exact ⟨_, results_tmp rfl _ _ _, v, rfl, own_mono (ownsRow_putObj hrow _ hK rfl) (by omega), hB.trans (belowK_b (w := w) (Nat.le_refl _) W D _ _ (by omega) hK rfl rfl)⟩
  case stop =>
   rintro D c pre W _ _ h _
   exact h.elim
theorem implWords (s : ByteArray) (w : World) (hs : s.size ≤ 1048576) :
    Calls Tryz.prog 167 #[.string s] w fun e W' => ∃ v, e = .returned v ∧ W'.ownsRow w.heap.size 9 1 v (cut s 32).length ((cut s 32).map Value.string) ∧ Below w.heap.size w W' :=
  (callsIn_wide (n := 6)).1 (words_in 6 (Nat.le_refl _) s hs w)
end Go.Proofs.YtpclaceefapppaaGreatDoor.ctr
namespace Go.Proofs.YtpclaceefapppaaGreatDoor.ctr
open Go.RowKit
theorem implReadDec (s : ByteArray) (w : World) (hs : s.size ≤ maxLen) (hT : Lib.TabIs Tryz.prog w "internal/strconv.uint64pow10" .u64 Lib.pow10Tab) :
    CR 117 #[.string s] w (.int .i64 (readDec s)) := by
  unfold maxLen at hs
  have HT : Hid (Lib.TabIs Tryz.prog w "internal/strconv.uint64pow10" .u64 Lib.pow10Tab) := hT
  clear hT
  by_cases h9 : 9 < s.size
  · have HB : Hid (readDec s = -1) := read_long s h9
    go_enter Tryz.func117, Tryz.ntmps117
    go_wp2
    go_ret
    exact ⟨ret_int HB.out.symm, Below.refl _ _⟩
  go_enter Tryz.func117, Tryz.ntmps117
  go_wp2
  go_loop [3, 10] (fun n i => ∃ (k : Nat) (v : Int), k ≤ s.size ∧ k ≤ 9 ∧ i = .int .i64 k ∧ n = .int .i64 v ∧ 0 ≤ v ∧ v ≤ 999999999 ∧ digs s k = true ∧ v = val s k) (fun _ i => s.size - (intOf i).toNat)
  case atStart => exact ⟨0, 0, Nat.zero_le _, Nat.zero_le _, rfl, rfl, by omega, by omega, by simp [digs], by simp [val, valL]⟩
  case round =>
   obtain ⟨k, v, hk, hk9, rfl, rfl, v0, v1, hd, hv⟩ := hrel
   have HD : Hid (digs s k = true) := hd
   have HV : Hid (v = val s k) := hv
   clear hd hv
   by_cases hlt : k < s.size
   · by_cases c1 : (s[k].toNat : Int) < 48
     · have HB : Hid (readDec s = -1) := read_stop s k hlt (inB_false (.inl c1))
       go_wp2
       go_ret
       exact ⟨ret_int HB.out.symm, Below.refl _ _⟩
     · by_cases c2 : 57 < (s[k].toNat : Int)
       · have HB : Hid (readDec s = -1) := read_stop s k hlt (inB_false (.inr c2))
         go_wp2
         go_ret
         exact ⟨ret_int HB.out.symm, Below.refl _ _⟩
       · have hb : digB s[k] = true := inB_true (by omega) (by omega)
         have HN : Hid (digs s (k + 1) = true) := by unfold Hid; rw [digs_succ s k hlt, HD.out, hb]; rfl
         have HS : Hid (val s (k + 1) = 10 * v + (s[k].toNat : Int) - 48) := by unfold Hid; rw [val_succ s k hlt, HV.out]
         clear hb
         go_wp2
         have hB := val_bd9 s (k + 1) (by omega) (by omega) HN.out
         rw [HS.out] at hB
         exact ⟨⟨k + 1, 10 * v + (s[k].toNat : Int) - 48, by omega, by omega, by go_num, by rw [show v * 10 + ((s[k].toNat : Int) - 48) = 10 * v + (s[k].toNat : Int) - 48 from by omega], by omega, by omega, HN.out, HS.out.symm⟩, by simp [intOf]; omega⟩
   · have hks : k = s.size := by omega
     cases hq : (Lib.itoa v == s.toList)
     · have HB : Hid (readDec s = -1) := read_bad s (by rw [← hks, ← HV.out]; exact itoa_ne hq)
       clear hks
       go_wp2_with (go_at_call 123; refine (implDecText _ _ (by omega) (by omega) HT.out).mono ?_; rintro e w' ⟨rfl, hb⟩)
       go_ret
       exact ⟨ret_int HB.out.symm, hb⟩
     · have HB : Hid (readDec s = v) := by unfold Hid; rw [HV.out, hks]; exact read_good s (by omega) (by rw [← hks]; exact HD.out) (by rw [← hks, ← HV.out]; exact itoa_eq hq)
       clear hks
       go_wp2_with (go_at_call 123; refine (implDecText _ _ (by omega) (by omega) HT.out).mono ?_; rintro e w' ⟨rfl, hb⟩)
       go_ret
       exact ⟨ret_int HB.out.symm, hb⟩
end Go.Proofs.YtpclaceefapppaaGreatDoor.ctr
