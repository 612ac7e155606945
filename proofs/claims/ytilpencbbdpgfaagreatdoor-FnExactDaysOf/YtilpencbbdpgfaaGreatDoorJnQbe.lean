/- Contracts of the model's MonthName and of the program's MonthName: each answers the plain function monthText, at every argument, where the program's table of months holds its texts. Contracts of the model's MonthOf and of the program's MonthOf: each answers the plain function monOf, at every text, where the program's table of months holds its texts. Contracts of the model's l01Cut and Words: each answers, in new memory, the plain list cut of the parts between a byte, at every text of at most 1048576 bytes; nothing that was there turns. Plain laws of the texts of days counted back, of no program: a text, what is read of one, and that each comes back. -/
import Derived.Test.YtilpencbbdpgfaaGreatDoorJnQah
import Derived.Test.YtilpencbbdpgfaaGreatDoorJnQaa
import Derived.Handy
import Derived.Laws.AppendOwn
import Derived.Laws.OwnMore
import Derived.OwnWalk
import Derived.RangeFuncBox
import Derived.Maps.AppendAt
import Derived.Test.YtilpencbbdpgfaaGreatDoorJnQbb
import Derived.Test.YtilpencbbdpgfaaGreatDoorJnQbd
namespace Go.Proofs.YtilpencbbdpgfaaGreatDoor.ctr
open Go.RowKit
def mons : List (List UInt8) := [[106, 97, 110], [102, 101, 98], [109, 97, 114], [97, 112, 114], [109, 97, 121], [106, 117, 110], [106, 117, 108], [97, 117, 103], [115, 101, 112], [111, 99, 116], [110, 111, 118], [100, 101, 99]]
def monthText (m : Int) : ByteArray := ⟨(if 1 ≤ m ∧ m ≤ 12 then mons.getD (m - 1).toNat [] else []).toArray⟩
end Go.Proofs.YtilpencbbdpgfaaGreatDoor.ctr
namespace Go.Proofs.YtilpencbbdpgfaaGreatDoor.ctr
open Go.RowKit
/-! ### MonthOf -/
def monOf (s : ByteArray) : Int := if (mons.findIdx fun l => l == s.data.toList) < 12 then ((mons.findIdx fun l => l == s.data.toList : Nat) : Int) + 1 else 0
end Go.Proofs.YtilpencbbdpgfaaGreatDoor.ctr
namespace Go.Proofs.YtilpencbbdpgfaaGreatDoor.ctr
open Go.RowKit
def bAt (s : ByteArray) (k : Nat) : Int := ((s.data.toList.getD k 0).toNat : Int)
theorem bAt_eq (s : ByteArray) (k : Nat) (h : k < s.size) : (s[k].toNat : Int) = bAt s k := by
  have h' : k < s.data.toList.length := h
  unfold bAt
  rw [List.getD, List.getElem?_eq_getElem h']
  rfl
def startAt (s : ByteArray) (g : Int) : Nat → Nat
  | 0 => 0
  | k + 1 => if bAt s k = g then k + 1 else startAt s g k
def partsTo (s : ByteArray) (g : Int) : Nat → List ByteArray
  | 0 => []
  | k + 1 => if bAt s k = g then partsTo s g k ++ [s.extract (startAt s g k) k] else partsTo s g k
def cut (s : ByteArray) (g : Int) : List ByteArray := partsTo s g s.size ++ [s.extract (startAt s g s.size) s.size]
theorem start_le (s : ByteArray) (g : Int) : ∀ k, startAt s g k ≤ k
  | 0 => Nat.le_refl _
  | k + 1 => by
    have := start_le s g k
    unfold startAt
    split <;> omega
theorem parts_len (s : ByteArray) (g : Int) : ∀ k, (partsTo s g k).length ≤ k
  | 0 => Nat.le_refl _
  | k + 1 => by
    have := parts_len s g k
    unfold partsTo
    split
    · rw [List.length_append]; simp; omega
    · omega
theorem parts_hit (s : ByteArray) (g : Int) (k : Nat) (h : bAt s k = g) : partsTo s g (k + 1) = partsTo s g k ++ [s.extract (startAt s g k) k] ∧ startAt s g (k + 1) = k + 1 := by
  constructor
  · rw [partsTo, if_pos h]
  · rw [startAt, if_pos h]
theorem parts_miss (s : ByteArray) (g : Int) (k : Nat) (h : bAt s k ≠ g) : partsTo s g (k + 1) = partsTo s g k ∧ startAt s g (k + 1) = startAt s g k := by
  constructor
  · rw [partsTo, if_neg h]
  · rw [startAt, if_neg h]
theorem own_base {w : World} {base e size : Nat} {v : Value} {n : Nat} {xs : List Value} (h : w.ownsRow base e size v n xs) : ∀ k, v.ownBlock = some k → base ≤ k := by
  obtain ⟨_, h | ⟨g, cap, cur, rfl, hb, _⟩⟩ := h
  · obtain ⟨rfl, _⟩ := h
    intro k hk
    cases hk
  · intro k hk
    cases hk
    exact hb
theorem size_new' (W : World) (o : Obj) : (W.alloc o).heap.size = W.heap.size + 1 := by simp [World.alloc, -World.alloc_eq]
theorem own_empty (w : World) (e : TypeId) : (w.alloc (.cells #[] e)).ownsRow w.heap.size e 1 (.slice (some ⟨w.heap.size, 0, none⟩) 0 0) 0 [] :=
  ⟨rfl, .inr ⟨w.heap.size, 0, #[], rfl, Nat.le_refl _, by simp [World.alloc, -World.alloc_eq], Nat.le_refl _, Nat.zero_le _, rfl, rfl⟩⟩
theorem info_str : (Tryz.prog.info? 9).map (fun i => (i.zero, i.size, i.bytes)) = some (some (.string ⟨#[]⟩), 1, 16) := by kernel_rfl
set_option maxHeartbeats 1000000 in
theorem l01Cut (s : ByteArray) (g : Int) (w : World) (hs : s.size ≤ 1048576) :
    Calls Tryz.prog 137 #[.string s, .int .u8 g] w fun e w' => ∃ v, e = .returned v ∧ w'.ownsRow w.heap.size 9 1 v (cut s g).length ((cut s g).map Value.string) ∧ Below w.heap.size w w' := by
  obtain ⟨i0, hi, hz0, hz1, hz2⟩ := info_parts info_str
  go_enter Tryz.func137, Tryz.ntmps137
  go_wp2
  go_loopw [5, 6, 7] (fun o f i wr => ∃ k : Nat, k ≤ s.size ∧ i = .int .i64 (k : Int) ∧ f = .int .i64 (startAt s g k : Int) ∧ wr.ownsRow w.heap.size 9 1 o (partsTo s g k).length ((partsTo s g k).map Value.string) ∧ Below w.heap.size w wr) (fun _ _ i _ => s.size - (intOf i).toNat)
  case atStart => exact ⟨0, Nat.zero_le _, rfl, rfl, own_empty w _, (Below.refl _ _).alloc (Nat.le_refl _) _⟩
  case round =>
    obtain ⟨k, hk, rfl, rfl, hrow, hB⟩ := hrel
    have hsl := start_le s g k
    have hpl := parts_len s g k
    by_cases hlt : k < s.size
    · have hx := bAt_eq s k hlt
      by_cases hg : bAt s k = g
      · have hg' : (bAt s k == g) = true := by simp [hg]
        obtain ⟨HP, HS⟩ : Hid (partsTo s g (k + 1) = partsTo s g k ++ [s.extract (startAt s g k) k]) ∧ Hid (startAt s g (k + 1) = k + 1) := parts_hit s g k hg
        clear hg
        go_wp2_with (at_builtin; refine wpList_append_own _ rfl _ _ 156 rfl w.heap.size 9 i0 (.string ⟨#[]⟩) 1 16 Tryz.underlying156 hi hz0 hz1 hz2 rfl (by decide) _ _ _ rfl (hrow.alloc _) ⟨wr.heap.size, 0, none⟩ 1 1 [.string (s.extract (startAt s g k) k)] rfl rfl (cell_one_new _ _ _) (by simp [Value.oneCell']) (by unfold maxLen; omega) (by omega) (by have := hB.size; simp; omega) ?_; intro v' w1 hown' hgrow _)
        have hB1 : Below w.heap.size w w1 := (hB.alloc hB.size _).grown hgrow (by have := hB.size; rw [size_new']; omega) (own_base hrow)
        refine ⟨⟨k + 1, by omega, by go_num, by rw [HS.out]; go_num, ?_, hB1⟩, by simp [intOf]; omega⟩
        rw [HP.out, List.length_append, List.map_append]
        exact hown'
      · have hg' : (bAt s k == g) = false := by simp [hg]
        obtain ⟨HP, HS⟩ : Hid (partsTo s g (k + 1) = partsTo s g k) ∧ Hid (startAt s g (k + 1) = startAt s g k) := parts_miss s g k hg
        clear hg
        go_wp2
        exact ⟨⟨k + 1, by omega, by go_num, by rw [HS.out], by rw [HP.out]; exact hrow, hB⟩, by simp [intOf]; omega⟩
    · have hks : k = s.size := by omega
      subst hks
      have hlo : (startAt s g s.size : Int) ≤ (s.size : Int) := by omega
      go_wp2_with (at_builtin; refine wpList_append_own _ rfl _ _ 156 rfl w.heap.size 9 i0 (.string ⟨#[]⟩) 1 16 Tryz.underlying156 hi hz0 hz1 hz2 rfl (by decide) _ _ _ rfl (hrow.alloc _) ⟨wr.heap.size, 0, none⟩ 1 1 [.string (s.extract (startAt s g s.size) s.size)] rfl rfl (cell_one_new _ _ _) (by simp [Value.oneCell']) (by unfold maxLen; omega) (by omega) (by have := hB.size; simp; omega) ?_; intro v' w1 hown' hgrow _)
      have hB1 : Below w.heap.size w w1 := (hB.alloc hB.size _).grown hgrow (by have := hB.size; rw [size_new']; omega) (own_base hrow)
      go_ret
      refine ⟨v', rfl, ?_, hB1⟩
      unfold cut
      rw [List.length_append, List.map_append]
      exact hown'
end Go.Proofs.YtilpencbbdpgfaaGreatDoor.ctr
namespace Go.Proofs.YtilpencbbdpgfaaGreatDoor.ctr
open Go.RowKit
end Go.Proofs.YtilpencbbdpgfaaGreatDoor.ctr
