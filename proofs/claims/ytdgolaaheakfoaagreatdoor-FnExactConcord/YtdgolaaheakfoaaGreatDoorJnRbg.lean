/- Contracts of the model's l01Cut and Words: each answers, in new memory, the plain list cut of the parts between a byte, at every text of at most 1048576 bytes; nothing that was there turns. Small laws on lists of texts that lie in a row of their own. Contracts of the laws' own helpers over lists of texts (eqStringS, markText, markStringS, heldStringS): two lists alike are told alike; marks are written into a list's own row, and found there again; nothing else turns. -/
import Derived.Test.YtdgolaaheakfoaaGreatDoorJnRaa
import Derived.Handy
import Derived.Laws.AppendOwn
import Derived.Laws.OwnMore
import Derived.OwnWalk
import Derived.RangeFuncBox
import Derived.Maps.AppendAt
import Derived.BigQuiet
import Derived.Deep.QuietTactic
import Derived.Deep.RegionWith
import Derived.Lib.ItoaNum
import Derived.Laws.IdiomStrings
namespace Go.Proofs.YtdgolaaheakfoaaGreatDoor.ctr
open Go.RowKit
def bAt (s : ByteArray) (k : Nat) : Int := ((s.data.toList.getD k 0).toNat : Int)
def startAt (s : ByteArray) (g : Int) : Nat → Nat
  | 0 => 0
  | k + 1 => if bAt s k = g then k + 1 else startAt s g k
def partsTo (s : ByteArray) (g : Int) : Nat → List ByteArray
  | 0 => []
  | k + 1 => if bAt s k = g then partsTo s g k ++ [s.extract (startAt s g k) k] else partsTo s g k
def cut (s : ByteArray) (g : Int) : List ByteArray := partsTo s g s.size ++ [s.extract (startAt s g s.size) s.size]
end Go.Proofs.YtdgolaaheakfoaaGreatDoor.ctr
namespace Go.Proofs.YtdgolaaheakfoaaGreatDoor.ctr
open Go.RowKit
def StrRow (W : World) (v : Value) (xs : List ByteArray) : Prop :=
  ∃ a cap, v = .slice a xs.length cap ∧ (xs = [] ∨ ∃ g, a = some ⟨g, 0, none⟩ ∧ ∀ j, j < xs.length → W.cell? ⟨g, j, none⟩ = some (.string (xs.getD j ⟨#[]⟩)))
theorem StrRow.at {W : World} {v : Value} {xs : List ByteArray} (h : StrRow W v xs) : ∃ a cap, v = .slice a xs.length cap ∧ ∀ k, k < xs.length → ∃ g, a = some ⟨g, 0, none⟩ ∧ W.cell? ⟨g, k, none⟩ = some (.string (xs.getD k ⟨#[]⟩)) := by
  obtain ⟨a, cap, hv, hc⟩ := h
  refine ⟨a, cap, hv, fun k hk => ?_⟩
  rcases hc with rfl | ⟨g, ha, hc⟩
  · simp at hk
  · exact ⟨g, ha, hc k hk⟩
def StrAt (W : World) (g : Nat) (xs : List ByteArray) : Prop := ∀ j, j < xs.length → W.cell? ⟨g, j, none⟩ = some (.string (xs.getD j ⟨#[]⟩))
theorem StrAt.row {W : World} {g cap : Nat} {xs : List ByteArray} (h : StrAt W g xs) : StrRow W (.slice (some ⟨g, 0, none⟩) xs.length cap) xs := ⟨_, _, rfl, .inr ⟨g, rfl, h⟩⟩
theorem StrAt.below {W W' : World} {g : Nat} {xs : List ByteArray} (h : StrAt W g xs) {B : Nat} (hb : Below B W W') (hg : g < B) : StrAt W' g xs := fun j hj => (hb.cell (p := ⟨g, j, none⟩) hg).trans (h j hj)
theorem StrAt.grown {W W' : World} {g r : Nat} {xs : List ByteArray} (h : StrAt W g xs) (hb : W.grownBy W' (some r)) (hg : g < W.heap.size) (hr : g ≠ r) : StrAt W' g xs := fun j hj =>
  (World.cell?_of_block (hb.block g hg (by intro e; exact hr (Option.some.inj e)))).trans (h j hj)
end Go.Proofs.YtdgolaaheakfoaaGreatDoor.ctr
namespace Go.Proofs.YtdgolaaheakfoaaGreatDoor.ctr
open Go.RowKit
def mleft (m : Nat) : List UInt8 := if m = 0 then [] else Lib.decDigits m
theorem mleft_step (m : Nat) (h : m ≠ 0) : mleft m = mleft (m / 10) ++ [UInt8.ofNat (48 + m % 10)] := by
  unfold mleft
  rw [if_neg h, Lib.decDigits]
  by_cases h0 : m < 10
  · rw [dif_pos h0, if_pos (by omega), Nat.mod_eq_of_lt h0]
    rfl
  · rw [dif_neg h0, if_neg (by omega)]
theorem mdec_len : ∀ (k u : Nat), u < 10 ^ (k + 1) → (Lib.decDigits u).length ≤ k + 1
  | 0, u, h => by rw [Lib.decDigits, dif_pos (by simpa using h)]; simp
  | k + 1, u, h => by
    rw [Lib.decDigits]
    by_cases h0 : u < 10
    · rw [dif_pos h0]; simp
    · rw [dif_neg h0, List.length_append]
      have := mdec_len k (u / 10) (by rw [Nat.pow_succ] at h; omega)
      simp
      omega
theorem mleft_len (n : Nat) (h : n < 1000000000) : (mleft n).length ≤ 9 := by
  unfold mleft
  split
  · simp
  · exact mdec_len 8 n (by have hp : (10 : Nat) ^ (8 + 1) = 1000000000 := by decide
                           rw [hp]; exact h)
def mk (k : Nat) : ByteArray := ⟨(109 :: mleft k).toArray⟩
theorem conv1 (W : World) (c : Int) (h0 : 0 ≤ c) (h1 : c < 256) : (convert 177 9 (.slice (some ⟨W.heap.size, 0, none⟩) 1 1)).run Tryz.prog (W.alloc (.cells #[.int .u8 c] 5)) = .ok (.string ⟨#[UInt8.ofNat c.toNat]⟩) (W.alloc (.cells #[.int .u8 c] 5)) := by
  refine run_convert_bytes_back _ 177 9 5 ⟨W.heap.size, 0, none⟩ 1 [UInt8.ofNat c.toNat] Tryz.underlying177 Tryz.underlying5 Tryz.underlying9 (fun j hj => ?_)
  have hj0 : j = 0 := by simpa using hj
  subst hj0
  have ha : (⟨W.heap.size, 0, none⟩ : Addr).add 0 = ⟨W.heap.size, 0, none⟩ := by unfold Addr.add; split <;> simp_all
  have hc : (W.alloc (.cells #[.int .u8 c] 5)).cell? ⟨W.heap.size, 0, none⟩ = some (.int .u8 c) := by simp [World.alloc, World.cell?, -World.alloc_eq]
  rw [ha, hc]
  simp
  omega
set_option maxHeartbeats 1000000 in
theorem markText (n : Nat) (w : World) (hn : 0 < n) (hb : n < 1000000000) :
    Calls Tryz.prog 98 #[.int .i64 (n : Int)] w fun e w' => e = .returned (.string (mk n)) ∧ Below w.heap.size w w' := by
  have hl9 := mleft_len n hb
  have HL9 : Hid _ := hl9
  clear hl9
  go_enter Tryz.func98, Tryz.ntmps98
  go_wp2
  go_loopw [0, 3] (fun t o wr => ∃ (m : Nat) (out : List UInt8), m < 1000000000 ∧ t = .int .i64 (m : Int) ∧ o = .string ⟨out.toArray⟩ ∧ out.length ≤ 9 ∧ Hid (mleft m ++ out = mleft n) ∧ Below w.heap.size w wr) (fun t _ _ => (intOf t).toNat)
  case atStart => exact ⟨n, [], hb, rfl, rfl, by simp, by unfold Hid; simp, Below.refl _ _⟩
  case round =>
    obtain ⟨m, out, hm, rfl, rfl, ho, HO, hB⟩ := hrel
    by_cases hz : m = 0
    · subst hz
      go_wp2
      go_ret
      refine ⟨ret_str ?_, hB⟩
      unfold mk
      rw [← HO.out]
      apply WideShapes.bytes_inj
      simp [mleft]
    · have hmp : 0 < (m : Int) := by omega
      have hcv := fun W : World => conv1 W (48 + (m : Int) % 10) (by omega) (by omega)
      have hx : mleft (m / 10) ++ ((48 + UInt8.ofNat (m % 10)) :: out) = mleft n := by
        rw [← HO.out, mleft_step m hz, UInt8.ofNat_add]
        simp
      have hol : ((48 + UInt8.ofNat (m % 10)) :: out).length ≤ 9 := by
        have h := HL9.out
        rw [← hx, List.length_append] at h
        omega
      have HX : Hid _ := hx
      have HOL : Hid _ := hol
      clear hx hol
      go_wp2
      refine ⟨⟨m / 10, (48 + UInt8.ofNat (m % 10)) :: out, by omega, by simp, ?_, HOL.out, HX.out, hB.alloc hB.size _⟩, by simp [intOf]; omega⟩
      apply congrArg Value.string
      apply WideShapes.bytes_inj
      simp
end Go.Proofs.YtdgolaaheakfoaaGreatDoor.ctr
