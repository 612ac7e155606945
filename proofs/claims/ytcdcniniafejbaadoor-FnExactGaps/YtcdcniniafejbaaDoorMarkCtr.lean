/- Contracts of the laws' own helpers over lists of texts (eqStringS, markText, markStringS, heldStringS): two lists alike are told alike; marks are written into a list's own row, and found there again; nothing else turns. -/
import Derived.Test.YtcdcniniafejbaaDoorRowBase
import Derived.Handy
import Derived.BigQuiet
import Derived.Deep.QuietTactic
import Derived.Deep.RegionWith
import Derived.Lib.ItoaNum
import Derived.Laws.IdiomStrings
import Derived.Laws.AppendOwn
namespace Go.Proofs.YtcdcniniafejbaaDoor.ctr
open Go.RowKit

/-- The digits that are left of a mark's number. -/
def mleft (m : Nat) : List UInt8 := if m = 0 then [] else Lib.decDigits m
theorem mleft_step (m : Nat) (h : m ≠ 0) : mleft m = mleft (m / 10) ++ [UInt8.ofNat (48 + m % 10)] := by
  unfold mleft
  rw [if_neg h, Lib.decDigits]
  by_cases h0 : m < 10
  · rw [dif_pos h0, if_pos (by omega), Nat.mod_eq_of_lt h0]
    rfl
  · rw [dif_neg h0, if_neg (by omega)]
theorem mdec_len : ∀ (k u : Nat), u < 10 ^ (k + 1) → (Lib.decDigits u).length ≤ k + 1
  | 0, u, h => by rw [Lib.decDigits, dif_pos (by simpa using h)]; simp
  | k + 1, u, h => by
    rw [Lib.decDigits]
    by_cases h0 : u < 10
    · rw [dif_pos h0]; simp
    · rw [dif_neg h0, List.length_append]
      have := mdec_len k (u / 10) (by rw [Nat.pow_succ] at h; omega)
      simp
      omega
theorem mleft_len (n : Nat) (h : n < 1000000000) : (mleft n).length ≤ 9 := by
  unfold mleft
  split
  · simp
  · exact mdec_len 8 n (by have hp : (10 : Nat) ^ (8 + 1) = 1000000000 := by decide
                           rw [hp]; exact h)
/-- The mark of a number. -/
def mk (k : Nat) : ByteArray := ⟨(109 :: mleft k).toArray⟩
theorem conv1 (W : World) (c : Int) (h0 : 0 ≤ c) (h1 : c < 256) : (convert 97 9 (.slice (some ⟨W.heap.size, 0, none⟩) 1 1)).run Tryd.prog (W.alloc (.cells #[.int .u8 c] 5)) = .ok (.string ⟨#[UInt8.ofNat c.toNat]⟩) (W.alloc (.cells #[.int .u8 c] 5)) := by
  refine run_convert_bytes_back _ 97 9 5 ⟨W.heap.size, 0, none⟩ 1 [UInt8.ofNat c.toNat] Tryd.underlying97 Tryd.underlying5 Tryd.underlying9 (fun j hj => ?_)
  have hj0 : j = 0 := by simpa using hj
  subst hj0
  have ha : (⟨W.heap.size, 0, none⟩ : Addr).add 0 = ⟨W.heap.size, 0, none⟩ := by unfold Addr.add; split <;> simp_all
  have hc : (W.alloc (.cells #[.int .u8 c] 5)).cell? ⟨W.heap.size, 0, none⟩ = some (.int .u8 c) := by simp [World.alloc, World.cell?, -World.alloc_eq]
  rw [ha, hc]
  simp
  omega

set_option maxHeartbeats 1000000 in
theorem markText (n : Nat) (w : World) (hn : 0 < n) (hb : n < 1000000000) :
    Calls Tryd.prog 55 #[.int .i64 (n : Int)] w fun e w' => e = .returned (.string (mk n)) ∧ Below w.heap.size w w' := by
  have hl9 := mleft_len n hb
  have HL9 : Hid _ := hl9
  clear hl9
  go_enter Tryd.func55, Tryd.ntmps55
  go_wp2
  go_loopw [0, 3] (fun t o wr => ∃ (m : Nat) (out : List UInt8), m < 1000000000 ∧ t = .int .i64 (m : Int) ∧ o = .string ⟨out.toArray⟩ ∧ out.length ≤ 9 ∧ Hid (mleft m ++ out = mleft n) ∧ Below w.heap.size w wr) (fun t _ _ => (intOf t).toNat)
  case atStart => exact ⟨n, [], hb, rfl, rfl, by simp, by unfold Hid; simp, Below.refl _ _⟩
  case round =>
    obtain ⟨m, out, hm, rfl, rfl, ho, HO, hB⟩ := hrel
    by_cases hz : m = 0
    · subst hz
      go_wp2
      go_ret
      refine ⟨ret_str ?_, hB⟩
      unfold mk
      rw [← HO.out]
      apply WideShapes.bytes_inj
      simp [mleft]
    · have hmp : 0 < (m : Int) := by omega
      have hcv := fun W : World => conv1 W (48 + (m : Int) % 10) (by omega) (by omega)
      have hx : mleft (m / 10) ++ ((48 + UInt8.ofNat (m % 10)) :: out) = mleft n := by
        rw [← HO.out, mleft_step m hz, UInt8.ofNat_add]
        simp
      have hol : ((48 + UInt8.ofNat (m % 10)) :: out).length ≤ 9 := by
        have h := HL9.out
        rw [← hx, List.length_append] at h
        omega
      have HX : Hid _ := hx
      have HOL : Hid _ := hol
      clear hx hol
      go_wp2
      refine ⟨⟨m / 10, (48 + UInt8.ofNat (m % 10)) :: out, by omega, by simp, ?_, HOL.out, HX.out, hB.alloc hB.size _⟩, by simp [intOf]; omega⟩
      apply congrArg Value.string
      apply WideShapes.bytes_inj
      simp

theorem mgrown_trans {W W1 W2 : World} {r : Option Nat} (h : W.grownBy W1 r) (k : W1.grownBy W2 r) : W.grownBy W2 r :=
  ⟨k.os.trans h.os, k.tape.trans h.tape, k.output.trans h.output, Nat.le_trans h.size k.size, fun j hj hr => (k.block j (Nat.lt_of_lt_of_le hj h.size) hr).trans (h.block j hj hr)⟩
theorem mgrown_set (W : World) (B o : Nat) (v : Value) : W.grownBy (W.setCell ⟨B, o, none⟩ v) (some B) :=
  ⟨rfl, rfl, rfl, by rw [mset_size]; exact Nat.le_refl _, fun k _ hk => Below.heap_setCell W _ _ k (by intro e; apply hk; rw [e])⟩
theorem own_set {W : World} {g n : Nat} (h : OwnRow W g n) (k : Nat) (hk : k < n) (v : Value) : OwnRow (W.setCell ⟨g, k, none⟩ v) g n := fun j hj => by
  obtain ⟨⟨u, hu⟩, hf⟩ := h j hj
  refine ⟨?_, by rw [World.frozen?_setCell]; exact hf⟩
  by_cases e : j = k
  · subst e
    exact ⟨v, World.cell?_setCell_same W _ _ hu⟩
  · exact ⟨u, by rw [World.cell?_setCell_other W _ _ _ (by intro h; injection h with _ h2; exact e h2.symm)]; exact hu⟩
theorem mark_set {W : World} {g k k0 : Nat} {u : Value} (h : ∀ j, j < k → W.cell? ⟨g, j, none⟩ = some (.string (mk (k0 + j)))) (hu : W.cell? ⟨g, k, none⟩ = some u) :
    ∀ j, j < k + 1 → (W.setCell ⟨g, k, none⟩ (.string (mk (k0 + k)))).cell? ⟨g, j, none⟩ = some (.string (mk (k0 + j))) := fun j hj => by
  by_cases e : j = k
  · subst e
    exact World.cell?_setCell_same W _ _ hu
  · rw [World.cell?_setCell_other W _ _ _ (by intro h; injection h with _ h2; exact e h2.symm)]
    exact h j (by omega)

end Go.Proofs.YtcdcniniafejbaaDoor.ctr
