/- Contract of the model's l01Bent: a text with a byte changed, cut or put in, sometimes: of a text of at most 1000 bytes it makes one of at most one byte more, and nothing but the cursor turns. -/
import Derived.Test.YtckjcaloofjeoaaGreatDoorNumDraw
import Derived.Deep.RegionWith
namespace Go.Proofs.YtckjcaloofjeoaaGreatDoor.ctr
open Go.RowKit

def bentIn : List ByteArray := [⟨#[48]⟩, ⟨#[32]⟩, ⟨#[73]⟩, ⟨#[97]⟩, ⟨#[10]⟩, ⟨#[47]⟩, ⟨#[49]⟩, ⟨#[88]⟩]
def bentFor : List ByteArray := [⟨#[48]⟩, ⟨#[65]⟩, ⟨#[86]⟩, ⟨#[57]⟩, ⟨#[32]⟩, ⟨#[98]⟩]
theorem hide {p : Prop} (h : p) : Hid p := h
theorem Cur.drew {n0 : Nat} {W : World} {a : Option Addr} {len cap B : Nat} (h : Cur n0 W a len cap B) : Cur n0 W.drew a len cap B :=
  ⟨h.lo, h.hi, h.code, h.c0, h.c1, h.c2, h.f1, h.f2⟩
theorem grown_drew {W W1 : World} {r : Option Nat} (h : W.grownBy W1 r) : W.grownBy W1.drew r := ⟨h.os, h.tape, h.output, h.size, h.block⟩
theorem bentIn_len : ∀ j : Fin 8, (bentIn.getD j.val ⟨#[]⟩).size = 1 := by decide
theorem bentFor_len : ∀ j : Fin 6, (bentFor.getD j.val ⟨#[]⟩).size = 1 := by decide
theorem ext_size (s : ByteArray) (i j : Nat) : (s.extract i j).size = min j s.size - i := ByteArray.size_extract ..

set_option maxHeartbeats 2000000 in
theorem l01Bent (n0 : Nat) (W : World) (a : Option Addr) (len cap B : Nat) (s : ByteArray) (hlen : len ≤ maxLen) (hs : s.size ≤ 1000) (hC : Cur n0 W a len cap B) :
    Calls Tryz.prog 37 #[.pointer (some ⟨B, 0, none⟩), .string s] W fun e W' => ∃ r : ByteArray, e = .returned (.string r) ∧ r.size ≤ s.size + 1 ∧ Cur n0 W' a len cap B ∧ W.grownBy W' (some B) := by
  have HK : Hid (Cur n0 W a len cap B) := hC
  clear hC
  go_enter Tryz.func37, Tryz.ntmps37
  go_wp2_with fail
  refine (l01Below n0 _ a len cap B _ hlen (by omega) HK.out).mono ?_
  rintro e W1 ⟨x, rfl, x0, x1, hC1, hG1⟩
  obtain ⟨i, rfl⟩ := Int.eq_ofNat_of_zero_le x0
  have HK1 : Hid (Cur n0 W1 a len cap B) := hC1
  have HG1 : Hid (W.grownBy W1 (some B)) := hG1
  clear hC1 hG1
  go_wp2_with fail
  refine (l01Below n0 _ a len cap B 10 hlen (by omega) HK1.out).mono ?_
  rintro e W2 ⟨k, rfl, k0, k1, hC2, hG2⟩
  have HK2 : Hid (Cur n0 W2 a len cap B) := hC2
  have HG2 : Hid (W.grownBy W2 (some B)) := grown_trans HG1.out hG2
  clear hC2 hG2
  have hi : i ≤ s.size := by omega
  have hx1 : (s.extract 0 i).size ≤ 1000 := by rw [ext_size]; omega
  have hx2 : (s.extract i s.size).size ≤ 1000 := by rw [ext_size]; omega
  have hx3 : (s.extract (i + 1) s.size).size ≤ 1000 := by rw [ext_size]; omega
  by_cases e0 : k = 0
  · subst e0
    go_wp2
    go_ret
    exact ⟨_, rfl, by rw [ext_size]; omega, HK2.out, HG2.out⟩
  have e0' : (k == 0) = false := by simp [e0]
  by_cases e1 : k = 1
  · subst e1
    go_wp2
    go_region_with (go_at_call 74; refine (l01Pick n0 _ a len cap B W2.heap.size 8 8 (fun j => bentIn.getD j ⟨#[]⟩) hlen (by omega) (by omega) ?_ ?_ ?_ ?_).mono ?_; (show W2.heap.size < (W2.alloc _).heap.size; rw [size_new]; omega); exact Nat.ne_of_gt HK2.out.hi; exact (fun j hj => alloc_strs W2 bentIn _ j hj); (first | exact (HK2.out.alloc _).drew | exact HK2.out.alloc _ | exact (HK2.out.alloc _).drewN _); rintro e W3 ⟨j, hj, rfl, hC3, hG3⟩; obtain ⟨r, hr, hr1⟩ : ∃ r, bentIn.getD j ⟨#[]⟩ = r ∧ r.size ≤ 1 := ⟨_, rfl, Nat.le_of_eq (bentIn_len ⟨j, hj⟩)⟩; rw [hr]; clear hr; have HG3 := hide hG3; have HC3 := hide hC3; clear hG3 hC3)
    go_wp2
    go_ret
    refine ⟨_, rfl, ?_, (Hid.out HC3), ?_⟩
    · simp only [ByteArray.size_append, ext_size]
      omega
    · first | exact grown_trans (grown_drew (grown_alloc HG2.out _)) HG3.out | exact grown_trans (grown_alloc HG2.out _) HG3.out | exact grown_trans (grown_drewN (grown_alloc HG2.out _) _) HG3.out
  have e1' : (k == 1) = false := by simp [e1]
  by_cases e2 : k = 2
  · subst e2
    by_cases hl : i < s.size
    · have hl2 : (i : Int) + 1 ≤ (s.size : Int) := by omega
      have hwr : IntKind.i64.wrap ((i : Int) + 1) = (i : Int) + 1 := by rw [PlainAid.i64_is]; unfold wrap64; omega
      have hle : (i : Int) ≤ 1000 := by omega
      have hsl : ∀ w : World, (Instr.slice 9 (.string s) (some (.int .i64 ((i : Int) + 1))) none none).run Tryz.prog w = .ok (.string (s.extract (i + 1) s.size)) w := fun w => (run_slice_string_l (P := Tryz.prog) (w := w) (t := 9) (s := s) (ht := Tryz.underlying9) .i64 ((i : Int) + 1) (by omega) (by omega)).trans (by rw [show ((i : Int) + 1).toNat = i + 1 from by omega])
      go_wp2
      go_region_with (go_at_call 74; refine (l01Pick n0 _ a len cap B W2.heap.size 6 6 (fun j => bentFor.getD j ⟨#[]⟩) hlen (by omega) (by omega) ?_ ?_ ?_ ?_).mono ?_; (show W2.heap.size < (W2.alloc _).heap.size; rw [size_new]; omega); exact Nat.ne_of_gt HK2.out.hi; exact (fun j hj => alloc_strs W2 bentFor _ j hj); (first | exact (HK2.out.alloc _).drew | exact HK2.out.alloc _ | exact (HK2.out.alloc _).drewN _); rintro e W3 ⟨j, hj, rfl, hC3, hG3⟩; obtain ⟨r, hr, hr1⟩ : ∃ r, bentFor.getD j ⟨#[]⟩ = r ∧ r.size ≤ 1 := ⟨_, rfl, Nat.le_of_eq (bentFor_len ⟨j, hj⟩)⟩; rw [hr]; clear hr; have HG3 := hide hG3; have HC3 := hide hC3; clear hG3 hC3)
      go_wp2
      go_ret
      refine ⟨_, rfl, ?_, (Hid.out HC3), ?_⟩
      · simp only [ByteArray.size_append, ext_size]
        omega
      · first | exact grown_trans (grown_drew (grown_alloc HG2.out _)) HG3.out | exact grown_trans (grown_alloc HG2.out _) HG3.out | exact grown_trans (grown_drewN (grown_alloc HG2.out _) _) HG3.out
    · go_wp2
      go_ret
      exact ⟨_, rfl, by omega, HK2.out, HG2.out⟩
  have e2' : (k == 2) = false := by simp [e2]
  go_wp2
  go_ret
  exact ⟨_, rfl, by omega, HK2.out, HG2.out⟩
end Go.Proofs.YtckjcaloofjeoaaGreatDoor.ctr
