/- Contracts of the model's draws: the cursor (l01New, l01Byte, l01Below, l01Once): each call returns, a number drawn below n lies below n, and nothing that lay ahead of the cursor turns. Plain laws on what a draw leaves of a world. Contracts of the model's draws for numbers and numerals (l01Raw, DrawFloorDiv, DrawFloorMod, DrawDecText, DrawPutRoman): each call returns a number of 64 bits, and nothing that was there turns. Contract of the model's l01Bent: a text with a byte changed, cut or put in, sometimes: of a text of at most 1000 bytes it makes one of at most one byte more, and nothing but the cursor turns. What a law is told of its []byte, and the contract of the laws' own big. -/
import Derived.Test.YtchhdoipkimbgaaGreatDoorBaseM
import Derived.Handy
import Derived.BigQuiet
import Derived.Deep.QuietTactic
import Derived.Laws.BitsAllLaws
import Derived.PlainAid
import Derived.Deep.RegionWith
import Derived.Test.YtchhdoipkimbgaaGreatDoorVarsKitM
namespace Go.Proofs.YtchhdoipkimbgaaGreatDoor.ctr
open Go.RowKit

/-- The code's bytes lie below n0 (or there are none). -/
def CodeAt (n0 : Nat) (W : World) (a : Option Addr) (len : Nat) : Prop :=
  len = 0 ∨ ∃ (b off : Nat) (zs : Nat → Int), a = some ⟨b, off, none⟩ ∧ b < n0 ∧ (∀ i, i < len → W.cell? ⟨b, off + i, none⟩ = some (.int .u8 (zs i))) ∧ ∀ i, i < len → 0 ≤ zs i ∧ zs i ≤ 255
theorem CodeAt.below {n0 : Nat} {W W' : World} {a : Option Addr} {len : Nat} (h : CodeAt n0 W a len) (hb : Below n0 W W') : CodeAt n0 W' a len := by
  rcases h with h | ⟨b, off, zs, ha, hlt, hc, hz⟩
  · exact .inl h
  · exact .inr ⟨b, off, zs, ha, hlt, fun i hi => by rw [hb.cell (p := ⟨b, off + i, none⟩) hlt]; exact hc i hi, hz⟩
/-- A cursor at block B over that code. -/
structure Cur (n0 : Nat) (W : World) (a : Option Addr) (len cap B : Nat) : Prop where
  lo : n0 ≤ B
  hi : B < W.heap.size
  code : CodeAt n0 W a len
  c0 : W.cell? ⟨B, 0, none⟩ = some (.slice a len cap)
  c1 : ∃ i : Nat, i ≤ len ∧ W.cell? ⟨B, 1, none⟩ = some (.int .i64 (i : Int))
  c2 : ∃ h : Int, W.cell? ⟨B, 2, none⟩ = some (.int .i64 h)
  f1 : W.frozen? ⟨B, 1, none⟩ = false
  f2 : W.frozen? ⟨B, 2, none⟩ = false
theorem Cur.drewN {n0 : Nat} {W : World} {a : Option Addr} {len cap B : Nat} (h : Cur n0 W a len cap B) (n : Nat) : Cur n0 (W.drewN n) a len cap B :=
  ⟨h.lo, h.hi, h.code, h.c0, h.c1, h.c2, h.f1, h.f2⟩
theorem set_size (w : World) (p : Addr) (v : Value) : (w.setCell p v).heap.size = w.heap.size := by simp [World.setCell]
theorem below_set (w : World) {n0 : Nat} (p : Addr) (hp : n0 ≤ p.block) (v : Value) : Below n0 w (w.setCell p v) := (Below.refl n0 w).setCell hp v
theorem Cur.set2 {n0 : Nat} {W : World} {a : Option Addr} {len cap B : Nat} (h : Cur n0 W a len cap B) (y : Int) : Cur n0 (W.setCell ⟨B, 2, none⟩ (.int .i64 y)) a len cap B := by
  obtain ⟨y0, hy0⟩ := h.c2
  obtain ⟨i, hi, h1⟩ := h.c1
  refine ⟨h.lo, by rw [set_size]; exact h.hi, h.code.below (below_set W _ h.lo _), ?_, ⟨i, hi, ?_⟩, ⟨y, World.cell?_setCell_same W _ _ hy0⟩, by rw [World.frozen?_setCell]; exact h.f1, by rw [World.frozen?_setCell]; exact h.f2⟩
  · rw [World.cell?_setCell_other W _ _ _ (by intro e; injection e with _ e2; omega)]; exact h.c0
  · rw [World.cell?_setCell_other W _ _ _ (by intro e; injection e with _ e2; omega)]; exact h1
theorem Cur.set1 {n0 : Nat} {W : World} {a : Option Addr} {len cap B : Nat} (h : Cur n0 W a len cap B) (k : Nat) (hk : k ≤ len) : Cur n0 (W.setCell ⟨B, 1, none⟩ (.int .i64 (k : Int))) a len cap B := by
  obtain ⟨y0, hy0⟩ := h.c2
  obtain ⟨i, hi, h1⟩ := h.c1
  refine ⟨h.lo, by rw [set_size]; exact h.hi, h.code.below (below_set W _ h.lo _), ?_, ⟨k, hk, World.cell?_setCell_same W _ _ h1⟩, ⟨y0, ?_⟩, by rw [World.frozen?_setCell]; exact h.f1, by rw [World.frozen?_setCell]; exact h.f2⟩
  · rw [World.cell?_setCell_other W _ _ _ (by intro e; injection e with _ e2; omega)]; exact h.c0
  · rw [World.cell?_setCell_other W _ _ _ (by intro e; injection e with _ e2; omega)]; exact hy0
theorem grown_set (W : World) (B o : Nat) (v : Value) : W.grownBy (W.setCell ⟨B, o, none⟩ v) (some B) :=
  ⟨rfl, rfl, rfl, by rw [set_size]; exact Nat.le_refl _, fun k _ hk => Below.heap_setCell W _ _ k (by intro e; apply hk; rw [e])⟩
theorem grown_drewN {W W1 : World} {r : Option Nat} (h : W.grownBy W1 r) (n : Nat) : W.grownBy (W1.drewN n) r := ⟨h.os, h.tape, h.output, h.size, h.block⟩
theorem grown_trans {W W1 W2 : World} {r : Option Nat} (h : W.grownBy W1 r) (k : W1.grownBy W2 r) : W.grownBy W2 r :=
  ⟨k.os.trans h.os, k.tape.trans h.tape, k.output.trans h.output, Nat.le_trans h.size k.size, fun j hj hr => (k.block j (Nat.lt_of_lt_of_le hj h.size) hr).trans (h.block j hj hr)⟩
theorem mask255 (x : Int) : 0 ≤ bits .and .i64 x 255 ∧ bits .and .i64 x 255 ≤ 255 := by
  show 0 ≤ IntKind.i64.wrap ((BitVec.ofInt 64 x &&& BitVec.ofInt 64 255).toNat : Int) ∧ IntKind.i64.wrap ((BitVec.ofInt 64 x &&& BitVec.ofInt 64 255).toNat : Int) ≤ 255
  have h1 : (BitVec.ofInt 64 x &&& BitVec.ofInt 64 255).toNat ≤ 255 := by
    rw [BitVec.toNat_and]
    exact Nat.le_trans Nat.and_le_right (by decide)
  have h2 : ∀ n : Nat, n ≤ 255 → 0 ≤ IntKind.i64.wrap (n : Int) ∧ IntKind.i64.wrap (n : Int) ≤ 255 := by
    intro n hn
    rw [PlainAid.i64_is]
    unfold wrap64
    omega
  exact h2 _ h1

set_option maxHeartbeats 1000000 in
theorem l01Byte (n0 : Nat) (W : World) (a : Option Addr) (len cap B : Nat) (hlen : len ≤ maxLen) (hC : Cur n0 W a len cap B) :
    Calls Tryz.prog 128 #[.pointer (some ⟨B, 0, none⟩)] W fun e W' => ∃ x : Int, e = .returned (.int .i64 x) ∧ 0 ≤ x ∧ x ≤ 255 ∧ Cur n0 W' a len cap B ∧ W.grownBy W' (some B) := by
  unfold maxLen at hlen
  have HK : Hid (Cur n0 W a len cap B) := hC
  obtain ⟨lo, hi, code, c0, ⟨i, hil, c1⟩, ⟨h, c2⟩, f1, f2⟩ := hC
  have HC : Hid (CodeAt n0 W a len) := code
  clear code
  by_cases hlt : i < len
  · obtain ⟨b, off, zs, rfl, hbn, hcell, hz⟩ : ∃ (b off : Nat) (zs : Nat → Int), a = some ⟨b, off, none⟩ ∧ b < n0 ∧ (∀ i, i < len → W.cell? ⟨b, off + i, none⟩ = some (.int .u8 (zs i))) ∧ ∀ i, i < len → 0 ≤ zs i ∧ zs i ≤ 255 := by
      rcases HC.out with h0 | h0
      · omega
      · exact h0
    obtain ⟨z0, z1⟩ := hz i hlt
    have hx := hcell i hlt
    have hne : ∀ v, (W.setCell ⟨B, 2, none⟩ v).cell? ⟨b, off + i, none⟩ = some (.int .u8 (zs i)) := fun v => by
      rw [World.cell?_setCell_other W _ _ _ (by intro e; injection e with e1; omega)]; exact hx
    clear hcell hz hx
    go_enter Tryz.func128, Tryz.ntmps128
    go_wp2
    go_quiet (fail)
    go_wp2
    go_quiet (fail)
    go_wp2
    go_quiet (fail)
    go_wp2
    go_ret
    rw [show ((i : Int) + 1) = ((i + 1 : Nat) : Int) from by omega]
    refine ⟨_, rfl, (mask255 _).1, (mask255 _).2, ?_, ?_⟩
    · exact ((HK.out.set2 _).drewN _).set1 (i + 1) (by omega)
    · exact grown_trans (grown_drewN (grown_set W B 2 _) _) (grown_set _ B 1 _)
  · go_enter Tryz.func128, Tryz.ntmps128
    go_wp2
    go_quiet (fail)
    go_wp2
    go_quiet (fail)
    go_wp2
    go_ret
    obtain ⟨m0, m1⟩ := mask255 (bits .xor .i64 (wrap64 (wrap64 (h * 6364136223846793005) + 1442695040888963407) / 8589934592) (wrap64 (wrap64 (h * 6364136223846793005) + 1442695040888963407) / 35184372088832))
    exact ⟨_, rfl, m0, m1, ((HK.out.set2 _).drewN _).drewN _, grown_drewN (grown_drewN (grown_set W B 2 _) _) _⟩

/-- What a call that draws leaves: the cursor stands, and of what lay there but the cursor's own block nothing has turned. -/
theorem Cur.alloc {n0 : Nat} {W : World} {a : Option Addr} {len cap B : Nat} (h : Cur n0 W a len cap B) (o : Obj) : Cur n0 (W.alloc o) a len cap B := by
  have hb : Below W.heap.size W (W.alloc o) := (Below.refl _ _).alloc (Nat.le_refl _) o
  obtain ⟨y0, hy0⟩ := h.c2
  obtain ⟨i, hi, h1⟩ := h.c1
  exact ⟨h.lo, Nat.lt_of_lt_of_le h.hi hb.size, h.code.below (hb.mono (Nat.le_trans h.lo (Nat.le_of_lt h.hi))), (hb.cell (p := ⟨B, 0, none⟩) h.hi).trans h.c0, ⟨i, hi, (hb.cell (p := ⟨B, 1, none⟩) h.hi).trans h1⟩,
    ⟨y0, (hb.cell (p := ⟨B, 2, none⟩) h.hi).trans hy0⟩, (hb.frozen (p := ⟨B, 1, none⟩) h.hi).trans h.f1, (hb.frozen (p := ⟨B, 2, none⟩) h.hi).trans h.f2⟩
theorem Cur.below {n0 : Nat} {W W' : World} {a : Option Addr} {len cap B : Nat} (h : Cur n0 W a len cap B) (hb : Below W.heap.size W W') : Cur n0 W' a len cap B := by
  obtain ⟨y0, hy0⟩ := h.c2
  obtain ⟨i, hi, h1⟩ := h.c1
  exact ⟨h.lo, Nat.lt_of_lt_of_le h.hi hb.size, h.code.below (hb.mono (Nat.le_trans h.lo (Nat.le_of_lt h.hi))), (hb.cell (p := ⟨B, 0, none⟩) h.hi).trans h.c0, ⟨i, hi, (hb.cell (p := ⟨B, 1, none⟩) h.hi).trans h1⟩,
    ⟨y0, (hb.cell (p := ⟨B, 2, none⟩) h.hi).trans hy0⟩, (hb.frozen (p := ⟨B, 1, none⟩) h.hi).trans h.f1, (hb.frozen (p := ⟨B, 2, none⟩) h.hi).trans h.f2⟩

set_option maxHeartbeats 1000000 in
theorem l01Below (n0 : Nat) (W : World) (a : Option Addr) (len cap B : Nat) (n : Int) (hlen : len ≤ maxLen) (hn : 0 < n) (hC : Cur n0 W a len cap B) :
    Calls Tryz.prog 63 #[.pointer (some ⟨B, 0, none⟩), .int .i64 n] W fun e W' => ∃ x : Int, e = .returned (.int .i64 x) ∧ 0 ≤ x ∧ x < n ∧ Cur n0 W' a len cap B ∧ W.grownBy W' (some B) := by
  have HK : Hid (Cur n0 W a len cap B) := hC
  clear hC
  by_cases h2 : n ≤ 256
  · go_enter Tryz.func63, Tryz.ntmps63
    go_wp2_with fail
    refine (l01Byte n0 _ a len cap B hlen HK.out).mono ?_
    rintro e W1 ⟨x, rfl, x0, x1, hC1, hG1⟩
    have HK1 : Hid (Cur n0 W1 a len cap B) := hC1
    have HG1 : Hid (W.grownBy W1 (some B)) := hG1
    clear hC1 hG1
    go_wp2
    go_ret
    exact ⟨x % n, rfl, Int.emod_nonneg _ (by omega), Int.emod_lt_of_pos _ hn, HK1.out, HG1.out⟩
  · go_enter Tryz.func63, Tryz.ntmps63
    go_wp2_with fail
    refine (l01Byte n0 _ a len cap B hlen HK.out).mono ?_
    rintro e W1 ⟨x1, rfl, a1, b1, hC1, hG1⟩
    have HK1 : Hid (Cur n0 W1 a len cap B) := hC1
    have HG1 : Hid (W.grownBy W1 (some B)) := hG1
    clear hC1 hG1
    go_wp2_with fail
    refine (l01Byte n0 _ a len cap B hlen HK1.out).mono ?_
    rintro e W2 ⟨x2, rfl, a2, b2, hC2, hG2⟩
    have HK2 : Hid (Cur n0 W2 a len cap B) := hC2
    have HG2 : Hid (W.grownBy W2 (some B)) := grown_trans HG1.out hG2
    clear hC2 hG2
    go_wp2_with fail
    refine (l01Byte n0 _ a len cap B hlen HK2.out).mono ?_
    rintro e W3 ⟨x3, rfl, a3, b3, hC3, hG3⟩
    have HK3 : Hid (Cur n0 W3 a len cap B) := hC3
    have HG3 : Hid (W.grownBy W3 (some B)) := grown_trans HG2.out hG3
    clear hC3 hG3
    go_wp2_with fail
    refine (l01Byte n0 _ a len cap B hlen HK3.out).mono ?_
    rintro e W4 ⟨x4, rfl, a4, b4, hC4, hG4⟩
    have HK4 : Hid (Cur n0 W4 a len cap B) := hC4
    have HG4 : Hid (W.grownBy W4 (some B)) := grown_trans HG3.out hG4
    clear hC4 hG4
    go_wp2
    go_ret
    exact ⟨_, rfl, Int.emod_nonneg _ (by omega), Int.emod_lt_of_pos _ hn, HK4.out, HG4.out⟩

set_option maxHeartbeats 1000000 in
theorem l01Once (n0 : Nat) (W : World) (a : Option Addr) (len cap B : Nat) (n : Int) (hlen : len ≤ maxLen) (hn : 0 < n) (hC : Cur n0 W a len cap B) :
    Calls Tryz.prog 98 #[.pointer (some ⟨B, 0, none⟩), .int .i64 n] W fun e W' => ∃ x : Bool, e = .returned (.bool x) ∧ Cur n0 W' a len cap B ∧ W.grownBy W' (some B) := by
  have HK : Hid (Cur n0 W a len cap B) := hC
  clear hC
  go_enter Tryz.func98, Tryz.ntmps98
  go_wp2_with fail
  refine (l01Below n0 _ a len cap B n hlen hn HK.out).mono ?_
  rintro e W1 ⟨x, rfl, x0, x1, hC1, hG1⟩
  have HK1 : Hid (Cur n0 W1 a len cap B) := hC1
  have HG1 : Hid (W.grownBy W1 (some B)) := hG1
  clear hC1 hG1
  go_wp2
  go_ret
  exact ⟨_, rfl, HK1.out, HG1.out⟩

theorem grown_cell {W W' : World} {B : Nat} (h : W.grownBy W' (some B)) {p : Addr} (hp : p.block < W.heap.size) (hne : p.block ≠ B) : W'.cell? p = W.cell? p :=
  World.cell?_of_block (h.block p.block hp (by intro e; exact hne (Option.some.inj e)))

set_option maxHeartbeats 1000000 in
theorem l01PickInt (n0 : Nat) (W : World) (a : Option Addr) (len cap B : Nat) (L k c2 : Nat) (zs : Nat → Int) (hlen : len ≤ maxLen) (hk : 0 < k) (hk2 : k ≤ 100000) (hL : L < W.heap.size) (hLB : L ≠ B) (hz : ∀ j, j < k → W.cell? ⟨L, j, none⟩ = some (.int .i64 (zs j))) (hC : Cur n0 W a len cap B) :
    Calls Tryz.prog 123 #[.pointer (some ⟨B, 0, none⟩), .slice (some ⟨L, 0, none⟩) k c2] W fun e W' => ∃ j : Nat, j < k ∧ e = .returned (.int .i64 (zs j)) ∧ Cur n0 W' a len cap B ∧ W.grownBy W' (some B) := by
  have HK : Hid (Cur n0 W a len cap B) := hC
  have HZ : Hid (∀ j, j < k → W.cell? ⟨L, j, none⟩ = some (.int .i64 (zs j))) := hz
  clear hC hz
  go_enter Tryz.func123, Tryz.ntmps123
  go_wp2_with fail
  refine (l01Below n0 _ a len cap B k hlen (by omega) HK.out).mono ?_
  rintro e W1 ⟨x, rfl, x0, x1, hC1, hG1⟩
  obtain ⟨j, rfl⟩ := Int.eq_ofNat_of_zero_le x0
  have hj : j < k := by omega
  have hcj : W1.cell? ⟨L, j, none⟩ = some (.int .i64 (zs j)) := (grown_cell hG1 (p := ⟨L, j, none⟩) hL hLB).trans (HZ.out j hj)
  have HK1 : Hid (Cur n0 W1 a len cap B) := hC1
  have HG1 : Hid (W.grownBy W1 (some B)) := hG1
  clear hC1 hG1
  go_wp2
  go_ret
  exact ⟨j, hj, rfl, HK1.out, HG1.out⟩

set_option maxHeartbeats 1000000 in
theorem l01Pick (n0 : Nat) (W : World) (a : Option Addr) (len cap B : Nat) (L k c2 : Nat) (ss : Nat → ByteArray) (hlen : len ≤ maxLen) (hk : 0 < k) (hk2 : k ≤ 100000) (hL : L < W.heap.size) (hLB : L ≠ B) (hz : ∀ j, j < k → W.cell? ⟨L, j, none⟩ = some (.string (ss j))) (hC : Cur n0 W a len cap B) :
    Calls Tryz.prog 66 #[.pointer (some ⟨B, 0, none⟩), .slice (some ⟨L, 0, none⟩) k c2] W fun e W' => ∃ j : Nat, j < k ∧ e = .returned (.string (ss j)) ∧ Cur n0 W' a len cap B ∧ W.grownBy W' (some B) := by
  have HK : Hid (Cur n0 W a len cap B) := hC
  have HZ : Hid (∀ j, j < k → W.cell? ⟨L, j, none⟩ = some (.string (ss j))) := hz
  clear hC hz
  go_enter Tryz.func66, Tryz.ntmps66
  go_wp2_with fail
  refine (l01Below n0 _ a len cap B k hlen (by omega) HK.out).mono ?_
  rintro e W1 ⟨x, rfl, x0, x1, hC1, hG1⟩
  obtain ⟨j, rfl⟩ := Int.eq_ofNat_of_zero_le x0
  have hj : j < k := by omega
  have hcj : W1.cell? ⟨L, j, none⟩ = some (.string (ss j)) := (grown_cell hG1 (p := ⟨L, j, none⟩) hL hLB).trans (HZ.out j hj)
  have HK1 : Hid (Cur n0 W1 a len cap B) := hC1
  have HG1 : Hid (W.grownBy W1 (some B)) := hG1
  clear hC1 hG1
  go_wp2
  go_ret
  exact ⟨j, hj, rfl, HK1.out, HG1.out⟩

theorem cur_new (W : World) (a : Option Addr) (len cap : Nat) (y : Int) (t : TypeId) (h : CodeAt W.heap.size W a len) : Cur W.heap.size (W.alloc (.cells #[.slice a len cap, .int .i64 0, .int .i64 y] t)) a len cap W.heap.size := by
  have hb : Below W.heap.size W (W.alloc (.cells #[.slice a len cap, .int .i64 0, .int .i64 y] t)) := (Below.refl _ _).alloc (Nat.le_refl _) _
  have hc : ∀ i, (W.alloc (.cells #[.slice a len cap, .int .i64 0, .int .i64 y] t)).cell? ⟨W.heap.size, i, none⟩ = #[Value.slice a len cap, .int .i64 0, .int .i64 y][i]? := fun i => by simp [World.alloc, World.cell?, -World.alloc_eq]
  have hf : ∀ i, (W.alloc (.cells #[.slice a len cap, .int .i64 0, .int .i64 y] t)).frozen? ⟨W.heap.size, i, none⟩ = false := fun i => by simp [World.alloc, World.frozen?, -World.alloc_eq]
  exact ⟨Nat.le_refl _, by simp [World.alloc, -World.alloc_eq], h.below hb, hc 0, ⟨0, Nat.zero_le _, hc 1⟩, ⟨y, hc 2⟩, hf 1, hf 2⟩

set_option maxHeartbeats 1000000 in
theorem l01New (W : World) (a : Option Addr) (len cap : Nat) (hlen : len ≤ maxLen) (hcode : CodeAt W.heap.size W a len) :
    Calls Tryz.prog 47 #[.slice a len cap] W fun e W' => ∃ B : Nat, e = .returned (.pointer (some ⟨B, 0, none⟩)) ∧ Cur W.heap.size W' a len cap B ∧ Below W.heap.size W W' := by
  have HC : Hid (CodeAt W.heap.size W a len) := hcode
  clear hcode
  have hl := hlen
  unfold maxLen at hl
  go_enter Tryz.func47, Tryz.ntmps47
  go_wp2
  go_loop [3, 4] (fun h i => ∃ (k : Nat) (y : Int), k ≤ len ∧ i = .int .i64 k ∧ h = .int .i64 y) (fun _ i => len - (intOf i).toNat)
  case atStart => exact ⟨0, _, Nat.zero_le _, rfl, rfl⟩
  case round =>
    obtain ⟨k, y, hk, rfl, rfl⟩ := hrel
    by_cases hlt : k < len
    · by_cases h4 : (k : Int) < 4000
      · obtain ⟨b, off, zs, rfl, hbn, hcell, hz⟩ : ∃ (b off : Nat) (zs : Nat → Int), a = some ⟨b, off, none⟩ ∧ b < W.heap.size ∧ (∀ i, i < len → W.cell? ⟨b, off + i, none⟩ = some (.int .u8 (zs i))) ∧ ∀ i, i < len → 0 ≤ zs i ∧ zs i ≤ 255 := by
          rcases HC.out with h0 | h0
          · omega
          · exact h0
        obtain ⟨z0, z1⟩ := hz k hlt
        have hx := hcell k hlt
        clear hcell hz
        go_wp2
        exact ⟨⟨k + 1, _, by omega, by go_num, rfl⟩, by simp [intOf]; omega⟩
      · go_wp2
        go_ret
        exact ⟨_, rfl, cur_new _ _ _ _ _ _ HC.out, (Below.refl _ _).alloc (Nat.le_refl _) _⟩
    · go_wp2
      go_ret
      exact ⟨_, rfl, cur_new _ _ _ _ _ _ HC.out, (Below.refl _ _).alloc (Nat.le_refl _) _⟩
end Go.Proofs.YtchhdoipkimbgaaGreatDoor.ctr

namespace Go.Proofs.YtchhdoipkimbgaaGreatDoor.ctr
open Go.RowKit

theorem cell_new (W : World) (c : Array Value) (t : TypeId) (i : Nat) : (W.alloc (.cells c t)).cell? ⟨W.heap.size, i, none⟩ = c[i]? := by simp [World.alloc, World.cell?, -World.alloc_eq]
theorem size_new (W : World) (o : Obj) : (W.alloc o).heap.size = W.heap.size + 1 := by simp [World.alloc, -World.alloc_eq]
theorem alloc_ints (W : World) (l : List Int) (t : TypeId) (j : Nat) (hj : j < l.length) : (W.alloc (.cells (l.map (Value.int .i64)).toArray t)).cell? ⟨W.heap.size, j, none⟩ = some (.int .i64 (l.getD j 0)) := by
  rw [cell_new]
  simp [List.getD, hj]
theorem alloc_strs (W : World) (l : List ByteArray) (t : TypeId) (j : Nat) (hj : j < l.length) : (W.alloc (.cells (l.map Value.string).toArray t)).cell? ⟨W.heap.size, j, none⟩ = some (.string (l.getD j ⟨#[]⟩)) := by
  rw [cell_new]
  simp [List.getD, hj]
theorem grown_alloc {W W1 : World} {r : Option Nat} (h : W.grownBy W1 r) (o : Obj) : W.grownBy (W1.alloc o) r := by
  refine ⟨h.os, h.tape, h.output, Nat.le_trans h.size (by rw [size_new]; omega), fun k hk hr => ?_⟩
  rw [Below.heap_alloc W1 o k (Nat.lt_of_lt_of_le hk h.size)]
  exact h.block k hk hr
theorem grown_refl (W : World) (r : Option Nat) : W.grownBy W r := ⟨rfl, rfl, rfl, Nat.le_refl _, fun _ _ _ => rfl⟩
theorem grown_of_below {W W1 : World} {r : Option Nat} (h : Below W.heap.size W W1) : W.grownBy W1 r := ⟨h.os, h.tape, h.output, h.size, fun k hk _ => h.block k hk⟩
theorem below_grownBy {n0 B : Nat} {W W1 W2 : World} (h : Below n0 W W1) (g : W1.grownBy W2 (some B)) (h0 : n0 ≤ W1.heap.size) (hB : n0 ≤ B) : Below n0 W W2 :=
  h.grown g h0 (fun k e => by cases e; exact hB)
/-- A number of 64 bits. -/
def I64 (z : Int) : Prop := -9223372036854775808 ≤ z ∧ z ≤ 9223372036854775807

end Go.Proofs.YtchhdoipkimbgaaGreatDoor.ctr

namespace Go.Proofs.YtchhdoipkimbgaaGreatDoor.ctr
open Go.RowKit

end Go.Proofs.YtchhdoipkimbgaaGreatDoor.ctr

namespace Go.Proofs.YtchhdoipkimbgaaGreatDoor.ctr
open Go.RowKit

def bentIn : List ByteArray := [⟨#[48]⟩, ⟨#[32]⟩, ⟨#[73]⟩, ⟨#[97]⟩, ⟨#[10]⟩, ⟨#[47]⟩, ⟨#[49]⟩, ⟨#[88]⟩]
def bentFor : List ByteArray := [⟨#[48]⟩, ⟨#[65]⟩, ⟨#[86]⟩, ⟨#[57]⟩, ⟨#[32]⟩, ⟨#[98]⟩]
theorem hide {p : Prop} (h : p) : Hid p := h
theorem Cur.drew {n0 : Nat} {W : World} {a : Option Addr} {len cap B : Nat} (h : Cur n0 W a len cap B) : Cur n0 W.drew a len cap B :=
  ⟨h.lo, h.hi, h.code, h.c0, h.c1, h.c2, h.f1, h.f2⟩
theorem grown_drew {W W1 : World} {r : Option Nat} (h : W.grownBy W1 r) : W.grownBy W1.drew r := ⟨h.os, h.tape, h.output, h.size, h.block⟩
theorem bentIn_len : ∀ j : Fin 8, (bentIn.getD j.val ⟨#[]⟩).size = 1 := by decide
theorem bentFor_len : ∀ j : Fin 6, (bentFor.getD j.val ⟨#[]⟩).size = 1 := by decide
theorem ext_size (s : ByteArray) (i j : Nat) : (s.extract i j).size = min j s.size - i := ByteArray.size_extract ..

set_option maxHeartbeats 2000000 in
theorem l01Bent (n0 : Nat) (W : World) (a : Option Addr) (len cap B : Nat) (s : ByteArray) (hlen : len ≤ maxLen) (hs : s.size ≤ 1000) (hC : Cur n0 W a len cap B) :
    Calls Tryz.prog 67 #[.pointer (some ⟨B, 0, none⟩), .string s] W fun e W' => ∃ r : ByteArray, e = .returned (.string r) ∧ r.size ≤ s.size + 1 ∧ Cur n0 W' a len cap B ∧ W.grownBy W' (some B) := by
  have HK : Hid (Cur n0 W a len cap B) := hC
  clear hC
  go_enter Tryz.func67, Tryz.ntmps67
  go_wp2_with fail
  refine (l01Below n0 _ a len cap B _ hlen (by omega) HK.out).mono ?_
  rintro e W1 ⟨x, rfl, x0, x1, hC1, hG1⟩
  obtain ⟨i, rfl⟩ := Int.eq_ofNat_of_zero_le x0
  have HK1 : Hid (Cur n0 W1 a len cap B) := hC1
  have HG1 : Hid (W.grownBy W1 (some B)) := hG1
  clear hC1 hG1
  go_wp2_with fail
  refine (l01Below n0 _ a len cap B 10 hlen (by omega) HK1.out).mono ?_
  rintro e W2 ⟨k, rfl, k0, k1, hC2, hG2⟩
  have HK2 : Hid (Cur n0 W2 a len cap B) := hC2
  have HG2 : Hid (W.grownBy W2 (some B)) := grown_trans HG1.out hG2
  clear hC2 hG2
  have hi : i ≤ s.size := by omega
  have hx1 : (s.extract 0 i).size ≤ 1000 := by rw [ext_size]; omega
  have hx2 : (s.extract i s.size).size ≤ 1000 := by rw [ext_size]; omega
  have hx3 : (s.extract (i + 1) s.size).size ≤ 1000 := by rw [ext_size]; omega
  by_cases e0 : k = 0
  · subst e0
    go_wp2
    go_ret
    exact ⟨_, rfl, by rw [ext_size]; omega, HK2.out, HG2.out⟩
  have e0' : (k == 0) = false := by simp [e0]
  by_cases e1 : k = 1
  · subst e1
    go_wp2
    go_region_with (go_at_call 66; refine (l01Pick n0 _ a len cap B W2.heap.size 8 8 (fun j => bentIn.getD j ⟨#[]⟩) hlen (by omega) (by omega) ?_ ?_ ?_ ?_).mono ?_; (show W2.heap.size < (W2.alloc _).heap.size; rw [size_new]; omega); exact Nat.ne_of_gt HK2.out.hi; exact (fun j hj => alloc_strs W2 bentIn _ j hj); (first | exact (HK2.out.alloc _).drew | exact HK2.out.alloc _ | exact (HK2.out.alloc _).drewN _); rintro e W3 ⟨j, hj, rfl, hC3, hG3⟩; obtain ⟨r, hr, hr1⟩ : ∃ r, bentIn.getD j ⟨#[]⟩ = r ∧ r.size ≤ 1 := ⟨_, rfl, Nat.le_of_eq (bentIn_len ⟨j, hj⟩)⟩; rw [hr]; clear hr; have HG3 := hide hG3; have HC3 := hide hC3; clear hG3 hC3)
    go_wp2
    go_ret
    refine ⟨_, rfl, ?_, (Hid.out HC3), ?_⟩
    · simp only [ByteArray.size_append, ext_size]
      omega
    · first | exact grown_trans (grown_drew (grown_alloc HG2.out _)) HG3.out | exact grown_trans (grown_alloc HG2.out _) HG3.out | exact grown_trans (grown_drewN (grown_alloc HG2.out _) _) HG3.out
  have e1' : (k == 1) = false := by simp [e1]
  by_cases e2 : k = 2
  · subst e2
    by_cases hl : i < s.size
    · have hl2 : (i : Int) + 1 ≤ (s.size : Int) := by omega
      have hwr : IntKind.i64.wrap ((i : Int) + 1) = (i : Int) + 1 := by rw [PlainAid.i64_is]; unfold wrap64; omega
      have hle : (i : Int) ≤ 1000 := by omega
      have hsl : ∀ w : World, (Instr.slice 9 (.string s) (some (.int .i64 ((i : Int) + 1))) none none).run Tryz.prog w = .ok (.string (s.extract (i + 1) s.size)) w := fun w => (run_slice_string_l (P := Tryz.prog) (w := w) (t := 9) (s := s) (ht := Tryz.underlying9) .i64 ((i : Int) + 1) (by omega) (by omega)).trans (by rw [show ((i : Int) + 1).toNat = i + 1 from by omega])
      go_wp2
      go_region_with (go_at_call 66; refine (l01Pick n0 _ a len cap B W2.heap.size 6 6 (fun j => bentFor.getD j ⟨#[]⟩) hlen (by omega) (by omega) ?_ ?_ ?_ ?_).mono ?_; (show W2.heap.size < (W2.alloc _).heap.size; rw [size_new]; omega); exact Nat.ne_of_gt HK2.out.hi; exact (fun j hj => alloc_strs W2 bentFor _ j hj); (first | exact (HK2.out.alloc _).drew | exact HK2.out.alloc _ | exact (HK2.out.alloc _).drewN _); rintro e W3 ⟨j, hj, rfl, hC3, hG3⟩; obtain ⟨r, hr, hr1⟩ : ∃ r, bentFor.getD j ⟨#[]⟩ = r ∧ r.size ≤ 1 := ⟨_, rfl, Nat.le_of_eq (bentFor_len ⟨j, hj⟩)⟩; rw [hr]; clear hr; have HG3 := hide hG3; have HC3 := hide hC3; clear hG3 hC3)
      go_wp2
      go_ret
      refine ⟨_, rfl, ?_, (Hid.out HC3), ?_⟩
      · simp only [ByteArray.size_append, ext_size]
        omega
      · first | exact grown_trans (grown_drew (grown_alloc HG2.out _)) HG3.out | exact grown_trans (grown_alloc HG2.out _) HG3.out | exact grown_trans (grown_drewN (grown_alloc HG2.out _) _) HG3.out
    · go_wp2
      go_ret
      exact ⟨_, rfl, by omega, HK2.out, HG2.out⟩
  have e2' : (k == 2) = false := by simp [e2]
  go_wp2
  go_ret
  exact ⟨_, rfl, by omega, HK2.out, HG2.out⟩
end Go.Proofs.YtchhdoipkimbgaaGreatDoor.ctr

namespace Go.Proofs.YtchhdoipkimbgaaGreatDoor.ctr
open Go.RowKit Go.ChangeShapes

theorem code_of {W : World} {a : Option Addr} {len cap : Nat} {zs : List Int} (h : kit.IsRow .u8 W a len cap zs) : CodeAt W.heap.size W a len ∧ len ≤ maxLen := by
  rcases h with ⟨rfl, rfl, rfl, rfl⟩ | ⟨x, rfl, hl, hm, hz, hcell, hwz⟩
  · exact ⟨.inl rfl, Nat.zero_le _⟩
  · refine ⟨?_, Nat.le_trans hl hm⟩
    by_cases h0 : len = 0
    · exact .inl h0
    · obtain ⟨b, off, spot⟩ := x
      have hc := hcell 0 (by omega)
      have hspot : spot = none := by simpa [Addr.add] using World.cell?_spot hc
      subst hspot
      have hadd : ∀ i : Nat, (⟨b, off, none⟩ : Addr).add i = ⟨b, off + i, none⟩ := fun i => by unfold Addr.add; split <;> simp_all
      have hblk : b < W.heap.size := by
        rw [hadd] at hc
        by_cases hb : b < W.heap.size
        · exact hb
        · simp [World.cell?, Array.getElem?_eq_none (Nat.le_of_not_lt hb)] at hc
      refine .inr ⟨b, off, fun i => zs.getD i 0, rfl, hblk, fun i hi => by rw [← hadd]; exact hcell i (by omega), fun i hi => ?_⟩
      have hmem : zs.getD i 0 ∈ zs := by
        rw [List.getD, List.getElem?_eq_getElem (show i < zs.length by omega)]
        exact List.getElem_mem _
      exact bounds_u8 (hwz _ hmem)
theorem CodeAt.up {W W' : World} {a : Option Addr} {len : Nat} (h : CodeAt W.heap.size W a len) (hb : Below W.heap.size W W') : CodeAt W'.heap.size W' a len := by
  rcases h with h | ⟨b, off, zs, ha, hlt, hc, hz⟩
  · exact .inl h
  · exact .inr ⟨b, off, zs, ha, Nat.lt_of_lt_of_le hlt hb.size, fun i hi => by rw [hb.cell (p := ⟨b, off + i, none⟩) hlt]; exact hc i hi, hz⟩

theorem big_ (w : World) (a : Option Addr) (len cap : Nat) : Calls Tryz.prog 7 #[.slice a len cap] w fun e w' => e = .returned (.bool (decide ((1048576 : Int) < (len : Int)))) ∧ w' = w := by
  go_enter Tryz.func7, Tryz.ntmps7
  go_wp2
  go_ret
  exact ⟨rfl, rfl⟩
end Go.Proofs.YtchhdoipkimbgaaGreatDoor.ctr
