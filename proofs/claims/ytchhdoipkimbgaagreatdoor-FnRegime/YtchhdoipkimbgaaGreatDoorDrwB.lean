/- Contracts of the model's draws of regimes: DrawRegimeOk, DrawChanges, DrawSegAt. Contracts of the model's draws of a regime and a day: DrawSegAt, DrawPatchAt. Contract of the model's draw of a regime and a day that may be patched: DrawPatchAt. Contract of the model's copy of a regime (l09Copy): the same in memory of its own. Contract of the model's draw of two regimes, alike or not: DrawSameRegime. -/
import Derived.Test.YtchhdoipkimbgaaGreatDoorRgmRegAM
import Derived.Deep.Cut
import Derived.Deep.RegionHeldLaw
import Derived.BigRegion
import Derived.Test.YtchhdoipkimbgaaGreatDoorPRowKitM
import Derived.Deep.CutBlock
import Derived.Deep.DeepCutAuto
namespace Go.Proofs.YtchhdoipkimbgaaGreatDoor.ctr
open Go.RowKit

theorem DRegW.grown {base b : Nat} {W W' : World} {v : Value} {r : Rgm} (h : DRegW base W v r) (hG : W.grownBy W' (some b)) (hb : b < base) : DRegW base W' v r := by
  obtain ⟨sv, pv, rv, e, h1, h2, h3⟩ := h
  exact ⟨sv, pv, rv, e, h1.kept hG (.inr (fun e => by have := ibase h1 b e; omega)), h2.kept hG (.inr (fun e => by have := ibase h2 b e; omega)), h3.grown hG hb⟩
theorem DRegW.below {base : Nat} {W W' : World} {v : Value} {r : Rgm} (h : DRegW base W v r) (hb : Below W.heap.size W W') : DRegW base W' v r := by
  obtain ⟨sv, pv, rv, e, h1, h2, h3⟩ := h
  exact ⟨sv, pv, rv, e, iown_later h1 hb, iown_later h2 hb, h3.below hb⟩
/-- The same, its value written out. -/
def RegX (base : Nat) (W : World) (v : Value) : Prop := ∃ (nm : ByteArray) (f t ru : Int) (L : List Seg) (P : List Pat) (rg : List Rgn) (gs cs : Nat) (ap : Option Addr) (cp : Nat) (ar : Option Addr) (cr : Nat), v = .agg #[.string nm, .int .i64 f, .int .i64 t, .slice (some ⟨gs, 0, none⟩) L.length cs, .slice ap P.length cp, .slice ar rg.length cr, .int .i64 ru] ∧ DSmall ⟨nm, f, t, L, P, rg, ru⟩ ∧ Hid (DRegW base W (.agg #[.string nm, .int .i64 f, .int .i64 t, .slice (some ⟨gs, 0, none⟩) L.length cs, .slice ap P.length cp, .slice ar rg.length cr, .int .i64 ru]) ⟨nm, f, t, L, P, rg, ru⟩)
theorem regX_of {base : Nat} {W : World} {v : Value} {r : Rgm} (h : DRegW base W v r) (hs : DSmall r) : RegX base W v := by
  obtain ⟨nm, f, t, L, P, rg, ru⟩ := r
  have h' := h
  obtain ⟨sv, pv, rv, e, s1, s2, s3⟩ := h
  dsimp only at *
  have hl : 1 ≤ L.length := hs.2.2.2.2.2.1
  have hsf : ∃ gs cs, sv = .slice (some ⟨gs, 0, none⟩) L.length cs := by
    rcases s1.2 with ⟨_, h0⟩ | ⟨g, cp, cur, rfl, _⟩
    · omega
    · exact ⟨_, _, rfl⟩
  obtain ⟨gs, cs, rfl⟩ := hsf
  have hpf : ∃ ap cp, pv = .slice ap P.length cp := by
    rcases s2.2 with ⟨rfl, h0⟩ | ⟨g, cp, cur, rfl, _⟩
    · exact ⟨none, 0, by rw [h0]⟩
    · exact ⟨_, _, rfl⟩
  obtain ⟨ap, cp, rfl⟩ := hpf
  obtain ⟨ar, cr, rfl, _⟩ := s3.1.1
  subst e
  exact ⟨nm, f, t, ru, L, P, rg, gs, cs, ap, cp, ar, cr, rfl, hs, h'⟩
theorem code_on {W W' : World} {a : Option Addr} {len : Nat} (h : CodeAt W.heap.size W a len) (hb : Below W.heap.size W W') : CodeAt W'.heap.size W' a len := by
  rcases h with h | ⟨b, off, zs, ha, hlt, hc, hz⟩
  · exact .inl h
  · exact .inr ⟨b, off, zs, ha, Nat.lt_of_lt_of_le hlt hb.size, fun i hi => by rw [hb.cell (p := ⟨b, off + i, none⟩) hlt]; exact hc i hi, hz⟩

set_option maxRecDepth 100000 in
set_option maxHeartbeats 2000000 in
theorem drawRegimeOk (l09Regime : RegimeC) (W : World) (a : Option Addr) (len cap : Nat) (hlen : len ≤ maxLen) (hcode : CodeAt W.heap.size W a len) :
    Calls Tryz.prog 29 #[.slice a len cap] W fun e W' => ∃ v r, e = .returned v ∧ GRow W' v r ∧ DSmall r ∧ Below W.heap.size W W' := by
  have hB0 : Below W.heap.size W (W.alloc (.cells #[.string ⟨#[]⟩, .int .i64 0, .int .i64 0, .slice none 0 0, .slice none 0 0, .slice none 0 0, .int .i64 0] 29)) := (Below.refl _ _).alloc (Nat.le_refl _) _
  have hZ0 : Blk (W.alloc (.cells #[.string ⟨#[]⟩, .int .i64 0, .int .i64 0, .slice none 0 0, .slice none 0 0, .slice none 0 0, .int .i64 0] 29)) W.heap.size gmZero 29 := Blk.new _ _ _
  have B0 := hideP hB0
  have Z0 := hideP hZ0
  have HC := hideP (code_on hcode hB0)
  clear hB0 hZ0 hcode
  go_enter Tryz.func29, Tryz.ntmps29
  go_wp2_with fail
  refine (l01New _ a len cap hlen HC.out).mono ?_
  rintro e W1 ⟨B, rfl, hC1, hb1⟩
  have K1 := hideP hC1
  have Z1 := hideP (Z0.out.below hb1 Z0.out.lt)
  have B1 := hideP (B0.out.trans (hb1.mono B0.out.size))
  have hlo : W.heap.size < B := Nat.lt_of_lt_of_le Z0.out.lt hC1.lo
  clear hC1 hb1 Z0 B0 HC
  go_wp2_with fail
  refine (l09Regime _ _ a len cap B 1000 (by omega) (by omega) hlen K1.out).mono ?_
  rintro e W2 ⟨v, r, rfl, hD, hS, hC2, hG2⟩
  obtain ⟨nm, f, t, ru, L, P, rg, gs, cs, ap, cp, ar, cr, rfl, hS2, D2⟩ := regX_of hD hS
  have Z2 := hideP (Z1.out.grown hG2 (by omega))
  have hlt : W.heap.size < W1.heap.size := Z1.out.lt
  have B2 := hideP (below_grownBy B1.out hG2 B1.out.size (by omega))
  have D3 := hideP (D2.out.grown (put7_grown W2 W.heap.size (.string nm) (.int .i64 f) (.int .i64 t) (.slice (some ⟨gs, 0, none⟩) L.length cs) (.slice ap P.length cp) (.slice ar rg.length cr) (.int .i64 ru)) hlt)
  have Z3 := hideP (put7_blk Z2.out (.string nm) (.int .i64 f) (.int .i64 t) (.slice (some ⟨gs, 0, none⟩) L.length cs) (.slice ap P.length cp) (.slice ar rg.length cr) (.int .i64 ru))
  have B3 := hideP (B2.out.grown (put7_grown W2 W.heap.size (.string nm) (.int .i64 f) (.int .i64 t) (.slice (some ⟨gs, 0, none⟩) L.length cs) (.slice ap P.length cp) (.slice ar rg.length cr) (.int .i64 ru)) B2.out.size (fun k e => by cases e; exact Nat.le_refl _))
  clear hD hS hC2 hG2 D2 K1 Z1 B1 B2 hlo hlt
  have q0 := Z2.out.cell 0 rfl
  have q1 := Z2.out.cell 1 rfl
  have q2 := Z2.out.cell 2 rfl
  have q3 := Z2.out.cell 3 rfl
  have q4 := Z2.out.cell 4 rfl
  have q5 := Z2.out.cell 5 rfl
  have q6 := Z2.out.cell 6 rfl
  have r0 := Z2.out.thaw 0
  have r1 := Z2.out.thaw 1
  have r2 := Z2.out.thaw 2
  have r3 := Z2.out.thaw 3
  have r4 := Z2.out.thaw 4
  have r5 := Z2.out.thaw 5
  have r6 := Z2.out.thaw 6
  go_wp2_with fail
  obtain ⟨V9, e9⟩ : ∃ V9, V9 = put7 W2 W.heap.size (.string nm) (.int .i64 f) (.int .i64 t) (.slice (some ⟨gs, 0, none⟩) L.length cs) (.slice ap P.length cp) (.slice ar rg.length cr) (.int .i64 ru) := ⟨_, rfl⟩
  rw [← e9] at D3 Z3 B3
  unfold put7 at e9
  rw [← e9]
  clear e9 q0 q1 q2 q3 q4 q5 q6 r0 r1 r2 r3 r4 r5 r6
  have z0 := Z3.out.cell 0 rfl
  have z1 := Z3.out.cell 1 rfl
  have z2 := Z3.out.cell 2 rfl
  have z3 := Z3.out.cell 3 rfl
  have z4 := Z3.out.cell 4 rfl
  have z5 := Z3.out.cell 5 rfl
  have z6 := Z3.out.cell 6 rfl
  exact bodyPost_ret (by simp [results, Tryz.results29, go_sem, z0, z1, z2, z3, z4, z5, z6]; try rfl) rfl ⟨_, _, rfl, D3.out.row hS2, hS2, B3.out⟩

set_option maxRecDepth 100000 in
set_option maxHeartbeats 2000000 in
theorem drawChanges (l09Regime : RegimeC) (W : World) (a : Option Addr) (len cap : Nat) (hlen : len ≤ maxLen) (hcode : CodeAt W.heap.size W a len) :
    Calls Tryz.prog 34 #[.slice a len cap] W fun e W' => ∃ v r, e = .returned v ∧ GRow W' v r ∧ DSmall r ∧ Below W.heap.size W W' := by
  have hB0 : Below W.heap.size W (W.alloc (.cells #[.string ⟨#[]⟩, .int .i64 0, .int .i64 0, .slice none 0 0, .slice none 0 0, .slice none 0 0, .int .i64 0] 29)) := (Below.refl _ _).alloc (Nat.le_refl _) _
  have hZ0 : Blk (W.alloc (.cells #[.string ⟨#[]⟩, .int .i64 0, .int .i64 0, .slice none 0 0, .slice none 0 0, .slice none 0 0, .int .i64 0] 29)) W.heap.size gmZero 29 := Blk.new _ _ _
  have B0 := hideP hB0
  have Z0 := hideP hZ0
  have HC := hideP (code_on hcode hB0)
  clear hB0 hZ0 hcode
  go_enter Tryz.func34, Tryz.ntmps34
  go_wp2_with fail
  refine (l01New _ a len cap hlen HC.out).mono ?_
  rintro e W1 ⟨B, rfl, hC1, hb1⟩
  have K1 := hideP hC1
  have Z1 := hideP (Z0.out.below hb1 Z0.out.lt)
  have B1 := hideP (B0.out.trans (hb1.mono B0.out.size))
  have hlo : W.heap.size < B := Nat.lt_of_lt_of_le Z0.out.lt hC1.lo
  clear hC1 hb1 Z0 B0 HC
  go_wp2_with fail
  refine (l09Regime _ _ a len cap B 1000 (by omega) (by omega) hlen K1.out).mono ?_
  rintro e W2 ⟨v, r, rfl, hD, hS, hC2, hG2⟩
  obtain ⟨nm, f, t, ru, L, P, rg, gs, cs, ap, cp, ar, cr, rfl, hS2, D2⟩ := regX_of hD hS
  have Z2 := hideP (Z1.out.grown hG2 (by omega))
  have hlt : W.heap.size < W1.heap.size := Z1.out.lt
  have B2 := hideP (below_grownBy B1.out hG2 B1.out.size (by omega))
  have D3 := hideP (D2.out.grown (put7_grown W2 W.heap.size (.string nm) (.int .i64 f) (.int .i64 t) (.slice (some ⟨gs, 0, none⟩) L.length cs) (.slice ap P.length cp) (.slice ar rg.length cr) (.int .i64 ru)) hlt)
  have Z3 := hideP (put7_blk Z2.out (.string nm) (.int .i64 f) (.int .i64 t) (.slice (some ⟨gs, 0, none⟩) L.length cs) (.slice ap P.length cp) (.slice ar rg.length cr) (.int .i64 ru))
  have B3 := hideP (B2.out.grown (put7_grown W2 W.heap.size (.string nm) (.int .i64 f) (.int .i64 t) (.slice (some ⟨gs, 0, none⟩) L.length cs) (.slice ap P.length cp) (.slice ar rg.length cr) (.int .i64 ru)) B2.out.size (fun k e => by cases e; exact Nat.le_refl _))
  clear hD hS hC2 hG2 D2 K1 Z1 B1 B2 hlo hlt
  have q0 := Z2.out.cell 0 rfl
  have q1 := Z2.out.cell 1 rfl
  have q2 := Z2.out.cell 2 rfl
  have q3 := Z2.out.cell 3 rfl
  have q4 := Z2.out.cell 4 rfl
  have q5 := Z2.out.cell 5 rfl
  have q6 := Z2.out.cell 6 rfl
  have r0 := Z2.out.thaw 0
  have r1 := Z2.out.thaw 1
  have r2 := Z2.out.thaw 2
  have r3 := Z2.out.thaw 3
  have r4 := Z2.out.thaw 4
  have r5 := Z2.out.thaw 5
  have r6 := Z2.out.thaw 6
  go_wp2_with fail
  obtain ⟨V9, e9⟩ : ∃ V9, V9 = put7 W2 W.heap.size (.string nm) (.int .i64 f) (.int .i64 t) (.slice (some ⟨gs, 0, none⟩) L.length cs) (.slice ap P.length cp) (.slice ar rg.length cr) (.int .i64 ru) := ⟨_, rfl⟩
  rw [← e9] at D3 Z3 B3
  unfold put7 at e9
  rw [← e9]
  clear e9 q0 q1 q2 q3 q4 q5 q6 r0 r1 r2 r3 r4 r5 r6
  have z0 := Z3.out.cell 0 rfl
  have z1 := Z3.out.cell 1 rfl
  have z2 := Z3.out.cell 2 rfl
  have z3 := Z3.out.cell 3 rfl
  have z4 := Z3.out.cell 4 rfl
  have z5 := Z3.out.cell 5 rfl
  have z6 := Z3.out.cell 6 rfl
  exact bodyPost_ret (by simp [results, Tryz.results34, go_sem, z0, z1, z2, z3, z4, z5, z6]; try rfl) rfl ⟨_, _, rfl, D3.out.row hS2, hS2, B3.out⟩
end Go.Proofs.YtchhdoipkimbgaaGreatDoor.ctr

namespace Go.Proofs.YtchhdoipkimbgaaGreatDoor.ctr
open Go.RowKit

/-- A regime was drawn and lies in a box of its own; a result's box stands open. -/
structure RdSt (w : World) (a : Option Addr) (len cap n0 B Z R base : Nat) (vs : Array Value) (r : Rgm) (W : World) : Prop where
  cur : Cur n0 W a len cap B
  bel : Below w.heap.size w W
  zer : Blk W Z gmZero 29
  box : Blk W R vs 29
  reg : DRegW base W (.agg vs) r
  hZ : w.heap.size ≤ Z
  hZB : Z < base
  hB : w.heap.size ≤ B
  hBb : B < base
  hne : B ≠ Z
  hRb : base ≤ R
section
variable {w W W' : World} {a : Option Addr} {len cap n0 B Z R base : Nat} {vs : Array Value} {r : Rgm}
theorem RdSt.step (h : Hid (RdSt w a len cap n0 B Z R base vs r W)) (hG : W.grownBy W' (some B)) (hC : Cur n0 W' a len cap B) : Hid (RdSt w a len cap n0 B Z R base vs r W') := by
  obtain ⟨x1, x2, x3, x4, x5, x6, x7, x8, x9, x10, x11⟩ := h.out
  exact ⟨hC, below_grownBy x2 hG x2.size x8, x3.grown hG (fun e => x10 e.symm), x4.grown hG (by omega), x5.grown hG x9, x6, x7, x8, x9, x10, x11⟩
theorem RdSt.drew (h : Hid (RdSt w a len cap n0 B Z R base vs r W)) : Hid (RdSt w a len cap n0 B Z R base vs r W.drew) := by
  obtain ⟨x1, x2, x3, x4, x5, x6, x7, x8, x9, x10, x11⟩ := h.out
  refine ⟨⟨x1.lo, x1.hi, x1.code, x1.c0, x1.c1, x1.c2, x1.f1, x1.f2⟩, x2.drew, x3, x4, ?_, x6, x7, x8, x9, x10, x11⟩
  exact x5.below (Below.refl _ _).drew
theorem RdSt.curOf (h : Hid (RdSt w a len cap n0 B Z R base vs r W)) : Cur n0 W a len cap B := h.out.cur
end

set_option maxRecDepth 100000 in
set_option maxHeartbeats 4000000 in
theorem drawSegAt (l09Regime : RegimeC) (W : World) (a : Option Addr) (len cap : Nat) (hlen : len ≤ maxLen) (hcode : CodeAt W.heap.size W a len) :
    Calls Tryz.prog 30 #[.slice a len cap] W fun e W' => ∃ v r n, e = .returned (.tuple #[v, .int .i64 n]) ∧ GRow W' v r ∧ DSmall r ∧ Below W.heap.size W W' := by
  have hB0 : Below W.heap.size W (W.alloc (.cells #[.string ⟨#[]⟩, .int .i64 0, .int .i64 0, .slice none 0 0, .slice none 0 0, .slice none 0 0, .int .i64 0] 29)) := (Below.refl _ _).alloc (Nat.le_refl _) _
  have hZ0 : Blk (W.alloc (.cells #[.string ⟨#[]⟩, .int .i64 0, .int .i64 0, .slice none 0 0, .slice none 0 0, .slice none 0 0, .int .i64 0] 29)) W.heap.size gmZero 29 := Blk.new _ _ _
  have B0 := hideP hB0
  have Z0 := hideP hZ0
  have HC := hideP (code_on hcode hB0)
  clear hB0 hZ0 hcode
  go_enter Tryz.func30, Tryz.ntmps30
  go_wp2_with fail
  refine (l01New _ a len cap hlen HC.out).mono ?_
  rintro e W1 ⟨B, rfl, hC1, hb1⟩
  have K1 := hideP hC1
  have Z1 := hideP (Z0.out.below hb1 Z0.out.lt)
  have B1 := hideP (B0.out.trans (hb1.mono B0.out.size))
  have hlo : W.heap.size < B := Nat.lt_of_lt_of_le Z0.out.lt hC1.lo
  have hhi : B < W1.heap.size := hC1.hi
  clear hC1 hb1 Z0 B0 HC
  go_wp2_with fail
  refine (l09Regime _ _ a len cap B 1000 (by omega) (by omega) hlen K1.out).mono ?_
  rintro e W2 ⟨v, r, rfl, hD, hS, hC2, hG2⟩
  obtain ⟨nm, f, t, ru, L, P, rg, gs, cs, ap, cp, ar, cr, rfl, hS2, D2⟩ := regX_of hD hS
  have hs2 : W1.heap.size ≤ W2.heap.size := hG2.size
  have S : Hid (RdSt W a len cap (W.alloc (.cells #[.string ⟨#[]⟩, .int .i64 0, .int .i64 0, .slice none 0 0, .slice none 0 0, .slice none 0 0, .int .i64 0] 29)).heap.size B W.heap.size W2.heap.size W1.heap.size #[.string nm, .int .i64 f, .int .i64 t, .slice (some ⟨gs, 0, none⟩) L.length cs, .slice ap P.length cp, .slice ar rg.length cr, .int .i64 ru] ⟨nm, f, t, L, P, rg, ru⟩ (W2.alloc (.cells #[.string nm, .int .i64 f, .int .i64 t, .slice (some ⟨gs, 0, none⟩) L.length cs, .slice ap P.length cp, .slice ar rg.length cr, .int .i64 ru] 29))) :=
    ⟨hC2.alloc _, (below_grownBy B1.out hG2 B1.out.size (by omega)).alloc (by have := B1.out.size; omega) _, (Z1.out.grown hG2 (by omega)).alloc _, Blk.new _ _ _, D2.out.below ((Below.refl _ _).alloc (Nat.le_refl _) _), Nat.le_refl _, by omega, by omega, hhi, by omega, hs2⟩
  have hRZ : ¬ W2.heap.size = W.heap.size := by omega
  have hZR : ¬ W.heap.size = W2.heap.size := fun h => hRZ h.symm
  generalize (W.alloc (.cells #[.string ⟨#[]⟩, .int .i64 0, .int .i64 0, .slice none 0 0, .slice none 0 0, .slice none 0 0, .int .i64 0] 29)).heap.size = n0 at *
  clear hD hS hC2 hG2 D2 K1 Z1 B1 hs2
  generalize W1.heap.size = base at *
  go_upto_region 3 with fail
  generalize W2.alloc (.cells #[.string nm, .int .i64 f, .int .i64 t, .slice (some ⟨gs, 0, none⟩) L.length cs, .slice ap P.length cp, .slice ar rg.length cr, .int .i64 ru] 29) = W3 at *
  have SD := RdSt.drew S
  have q0 := S.out.box.cell 0 rfl
  have q1 := S.out.box.cell 1 rfl
  have q2 := S.out.box.cell 2 rfl
  have q3 := S.out.box.cell 3 rfl
  have q4 := S.out.box.cell 4 rfl
  have q5 := S.out.box.cell 5 rfl
  have q6 := S.out.box.cell 6 rfl
  go_region_held (fun w' => w'.cell? ⟨W2.heap.size, 0, none⟩ = some (.string nm) ∧ w'.cell? ⟨W2.heap.size, 1, none⟩ = some (.int .i64 f) ∧ w'.cell? ⟨W2.heap.size, 2, none⟩ = some (.int .i64 t) ∧ w'.cell? ⟨W2.heap.size, 3, none⟩ = some (.slice (some ⟨gs, 0, none⟩) L.length cs) ∧ w'.cell? ⟨W2.heap.size, 4, none⟩ = some (.slice ap P.length cp) ∧ w'.cell? ⟨W2.heap.size, 5, none⟩ = some (.slice ar rg.length cr) ∧ w'.cell? ⟨W2.heap.size, 6, none⟩ = some (.int .i64 ru)) (go_keep) ((go_at_call 63; refine (l01Below n0 _ a len cap B 1002 hlen (by omega) (RdSt.curOf (w := W) (Z := W.heap.size) (R := W2.heap.size) (base := base) (vs := #[.string nm, .int .i64 f, .int .i64 t, .slice (some ⟨gs, 0, none⟩) L.length cs, .slice ap P.length cp, .slice ar rg.length cr, .int .i64 ru]) (r := ⟨nm, f, t, L, P, rg, ru⟩) (by assumption))).mono ?_; rintro e W7 ⟨x7, rfl, x70, x71, hC7, hG7⟩; have S9 := RdSt.step (by assumption) hG7 hC7; have d0 := S9.out.box.cell 0 rfl; have d1 := S9.out.box.cell 1 rfl; have d2 := S9.out.box.cell 2 rfl; have d3 := S9.out.box.cell 3 rfl; have d4 := S9.out.box.cell 4 rfl; have d5 := S9.out.box.cell 5 rfl; have d6 := S9.out.box.cell 6 rfl; have h0 := S9.out.zer.cell 0 rfl; have h1 := S9.out.zer.cell 1 rfl; have h2 := S9.out.zer.cell 2 rfl; have h3 := S9.out.zer.cell 3 rfl; have h4 := S9.out.zer.cell 4 rfl; have h5 := S9.out.zer.cell 5 rfl; have h6 := S9.out.zer.cell 6 rfl; have t0 := S9.out.zer.thaw 0; have t1 := S9.out.zer.thaw 1; have t2 := S9.out.zer.thaw 2; have t3 := S9.out.zer.thaw 3; have t4 := S9.out.zer.thaw 4; have t5 := S9.out.zer.thaw 5; have t6 := S9.out.zer.thaw 6; clear hC7 hG7))
  all_goals go_wp2_with fail
  obtain ⟨V9, e9⟩ : ∃ V9, V9 = put7 W7 W.heap.size (.string nm) (.int .i64 f) (.int .i64 t) (.slice (some ⟨gs, 0, none⟩) L.length cs) (.slice ap P.length cp) (.slice ar rg.length cr) (.int .i64 ru) := ⟨_, rfl⟩
  have Z9 := put7_blk S9.out.zer (.string nm) (.int .i64 f) (.int .i64 t) (.slice (some ⟨gs, 0, none⟩) L.length cs) (.slice ap P.length cp) (.slice ar rg.length cr) (.int .i64 ru)
  have D9 := S9.out.reg.grown (put7_grown W7 W.heap.size (.string nm) (.int .i64 f) (.int .i64 t) (.slice (some ⟨gs, 0, none⟩) L.length cs) (.slice ap P.length cp) (.slice ar rg.length cr) (.int .i64 ru)) S9.out.hZB
  have B9 := S9.out.bel.grown (put7_grown W7 W.heap.size (.string nm) (.int .i64 f) (.int .i64 t) (.slice (some ⟨gs, 0, none⟩) L.length cs) (.slice ap P.length cp) (.slice ar rg.length cr) (.int .i64 ru)) S9.out.bel.size (fun k e => by cases e; exact Nat.le_refl _)
  rw [← e9] at Z9 D9 B9
  unfold put7 at e9
  rw [← e9]
  clear e9
  have z0 := Z9.cell 0 rfl
  have z1 := Z9.cell 1 rfl
  have z2 := Z9.cell 2 rfl
  have z3 := Z9.cell 3 rfl
  have z4 := Z9.cell 4 rfl
  have z5 := Z9.cell 5 rfl
  have z6 := Z9.cell 6 rfl
  exact bodyPost_ret (by simp [results, Tryz.results30, go_sem, z0, z1, z2, z3, z4, z5, z6]; try rfl) rfl ⟨_, _, _, rfl, D9.row hS2, hS2, B9⟩
end Go.Proofs.YtchhdoipkimbgaaGreatDoor.ctr

namespace Go.Proofs.YtchhdoipkimbgaaGreatDoor.ctr
open Go.RowKit

theorem pat_cell {base : Nat} {W : World} {P : List Pat} {ap : Option Addr} {cp : Nat} (h : W.ownsRow base 76 3 (.slice ap P.length cp) P.length (icells patK P)) (hp : 0 < P.length) : ∃ gp, ap = some ⟨gp, 0, none⟩ ∧ W.cell? ⟨gp, 0, none⟩ = some (.int .i64 (atK patK P 0).day) ∧ P.length ≤ cp ∧ cp ≤ maxLen ∧ base ≤ gp := by
  obtain ⟨g, c, e, hg, hP⟩ := PRow.of_owns (K := patK) h hp
  cases e
  obtain ⟨q0, _, _⟩ := (hP.at hp).pat
  rw [Nat.zero_mul] at q0
  obtain ⟨cur, _, _, h1, h2, _⟩ := hP
  exact ⟨g, rfl, q0, h1, h2, hg⟩
set_option maxRecDepth 100000 in
set_option maxHeartbeats 4000000 in
theorem drawPatchAt (l09Regime : RegimeC) (W : World) (a : Option Addr) (len cap : Nat) (hlen : len ≤ maxLen) (hcode : CodeAt W.heap.size W a len) :
    Calls Tryz.prog 32 #[.slice a len cap] W fun e W' => ∃ v r n, e = .returned (.tuple #[v, .int .i64 n]) ∧ GRow W' v r ∧ DSmall r ∧ Below W.heap.size W W' := by
  have hB0 : Below W.heap.size W (W.alloc (.cells #[.string ⟨#[]⟩, .int .i64 0, .int .i64 0, .slice none 0 0, .slice none 0 0, .slice none 0 0, .int .i64 0] 29)) := (Below.refl _ _).alloc (Nat.le_refl _) _
  have hZ0 : Blk (W.alloc (.cells #[.string ⟨#[]⟩, .int .i64 0, .int .i64 0, .slice none 0 0, .slice none 0 0, .slice none 0 0, .int .i64 0] 29)) W.heap.size gmZero 29 := Blk.new _ _ _
  have B0 := hideP hB0
  have Z0 := hideP hZ0
  have HC := hideP (code_on hcode hB0)
  clear hB0 hZ0 hcode
  go_enter Tryz.func32, Tryz.ntmps32
  go_wp2_with fail
  refine (l01New _ a len cap hlen HC.out).mono ?_
  rintro e W1 ⟨B, rfl, hC1, hb1⟩
  have K1 := hideP hC1
  have Z1 := hideP (Z0.out.below hb1 Z0.out.lt)
  have B1 := hideP (B0.out.trans (hb1.mono B0.out.size))
  have hlo : W.heap.size < B := Nat.lt_of_lt_of_le Z0.out.lt hC1.lo
  have hhi : B < W1.heap.size := hC1.hi
  clear hC1 hb1 Z0 B0 HC
  go_wp2_with fail
  refine (l09Regime _ _ a len cap B 1000 (by omega) (by omega) hlen K1.out).mono ?_
  rintro e W2 ⟨v, r, rfl, hD, hS, hC2, hG2⟩
  obtain ⟨nm, f, t, ru, L, P, rg, gs, cs, ap, cp, ar, cr, rfl, hS2, D2⟩ := regX_of hD hS
  have hs2 : W1.heap.size ≤ W2.heap.size := hG2.size
  have S : Hid (RdSt W a len cap (W.alloc (.cells #[.string ⟨#[]⟩, .int .i64 0, .int .i64 0, .slice none 0 0, .slice none 0 0, .slice none 0 0, .int .i64 0] 29)).heap.size B W.heap.size W2.heap.size W1.heap.size #[.string nm, .int .i64 f, .int .i64 t, .slice (some ⟨gs, 0, none⟩) L.length cs, .slice ap P.length cp, .slice ar rg.length cr, .int .i64 ru] ⟨nm, f, t, L, P, rg, ru⟩ (W2.alloc (.cells #[.string nm, .int .i64 f, .int .i64 t, .slice (some ⟨gs, 0, none⟩) L.length cs, .slice ap P.length cp, .slice ar rg.length cr, .int .i64 ru] 29))) :=
    ⟨hC2.alloc _, (below_grownBy B1.out hG2 B1.out.size (by omega)).alloc (by have := B1.out.size; omega) _, (Z1.out.grown hG2 (by omega)).alloc _, Blk.new _ _ _, D2.out.below ((Below.refl _ _).alloc (Nat.le_refl _) _), Nat.le_refl _, by omega, by omega, hhi, by omega, hs2⟩
  have hRZ : ¬ W2.heap.size = W.heap.size := by omega
  have hZR : ¬ W.heap.size = W2.heap.size := fun h => hRZ h.symm
  generalize (W.alloc (.cells #[.string ⟨#[]⟩, .int .i64 0, .int .i64 0, .slice none 0 0, .slice none 0 0, .slice none 0 0, .int .i64 0] 29)).heap.size = n0 at *
  clear hD hS hC2 hG2 D2 K1 Z1 B1 hs2
  generalize W1.heap.size = base at *
  go_upto_region 3 with fail
  generalize W2.alloc (.cells #[.string nm, .int .i64 f, .int .i64 t, .slice (some ⟨gs, 0, none⟩) L.length cs, .slice ap P.length cp, .slice ar rg.length cr, .int .i64 ru] 29) = W3 at *
  by_cases hp : P.length = 0
  · have hp0 : ¬ (0 : Int) < (P.length : Int) := by omega
    clear hp
    have q4 := S.out.box.cell 4 rfl
    go_upto_region 5 with fail
    clear q4
    have SD := RdSt.drew S
    have q0 := S.out.box.cell 0 rfl
    have q1 := S.out.box.cell 1 rfl
    have q2 := S.out.box.cell 2 rfl
    have q3 := S.out.box.cell 3 rfl
    have q4 := S.out.box.cell 4 rfl
    have q5 := S.out.box.cell 5 rfl
    have q6 := S.out.box.cell 6 rfl
    go_region_held (fun w' => w'.cell? ⟨W2.heap.size, 0, none⟩ = some (.string nm) ∧ w'.cell? ⟨W2.heap.size, 1, none⟩ = some (.int .i64 f) ∧ w'.cell? ⟨W2.heap.size, 2, none⟩ = some (.int .i64 t) ∧ w'.cell? ⟨W2.heap.size, 3, none⟩ = some (.slice (some ⟨gs, 0, none⟩) L.length cs) ∧ w'.cell? ⟨W2.heap.size, 4, none⟩ = some (.slice ap P.length cp) ∧ w'.cell? ⟨W2.heap.size, 5, none⟩ = some (.slice ar rg.length cr) ∧ w'.cell? ⟨W2.heap.size, 6, none⟩ = some (.int .i64 ru)) (go_keep) ((go_at_call 63; refine (l01Below n0 _ a len cap B 100 hlen (by omega) (RdSt.curOf (w := W) (Z := W.heap.size) (R := W2.heap.size) (base := base) (vs := #[.string nm, .int .i64 f, .int .i64 t, .slice (some ⟨gs, 0, none⟩) L.length cs, .slice ap P.length cp, .slice ar rg.length cr, .int .i64 ru]) (r := ⟨nm, f, t, L, P, rg, ru⟩) (by assumption))).mono ?_; rintro e W7 ⟨x7, rfl, x70, x71, hC7, hG7⟩; have S9 := RdSt.step (by assumption) hG7 hC7; have d0 := S9.out.box.cell 0 rfl; have d1 := S9.out.box.cell 1 rfl; have d2 := S9.out.box.cell 2 rfl; have d3 := S9.out.box.cell 3 rfl; have d4 := S9.out.box.cell 4 rfl; have d5 := S9.out.box.cell 5 rfl; have d6 := S9.out.box.cell 6 rfl; have h0 := S9.out.zer.cell 0 rfl; have h1 := S9.out.zer.cell 1 rfl; have h2 := S9.out.zer.cell 2 rfl; have h3 := S9.out.zer.cell 3 rfl; have h4 := S9.out.zer.cell 4 rfl; have h5 := S9.out.zer.cell 5 rfl; have h6 := S9.out.zer.cell 6 rfl; have t0 := S9.out.zer.thaw 0; have t1 := S9.out.zer.thaw 1; have t2 := S9.out.zer.thaw 2; have t3 := S9.out.zer.thaw 3; have t4 := S9.out.zer.thaw 4; have t5 := S9.out.zer.thaw 5; have t6 := S9.out.zer.thaw 6; clear hC7 hG7))
    all_goals go_wp2_with fail
    obtain ⟨V9, e9⟩ : ∃ V9, V9 = put7 W7 W.heap.size (.string nm) (.int .i64 f) (.int .i64 t) (.slice (some ⟨gs, 0, none⟩) L.length cs) (.slice ap P.length cp) (.slice ar rg.length cr) (.int .i64 ru) := ⟨_, rfl⟩
    have Z9 := put7_blk S9.out.zer (.string nm) (.int .i64 f) (.int .i64 t) (.slice (some ⟨gs, 0, none⟩) L.length cs) (.slice ap P.length cp) (.slice ar rg.length cr) (.int .i64 ru)
    have D9 := S9.out.reg.grown (put7_grown W7 W.heap.size (.string nm) (.int .i64 f) (.int .i64 t) (.slice (some ⟨gs, 0, none⟩) L.length cs) (.slice ap P.length cp) (.slice ar rg.length cr) (.int .i64 ru)) S9.out.hZB
    have B9 := S9.out.bel.grown (put7_grown W7 W.heap.size (.string nm) (.int .i64 f) (.int .i64 t) (.slice (some ⟨gs, 0, none⟩) L.length cs) (.slice ap P.length cp) (.slice ar rg.length cr) (.int .i64 ru)) S9.out.bel.size (fun k e => by cases e; exact Nat.le_refl _)
    rw [← e9] at Z9 D9 B9
    unfold put7 at e9
    rw [← e9]
    clear e9
    have z0 := Z9.cell 0 rfl
    have z1 := Z9.cell 1 rfl
    have z2 := Z9.cell 2 rfl
    have z3 := Z9.cell 3 rfl
    have z4 := Z9.cell 4 rfl
    have z5 := Z9.cell 5 rfl
    have z6 := Z9.cell 6 rfl
    exact bodyPost_ret (by simp [results, Tryz.results32, go_sem, z0, z1, z2, z3, z4, z5, z6]; try rfl) rfl ⟨_, _, _, rfl, D9.row hS2, hS2, B9⟩

  have hp0 : (0 : Int) < (P.length : Int) := by omega
  have q4 := S.out.box.cell 4 rfl
  go_wp2_with fail
  refine (l01Once n0 _ a len cap B 2 hlen (by omega) S.out.cur).mono ?_
  rintro e W4 ⟨b, rfl, hC4, hG4⟩
  have S4 := RdSt.step S hG4 hC4
  clear hC4 hG4 S q4
  cases b
  · go_upto_region 5 with fail
    generalize W4 = W3 at *
    have S := S4
    clear S4
    have SD := RdSt.drew S
    have q0 := S.out.box.cell 0 rfl
    have q1 := S.out.box.cell 1 rfl
    have q2 := S.out.box.cell 2 rfl
    have q3 := S.out.box.cell 3 rfl
    have q4 := S.out.box.cell 4 rfl
    have q5 := S.out.box.cell 5 rfl
    have q6 := S.out.box.cell 6 rfl
    go_region_held (fun w' => w'.cell? ⟨W2.heap.size, 0, none⟩ = some (.string nm) ∧ w'.cell? ⟨W2.heap.size, 1, none⟩ = some (.int .i64 f) ∧ w'.cell? ⟨W2.heap.size, 2, none⟩ = some (.int .i64 t) ∧ w'.cell? ⟨W2.heap.size, 3, none⟩ = some (.slice (some ⟨gs, 0, none⟩) L.length cs) ∧ w'.cell? ⟨W2.heap.size, 4, none⟩ = some (.slice ap P.length cp) ∧ w'.cell? ⟨W2.heap.size, 5, none⟩ = some (.slice ar rg.length cr) ∧ w'.cell? ⟨W2.heap.size, 6, none⟩ = some (.int .i64 ru)) (go_keep) ((go_at_call 63; refine (l01Below n0 _ a len cap B 100 hlen (by omega) (RdSt.curOf (w := W) (Z := W.heap.size) (R := W2.heap.size) (base := base) (vs := #[.string nm, .int .i64 f, .int .i64 t, .slice (some ⟨gs, 0, none⟩) L.length cs, .slice ap P.length cp, .slice ar rg.length cr, .int .i64 ru]) (r := ⟨nm, f, t, L, P, rg, ru⟩) (by assumption))).mono ?_; rintro e W7 ⟨x7, rfl, x70, x71, hC7, hG7⟩; have S9 := RdSt.step (by assumption) hG7 hC7; have d0 := S9.out.box.cell 0 rfl; have d1 := S9.out.box.cell 1 rfl; have d2 := S9.out.box.cell 2 rfl; have d3 := S9.out.box.cell 3 rfl; have d4 := S9.out.box.cell 4 rfl; have d5 := S9.out.box.cell 5 rfl; have d6 := S9.out.box.cell 6 rfl; have h0 := S9.out.zer.cell 0 rfl; have h1 := S9.out.zer.cell 1 rfl; have h2 := S9.out.zer.cell 2 rfl; have h3 := S9.out.zer.cell 3 rfl; have h4 := S9.out.zer.cell 4 rfl; have h5 := S9.out.zer.cell 5 rfl; have h6 := S9.out.zer.cell 6 rfl; have t0 := S9.out.zer.thaw 0; have t1 := S9.out.zer.thaw 1; have t2 := S9.out.zer.thaw 2; have t3 := S9.out.zer.thaw 3; have t4 := S9.out.zer.thaw 4; have t5 := S9.out.zer.thaw 5; have t6 := S9.out.zer.thaw 6; clear hC7 hG7))
    all_goals go_wp2_with fail
    obtain ⟨V9, e9⟩ : ∃ V9, V9 = put7 W7 W.heap.size (.string nm) (.int .i64 f) (.int .i64 t) (.slice (some ⟨gs, 0, none⟩) L.length cs) (.slice ap P.length cp) (.slice ar rg.length cr) (.int .i64 ru) := ⟨_, rfl⟩
    have Z9 := put7_blk S9.out.zer (.string nm) (.int .i64 f) (.int .i64 t) (.slice (some ⟨gs, 0, none⟩) L.length cs) (.slice ap P.length cp) (.slice ar rg.length cr) (.int .i64 ru)
    have D9 := S9.out.reg.grown (put7_grown W7 W.heap.size (.string nm) (.int .i64 f) (.int .i64 t) (.slice (some ⟨gs, 0, none⟩) L.length cs) (.slice ap P.length cp) (.slice ar rg.length cr) (.int .i64 ru)) S9.out.hZB
    have B9 := S9.out.bel.grown (put7_grown W7 W.heap.size (.string nm) (.int .i64 f) (.int .i64 t) (.slice (some ⟨gs, 0, none⟩) L.length cs) (.slice ap P.length cp) (.slice ar rg.length cr) (.int .i64 ru)) S9.out.bel.size (fun k e => by cases e; exact Nat.le_refl _)
    rw [← e9] at Z9 D9 B9
    unfold put7 at e9
    rw [← e9]
    clear e9
    have z0 := Z9.cell 0 rfl
    have z1 := Z9.cell 1 rfl
    have z2 := Z9.cell 2 rfl
    have z3 := Z9.cell 3 rfl
    have z4 := Z9.cell 4 rfl
    have z5 := Z9.cell 5 rfl
    have z6 := Z9.cell 6 rfl
    exact bodyPost_ret (by simp [results, Tryz.results32, go_sem, z0, z1, z2, z3, z4, z5, z6]; try rfl) rfl ⟨_, _, _, rfl, D9.row hS2, hS2, B9⟩

  go_upto_region 4 with fail
  have S := S4
  clear S4
  obtain ⟨gp, rfl, c0, hl5, hl6, hgp⟩ : ∃ gp, ap = some ⟨gp, 0, none⟩ ∧ W4.cell? ⟨gp, 0, none⟩ = some (.int .i64 (atK patK P 0).day) ∧ P.length ≤ cp ∧ cp ≤ maxLen ∧ base ≤ gp := by
    obtain ⟨sv, pv, rv, e, x1, x2, x3⟩ := S.out.reg
    have e' : pv = .slice ap P.length cp := by
      injection e with e
      have := congrArg (fun a => a[4]?) e
      simpa using this.symm
    rw [e'] at x2
    exact pat_cell x2 (by omega)
  generalize (atK patK P 0).day = dz at *
  unfold maxLen at hl6
  have hz := S.out.hZB
  have hpZ : ¬ gp = W.heap.size := by omega
  have hZp : ¬ W.heap.size = gp := by omega
  have q0 := S.out.box.cell 0 rfl
  have q1 := S.out.box.cell 1 rfl
  have q2 := S.out.box.cell 2 rfl
  have q3 := S.out.box.cell 3 rfl
  have q4 := S.out.box.cell 4 rfl
  have q5 := S.out.box.cell 5 rfl
  have q6 := S.out.box.cell 6 rfl
  have h0 := S.out.zer.cell 0 rfl
  have t0 := S.out.zer.thaw 0
  have h1 := S.out.zer.cell 1 rfl
  have t1 := S.out.zer.thaw 1
  have h2 := S.out.zer.cell 2 rfl
  have t2 := S.out.zer.thaw 2
  have h3 := S.out.zer.cell 3 rfl
  have t3 := S.out.zer.thaw 3
  have h4 := S.out.zer.cell 4 rfl
  have t4 := S.out.zer.thaw 4
  have h5 := S.out.zer.cell 5 rfl
  have t5 := S.out.zer.thaw 5
  have h6 := S.out.zer.cell 6 rfl
  have t6 := S.out.zer.thaw 6
  go_region
  all_goals go_wp2_with fail
  obtain ⟨V9, e9⟩ : ∃ V9, V9 = put7 W4 W.heap.size (.string nm) (.int .i64 f) (.int .i64 t) (.slice (some ⟨gs, 0, none⟩) L.length cs) (.slice (some ⟨gp, 0, none⟩) P.length cp) (.slice ar rg.length cr) (.int .i64 ru) := ⟨_, rfl⟩
  have Z9 := put7_blk S.out.zer (.string nm) (.int .i64 f) (.int .i64 t) (.slice (some ⟨gs, 0, none⟩) L.length cs) (.slice (some ⟨gp, 0, none⟩) P.length cp) (.slice ar rg.length cr) (.int .i64 ru)
  have D9 := S.out.reg.grown (put7_grown W4 W.heap.size (.string nm) (.int .i64 f) (.int .i64 t) (.slice (some ⟨gs, 0, none⟩) L.length cs) (.slice (some ⟨gp, 0, none⟩) P.length cp) (.slice ar rg.length cr) (.int .i64 ru)) S.out.hZB
  have B9 := S.out.bel.grown (put7_grown W4 W.heap.size (.string nm) (.int .i64 f) (.int .i64 t) (.slice (some ⟨gs, 0, none⟩) L.length cs) (.slice (some ⟨gp, 0, none⟩) P.length cp) (.slice ar rg.length cr) (.int .i64 ru)) S.out.bel.size (fun k e => by cases e; exact Nat.le_refl _)
  rw [← e9] at Z9 D9 B9
  unfold put7 at e9
  rw [← e9]
  clear e9
  have z0 := Z9.cell 0 rfl
  have z1 := Z9.cell 1 rfl
  have z2 := Z9.cell 2 rfl
  have z3 := Z9.cell 3 rfl
  have z4 := Z9.cell 4 rfl
  have z5 := Z9.cell 5 rfl
  have z6 := Z9.cell 6 rfl
  exact bodyPost_ret (by simp [results, Tryz.results32, go_sem, z0, z1, z2, z3, z4, z5, z6]; try rfl) rfl ⟨_, _, _, rfl, (D9.below (Below.refl _ _).drew).row hS2, hS2, B9.drew⟩
end Go.Proofs.YtchhdoipkimbgaaGreatDoor.ctr

namespace Go.Proofs.YtchhdoipkimbgaaGreatDoor.ctr
open Go.RowKit

section
variable {P : Program} (w : World)
theorem run_append_none (t ty e : TypeId) (i : TypeInfo) (ht : P.underlying t = some (.slice e)) (hi : P.info? e = some i) (ad : Addr) (n cap c : Nat) (hn : n ≤ cap) : (Builtin.append_ #[t, t] ty #[.slice (some ad) n cap, .slice none 0 c]).run P w = .ok (.slice (some ad) n cap) w := by
  simp [Builtin.append_, run_underlying ht, sizeOf, typeInfo, hi, Builtin.lenOf, hn, Builtin.firstCells, storeCells]
/-- 'append([]T{}, x...)', x nil or not. -/
theorem wpList_append_copy {ops : Array Oper} {rest : List Oper} {o : Oper} {a : Act} {Q : Exit → Act → World → Prop} (hgd : o.guard = none) (s x : Operand) (t : TypeId)
    (ho : o.op = .call { callee := .builtin .append, args := #[s, x], argTypes := #[t, t] })
    (base : Nat) (e : TypeId) (i : TypeInfo) (z : Value) (size bytes : Nat) (ht : P.underlying t = some (.slice e)) (hi : P.info? e = some i) (hz : i.zero = some z)
    (hsize : i.size = size) (hby : i.bytes = bytes) (hzs : z.cells.size = size) (hsz : 0 < size)
    (g : Nat) (hs : a.eval s = .slice (some ⟨g, 0, none⟩) 0 0) (hown : w.ownsRow base e size (.slice (some ⟨g, 0, none⟩) 0 0) 0 [])
    (ad : Option Addr) (m c : Nat) (news : List Value) (hx : a.eval x = .slice ad m c) (hl : news.length = m * size) (hm : ad = none → m = 0) (hnews : ∀ ad', ad = some ad' → ∀ j u, news[j]? = some u → w.cell? (ad'.add j) = some u) (h1 : ∀ u ∈ news, u.oneCell' = true)
    (h63 : m ≤ maxLen) (hbytes : m * bytes ≤ 140737488355328) (hbase : base ≤ w.heap.size)
    (h : ∀ v' w', w'.ownsRow base e size v' m news → w.grownBy w' (some g) → v' ≠ .slice none 0 0 → wpList P ops Q rest (a.put o.dst v') w') : wpList P ops Q (o :: rest) a w := by
  cases ad with
  | none =>
    obtain rfl := hm rfl
    obtain rfl : news = [] := List.eq_nil_of_length_eq_zero (by simpa using hl)
    refine wpList_plain hgd fun _ hK => ?_
    unfold Oper.wp execOp
    simp only [ho, resolve, invoke, builtin, Sem.run_bind, Sem.run_pure, Result.andThen_ok, List.map_toArray, List.map_cons, List.map_nil, hs, hx, run_append_none w t o.type e i ht hi ⟨g, 0, none⟩ 0 0 c (Nat.le_refl _)]
    exact hK _ _ (h _ _ hown (grown_refl w _) (by simp))
  | some ad =>
    refine wpList_append_own w hgd s x t ho base e i z size bytes ht hi hz hsize hby hzs hsz _ 0 [] hs hown ad m c news hx hl (hnews ad rfl) h1 (by omega) (by simpa using hbytes) hbase fun v' w' h2 h3 h4 => ?_
    rw [Nat.zero_add, List.nil_append] at h2
    exact h v' w' h2 h3 (fun q => by have := (h4.1 q).1; cases this)
end
theorem own_read {W : World} {base size n : Nat} {T : TypeId} {v : Value} {xs : List Value} (h : W.ownsRow base T size v n xs) : ∃ ad c, v = .slice ad n c ∧ (ad = none → n = 0) ∧ ∀ ad', ad = some ad' → ∀ j u, xs[j]? = some u → W.cell? (ad'.add j) = some u := by
  rcases h.2 with ⟨rfl, h0⟩ | ⟨g, cap, cur, rfl, _⟩
  · exact ⟨none, 0, by rw [h0], fun _ => h0, fun _ e => by cases e⟩
  · exact ⟨_, cap, rfl, (fun e => by cases e), (fun ad' e j u hj => by cases e; exact h.cells (g := g) rfl j u hj)⟩
theorem rcells_split : ∀ (l : List Rgn) (j : Nat) (u : Value), (rcells l)[j]? = some u → j / 3 < l.length ∧ (rvals (rgA l (j / 3)))[j % 3]? = some u := fun l j u h => by
  have hj := (List.getElem?_eq_some_iff.1 h).1
  rw [rcells_len] at hj
  have hk : j / 3 < l.length := by omega
  refine ⟨hk, ?_⟩
  obtain ⟨v, hv⟩ : ∃ v, (rvals (rgA l (j / 3)))[j % 3]? = some v := ⟨_, List.getElem?_eq_getElem (by have : (rvals (rgA l (j / 3))).length = 3 := rfl; omega)⟩
  have := rcells_at l (j / 3) (j % 3) v hk hv
  rw [show j / 3 * 3 + j % 3 = j by omega, h] at this
  rw [hv]
  exact this.symm
theorem rrow_read {W : World} {v : Value} {l : List Rgn} (h : RRow W v l) : ∃ ad c, v = .slice ad l.length c ∧ (ad = none → l.length = 0) ∧ ∀ ad', ad = some ad' → ∀ j u, (rcells l)[j]? = some u → W.cell? (ad'.add j) = some u := by
  obtain ⟨ad, cap, rfl, h1, h2, h3, h⟩ := h
  refine ⟨ad, cap, rfl, fun e => ?_, fun ad' e j u hj => ?_⟩
  · rcases Nat.eq_zero_or_pos l.length with q | q
    · exact q
    · obtain ⟨g, e', _⟩ := h 0 q
      rw [e] at e'
      cases e'
  · obtain ⟨hk, hv⟩ := rcells_split l j u hj
    obtain ⟨g, e', hg, c0, c1, c2⟩ := h _ hk
    rw [e] at e'
    cases e'
    have hlt : j % 3 < 3 := Nat.mod_lt _ (by omega)
    have hj3 : j / 3 * 3 + j % 3 = j := by omega
    rw [Addr.add_lit]
    simp only [Nat.zero_add]
    generalize j / 3 = q at *
    generalize j % 3 = t at *
    subst hj3
    match t, hlt, hv with
    | 0, _, hv => rw [← Option.some.inj hv]; exact c0
    | 1, _, hv => rw [← Option.some.inj hv]; exact c1
    | 2, _, hv => rw [← Option.some.inj hv]; exact c2
theorem rcells_one : ∀ (l : List Rgn), ∀ u ∈ rcells l, u.oneCell' = true
  | [], u, h => by cases h
  | r :: l, u, h => by
    rw [rcells, List.mem_append] at h
    rcases h with h | h
    · simp only [rvals, List.mem_cons, List.not_mem_nil, or_false] at h
      rcases h with rfl | rfl | rfl <;> rfl
    · exact rcells_one l u h
theorem rnew_own {W : World} {base : Nat} {v : Value} {l : List Rgn} (h : W.ownsRow base 79 3 v l.length (rcells l)) (hl : l.length ≤ 3) (hn : ∀ k, k < l.length → okN (rgA l k).name) : RNewR base W v l := by
  rcases h.2 with ⟨rfl, h0⟩ | ⟨g, cap, cur, rfl, hg, hB, h1, h2, hs, ht⟩
  · obtain rfl := List.eq_nil_of_length_eq_zero h0
    exact ⟨⟨⟨none, 0, rfl, Nat.le_refl _, Nat.zero_le _, fun k hk => by simp at hk, fun k hk => by simp at hk⟩, hl, hn⟩, .inl rfl⟩
  · have hgd := RgSt.rgd (W := W) (g := g) (cur := cur) (l := l) hB ht hn
    have at_ : ∀ k, k < l.length → RAt W g k (rgA l k) := fun k hk => by
      have at_ : ∀ j v, j < 3 → (rvals (rgA l k))[j]? = some v → cur[k * 3 + j]? = some v := fun j v hj e => by
        have := rcells_at l k j v hk e
        rw [← ht, List.getElem?_take] at this
        split at this
        · simpa using this
        · cases this
      have hB' : Blk W g cur 79 := hB
      exact ⟨by have := hB'.cell (k * 3 + 0) (at_ 0 _ (by omega) rfl); simpa using this, hB'.cell (k * 3 + 1) (at_ 1 _ (by omega) rfl), hB'.cell (k * 3 + 2) (at_ 2 _ (by omega) rfl)⟩
    have hB' : Blk W g cur 79 := hB
    exact ⟨⟨⟨_, cap, rfl, h1, h2, fun k hk => by have := (hn k hk).1; unfold maxLen; omega, fun k hk => ⟨g, rfl, hB'.lt, at_ k hk⟩⟩, hl, hn⟩, .inr ⟨g, _, cap, rfl, hg⟩⟩
/-- The three rows of a regime, each in a block of its own. -/
def DOwn (base : Nat) (W : World) (sv pv rv : Value) (r : Rgm) : Prop := W.ownsRow base 56 5 sv r.segs.length (icells segK r.segs) ∧ W.ownsRow base 76 3 pv r.pats.length (icells patK r.pats) ∧ W.ownsRow base 79 3 rv r.rgns.length (rcells r.rgns) ∧ sv ≠ .slice none 0 0 ∧ pv ≠ .slice none 0 0 ∧ rv ≠ .slice none 0 0
/-- A copy under way: the two boxes. -/
structure CpSt (w : World) (vs : Array Value) (W : World) : Prop where
  bel : Below w.heap.size w W
  box : Blk W w.heap.size vs 29
  zer : Blk W (w.heap.size + 1) gmZero 29
theorem own_out {W : World} {base size n : Nat} {T : TypeId} {v : Value} {xs : List Value} (h : W.ownsRow base T size v n xs) (hv : v ≠ .slice none 0 0) : ∃ g c, v = .slice (some ⟨g, 0, none⟩) n c := by
  rcases h.2 with ⟨rfl, _⟩ | ⟨g, cap, cur, rfl, _⟩
  · exact absurd rfl hv
  · exact ⟨g, cap, rfl⟩
theorem CpSt.app {w W W' : World} {vs : Array Value} {o : Obj} (h : Hid (CpSt w vs W)) (hg : (W.alloc o).grownBy W' (some W.heap.size)) (j : Nat) (v : Value) : Hid (CpSt w (vs.setIfInBounds j v) (W'.setCell ⟨w.heap.size, j, none⟩ v)) := by
  have h1 := h.out.bel.size
  have h2 := h.out.box.lt
  have h3 := h.out.zer.lt
  refine ⟨?_, ((h.out.box.alloc o).grown hg (by omega)).set j v, ((h.out.zer.alloc o).grown hg (by omega)).other (by omega)⟩
  have hb := below_grownBy (h.out.bel.alloc h1 o) hg (by rw [size_new]; omega) h1
  exact below_grownBy hb (grown_set W' w.heap.size j v) hb.size (Nat.le_refl _)
theorem CpSt.cells {w W : World} {a b c d e f g : Value} (h : Hid (CpSt w #[a, b, c, d, e, f, g] W)) : W.cell? ⟨w.heap.size, 0, none⟩ = some a ∧ W.cell? ⟨w.heap.size, 1, none⟩ = some b ∧ W.cell? ⟨w.heap.size, 2, none⟩ = some c ∧ W.cell? ⟨w.heap.size, 3, none⟩ = some d ∧ W.cell? ⟨w.heap.size, 4, none⟩ = some e ∧ W.cell? ⟨w.heap.size, 5, none⟩ = some f ∧ W.cell? ⟨w.heap.size, 6, none⟩ = some g :=
  ⟨h.out.box.cell 0 rfl, h.out.box.cell 1 rfl, h.out.box.cell 2 rfl, h.out.box.cell 3 rfl, h.out.box.cell 4 rfl, h.out.box.cell 5 rfl, h.out.box.cell 6 rfl⟩
theorem own_app {w W W' : World} {vs : Array Value} {o : Obj} {T : TypeId} {size n : Nat} {v0 : Value} {xs : List Value} (h : Hid (CpSt w vs W)) (hr : W.ownsRow w.heap.size T size v0 n xs) (hT : 29 ≠ T) (hg : (W.alloc o).grownBy W' (some W.heap.size)) (j : Nat) (v : Value) : Hid ((W'.setCell ⟨w.heap.size, j, none⟩ v).ownsRow w.heap.size T size v0 n xs) := by
  have h1 : ∀ k, v0.ownBlock = some k → w.heap.size ≤ k ∧ k < W.heap.size := hr.lt
  have h2 := h.out.box.lt
  have hr2 := (hr.alloc o).kept hg (.inr (fun e => by have := (h1 _ e).2; omega))
  have hb2 : Blk W' w.heap.size vs 29 := (h.out.box.alloc o).grown hg (by omega)
  exact hr2.kept (grown_set W' w.heap.size j v) (.inr (own_apart hr2 hb2 hT).symm)
theorem own_new {w W W' : World} {vs : Array Value} {o : Obj} {T : TypeId} {size n : Nat} {v0 : Value} {xs : List Value} (h : Hid (CpSt w vs W)) (hg : (W.alloc o).grownBy W' (some W.heap.size)) (hr : W'.ownsRow w.heap.size T size v0 n xs) (hT : 29 ≠ T) (j : Nat) (v : Value) : Hid ((W'.setCell ⟨w.heap.size, j, none⟩ v).ownsRow w.heap.size T size v0 n xs) := by
  have h2 := h.out.box.lt
  have hb2 : Blk W' w.heap.size vs 29 := (h.out.box.alloc o).grown hg (by omega)
  exact hr.kept (grown_set W' w.heap.size j v) (.inr (own_apart hr hb2 hT).symm)

set_option maxRecDepth 100000 in
set_option maxHeartbeats 4000000 in
theorem l09Copy (W : World) (b0 : Nat) (v0 : Value) (r : Rgm) (hD : DRegW b0 W v0 r) (hS : DSmall r) :
    Calls Tryz.prog 99 #[v0] W fun e W' => ∃ sv pv rv, e = .returned (.agg #[.string r.name, .int .i64 r.fr, .int .i64 r.to, sv, pv, rv, .int .i64 r.rule]) ∧ DOwn W.heap.size W' sv pv rv r ∧ Below W.heap.size W W' := by
  obtain ⟨nm, f, t, L, P, rg, ru⟩ := r
  obtain ⟨sv, pv, rv, rfl, s1, s2, s3⟩ := hD
  dsimp only at *
  have hl1 : L.length ≤ 4 := hS.2.2.2.2.2.2.1
  have hl2 : P.length ≤ 2 := hS.2.2.2.2.2.2.2
  have hl3 : rg.length ≤ 3 := s3.1.2.1
  have hnm : nm.size ≤ 16 := hS.1
  have HN := hideP s3.1.2.2
  obtain ⟨sa, sc, rfl, n1, r1⟩ := own_read s1
  obtain ⟨pa, pc, rfl, n2, r2⟩ := own_read s2
  obtain ⟨ra, rc, rfl, n3, r3⟩ := rrow_read s3.1.1
  have N1 := hideP n1
  have N2 := hideP n2
  have N3 := hideP n3
  have K1 : Hid (∀ X, Below W.heap.size W X → ∀ ad', sa = some ad' → ∀ j u, (icells segK L)[j]? = some u → X.cell? (ad'.add j) = some u) := fun X hb ad' e j u hj => Later.at (r1 ad' e j u hj) ⟨X, hb⟩
  have K2 : Hid (∀ X, Below W.heap.size W X → ∀ ad', pa = some ad' → ∀ j u, (icells patK P)[j]? = some u → X.cell? (ad'.add j) = some u) := fun X hb ad' e j u hj => Later.at (r2 ad' e j u hj) ⟨X, hb⟩
  have K3 : Hid (∀ X, Below W.heap.size W X → ∀ ad', ra = some ad' → ∀ j u, (rcells rg)[j]? = some u → X.cell? (ad'.add j) = some u) := fun X hb ad' e j u hj => Later.at (r3 ad' e j u hj) ⟨X, hb⟩
  clear n1 n2 n3 r1 r2 r3 s1 s2 s3 hS
  have X1 : Hid (CpSt W #[.string nm, .int .i64 f, .int .i64 t, .slice sa L.length sc, .slice pa P.length pc, .slice ra rg.length rc, .int .i64 ru] ((W.alloc (.cells #[.string nm, .int .i64 f, .int .i64 t, .slice sa L.length sc, .slice pa P.length pc, .slice ra rg.length rc, .int .i64 ru] 29)).alloc (.cells #[.string ⟨#[]⟩, .int .i64 0, .int .i64 0, .slice none 0 0, .slice none 0 0, .slice none 0 0, .int .i64 0] 29))) :=
    ⟨((Below.refl _ _).alloc (Nat.le_refl _) _).alloc (by rw [size_new]; omega) _, (Blk.new _ _ _).alloc _, by have := Blk.new (W.alloc (.cells #[.string nm, .int .i64 f, .int .i64 t, .slice sa L.length sc, .slice pa P.length pc, .slice ra rg.length rc, .int .i64 ru] 29)) gmZero 29; rw [size_new] at this; exact this⟩
  obtain ⟨i1, hi1, he1⟩ := Option.map_eq_some_iff.1 info_seg
  simp only [Prod.mk.injEq] at he1
  obtain ⟨ia1, ia2, ia3⟩ := he1
  obtain ⟨i2, hi2, he2⟩ := Option.map_eq_some_iff.1 info_pat
  simp only [Prod.mk.injEq] at he2
  obtain ⟨ib1, ib2, ib3⟩ := he2
  obtain ⟨i3, hi3, he3⟩ := Option.map_eq_some_iff.1 info_rgnT
  simp only [Prod.mk.injEq] at he3
  obtain ⟨ic1, ic2, ic3⟩ := he3
  go_enter Tryz.func99, Tryz.ntmps99
  go_upto_region 1 with fail
  generalize (W.alloc (.cells #[.string nm, .int .i64 f, .int .i64 t, .slice sa L.length sc, .slice pa P.length pc, .slice ra rg.length rc, .int .i64 ru] 29)).alloc (.cells #[.string ⟨#[]⟩, .int .i64 0, .int .i64 0, .slice none 0 0, .slice none 0 0, .slice none 0 0, .int .i64 0] 29) = W1 at *
  have hsz1 := X1.out.bel.size
  obtain ⟨_, _, _, q3, q4, q5, _⟩ := CpSt.cells X1
  have hc : (W1.alloc (.cells #[] 56)).cell? ⟨W.heap.size, 3, none⟩ = some (.slice sa L.length sc) := (X1.out.box.alloc _).cell 3 rfl
  clear q3 q4 q5
  go_upto_region 2 with (at_builtin; refine wpList_append_copy _ rfl _ _ 25 rfl W.heap.size 56 i1 (.agg #[.int .i64 0, .int .i64 0, .int .i64 0, .int .i64 0, .int .i64 0]) 5 40 Tryz.underlying25 hi1 ia1 ia2 ia3 rfl (by decide) W1.heap.size rfl (World.ownsRow_made W1 #[] 0 hsz1 (Nat.zero_le _) rfl) sa L.length _ (icells segK L) rfl (icells_len L) N1.out (K1.out _ (X1.out.bel.alloc hsz1 _)) icell_one (by unfold maxLen; omega) (by omega) (by rw [size_new]; omega) ?_; intro v' w9 hown hgrow hne; obtain ⟨g1, c1, rfl⟩ := own_out hown hne; have b9 : Blk w9 W.heap.size #[.string nm, .int .i64 f, .int .i64 t, .slice sa L.length sc, .slice pa P.length pc, .slice ra rg.length rc, .int .i64 ru] 29 := (X1.out.box.alloc _).grown hgrow (by have := X1.out.box.lt; omega); have t9 := b9.cell 3 rfl; have f9 := b9.thaw 3)
  have X2 := CpSt.app X1 hgrow 3 (.slice (some ⟨g1, 0, none⟩) L.length c1)
  have O1 := own_new X1 hgrow hown (by decide) 3 (.slice (some ⟨g1, 0, none⟩) L.length c1)
  generalize w9.setCell ⟨W.heap.size, 3, none⟩ (.slice (some ⟨g1, 0, none⟩) L.length c1) = W2 at *
  clear hown hgrow hne b9 t9 f9 hc hsz1 X1
  have hsz2 := X2.out.bel.size
  obtain ⟨_, _, _, q3, q4, q5, _⟩ := CpSt.cells X2
  have hc : (W2.alloc (.cells #[] 76)).cell? ⟨W.heap.size, 4, none⟩ = some (.slice pa P.length pc) := (X2.out.box.alloc _).cell 4 rfl
  clear q3 q4 q5
  go_upto_region 3 with (at_builtin; refine wpList_append_copy _ rfl _ _ 26 rfl W.heap.size 76 i2 (.agg #[.int .i64 0, .int .i64 0, .int .i64 0]) 3 24 Tryz.underlying26 hi2 ib1 ib2 ib3 rfl (by decide) W2.heap.size rfl (World.ownsRow_made W2 #[] 0 hsz2 (Nat.zero_le _) rfl) pa P.length _ (icells patK P) rfl (icells_len P) N2.out (K2.out _ (X2.out.bel.alloc hsz2 _)) icell_one (by unfold maxLen; omega) (by omega) (by rw [size_new]; omega) ?_; intro v' w9 hown hgrow hne; obtain ⟨g2, c2, rfl⟩ := own_out hown hne; have b9 : Blk w9 W.heap.size #[.string nm, .int .i64 f, .int .i64 t, .slice (some ⟨g1, 0, none⟩) L.length c1, .slice pa P.length pc, .slice ra rg.length rc, .int .i64 ru] 29 := (X2.out.box.alloc _).grown hgrow (by have := X2.out.box.lt; omega); have t9 := b9.cell 4 rfl; have f9 := b9.thaw 4)
  have X3 := CpSt.app X2 hgrow 4 (.slice (some ⟨g2, 0, none⟩) P.length c2)
  have O2 := own_new X2 hgrow hown (by decide) 4 (.slice (some ⟨g2, 0, none⟩) P.length c2)
  have O1' := own_app X2 O1.out (by decide) hgrow 4 (.slice (some ⟨g2, 0, none⟩) P.length c2)
  generalize w9.setCell ⟨W.heap.size, 4, none⟩ (.slice (some ⟨g2, 0, none⟩) P.length c2) = W3 at *
  clear hown hgrow hne b9 t9 f9 hc hsz2 X2
  clear O1
  have O1 := O1'
  clear O1'
  have hsz3 := X3.out.bel.size
  obtain ⟨_, _, _, q3, q4, q5, _⟩ := CpSt.cells X3
  have hc : (W3.alloc (.cells #[] 79)).cell? ⟨W.heap.size, 5, none⟩ = some (.slice ra rg.length rc) := (X3.out.box.alloc _).cell 5 rfl
  clear q3 q4 q5
  go_upto_region 4 with (at_builtin; refine wpList_append_copy _ rfl _ _ 27 rfl W.heap.size 79 i3 (.agg #[.string ⟨#[]⟩, .int .i64 0, .int .i64 0]) 3 32 Tryz.underlying27 hi3 ic1 ic2 ic3 rfl (by decide) W3.heap.size rfl (World.ownsRow_made W3 #[] 0 hsz3 (Nat.zero_le _) rfl) ra rg.length _ (rcells rg) rfl (rcells_len rg) N3.out (K3.out _ (X3.out.bel.alloc hsz3 _)) (rcells_one rg) (by unfold maxLen; omega) (by omega) (by rw [size_new]; omega) ?_; intro v' w9 hown hgrow hne; obtain ⟨g3, c3, rfl⟩ := own_out hown hne; have b9 : Blk w9 W.heap.size #[.string nm, .int .i64 f, .int .i64 t, .slice (some ⟨g1, 0, none⟩) L.length c1, .slice (some ⟨g2, 0, none⟩) P.length c2, .slice ra rg.length rc, .int .i64 ru] 29 := (X3.out.box.alloc _).grown hgrow (by have := X3.out.box.lt; omega); have t9 := b9.cell 5 rfl; have f9 := b9.thaw 5)
  have X4 := CpSt.app X3 hgrow 5 (.slice (some ⟨g3, 0, none⟩) rg.length c3)
  have O3 := own_new X3 hgrow hown (by decide) 5 (.slice (some ⟨g3, 0, none⟩) rg.length c3)
  have O1' := own_app X3 O1.out (by decide) hgrow 5 (.slice (some ⟨g3, 0, none⟩) rg.length c3)
  have O2' := own_app X3 O2.out (by decide) hgrow 5 (.slice (some ⟨g3, 0, none⟩) rg.length c3)
  generalize w9.setCell ⟨W.heap.size, 5, none⟩ (.slice (some ⟨g3, 0, none⟩) rg.length c3) = W4 at *
  clear hown hgrow hne b9 t9 f9 hc hsz3 X3
  clear O1
  have O1 := O1'
  clear O1'
  clear O2
  have O2 := O2'
  clear O2'
  have hlt : W.heap.size + 1 < W4.heap.size := X4.out.zer.lt
  obtain ⟨q0, q1, q2, q3, q4, q5, q6⟩ := CpSt.cells X4
  have Z2 := hideP X4.out.zer
  have g7 := put7_grown W4 (W.heap.size + 1) (.string nm) (.int .i64 f) (.int .i64 t) (.slice (some ⟨g1, 0, none⟩) L.length c1) (.slice (some ⟨g2, 0, none⟩) P.length c2) (.slice (some ⟨g3, 0, none⟩) rg.length c3) (.int .i64 ru)
  have nb : ∀ {T : TypeId} {size n : Nat} {v0 : Value} {xs : List Value}, W4.ownsRow W.heap.size T size v0 n xs → 29 ≠ T → (put7 W4 (W.heap.size + 1) (.string nm) (.int .i64 f) (.int .i64 t) (.slice (some ⟨g1, 0, none⟩) L.length c1) (.slice (some ⟨g2, 0, none⟩) P.length c2) (.slice (some ⟨g3, 0, none⟩) rg.length c3) (.int .i64 ru)).ownsRow W.heap.size T size v0 n xs := fun h hT => h.kept g7 (.inr (own_apart h Z2.out hT).symm)
  have D3 : Hid (DOwn W.heap.size (put7 W4 (W.heap.size + 1) (.string nm) (.int .i64 f) (.int .i64 t) (.slice (some ⟨g1, 0, none⟩) L.length c1) (.slice (some ⟨g2, 0, none⟩) P.length c2) (.slice (some ⟨g3, 0, none⟩) rg.length c3) (.int .i64 ru)) (.slice (some ⟨g1, 0, none⟩) L.length c1) (.slice (some ⟨g2, 0, none⟩) P.length c2) (.slice (some ⟨g3, 0, none⟩) rg.length c3) ⟨nm, f, t, L, P, rg, ru⟩) := ⟨nb O1.out (by decide), nb O2.out (by decide), nb O3.out (by decide), by simp, by simp, by simp⟩
  have Z3 := hideP (put7_blk Z2.out (.string nm) (.int .i64 f) (.int .i64 t) (.slice (some ⟨g1, 0, none⟩) L.length c1) (.slice (some ⟨g2, 0, none⟩) P.length c2) (.slice (some ⟨g3, 0, none⟩) rg.length c3) (.int .i64 ru))
  have B3 := hideP (below_grownBy X4.out.bel g7 X4.out.bel.size (by omega))
  clear nb g7 O1 O2 O3 X4 K1 K2 K3 N1 N2 N3
  have w0 := Z2.out.cell 0 rfl
  have r0 := Z2.out.thaw 0
  have w1 := Z2.out.cell 1 rfl
  have r1 := Z2.out.thaw 1
  have w2 := Z2.out.cell 2 rfl
  have r2 := Z2.out.thaw 2
  have w3 := Z2.out.cell 3 rfl
  have r3 := Z2.out.thaw 3
  have w4 := Z2.out.cell 4 rfl
  have r4 := Z2.out.thaw 4
  have w5 := Z2.out.cell 5 rfl
  have r5 := Z2.out.thaw 5
  have w6 := Z2.out.cell 6 rfl
  have r6 := Z2.out.thaw 6
  go_wp2_with fail
  obtain ⟨V9, e9⟩ : ∃ V9, V9 = put7 W4 (W.heap.size + 1) (.string nm) (.int .i64 f) (.int .i64 t) (.slice (some ⟨g1, 0, none⟩) L.length c1) (.slice (some ⟨g2, 0, none⟩) P.length c2) (.slice (some ⟨g3, 0, none⟩) rg.length c3) (.int .i64 ru) := ⟨_, rfl⟩
  rw [← e9] at D3 Z3 B3
  unfold put7 at e9
  rw [← e9]
  clear e9
  have z0 := Z3.out.cell 0 rfl
  have z1 := Z3.out.cell 1 rfl
  have z2 := Z3.out.cell 2 rfl
  have z3 := Z3.out.cell 3 rfl
  have z4 := Z3.out.cell 4 rfl
  have z5 := Z3.out.cell 5 rfl
  have z6 := Z3.out.cell 6 rfl
  exact bodyPost_ret (by simp [results, Tryz.results99, go_sem, z0, z1, z2, z3, z4, z5, z6]; try rfl) rfl ⟨_, _, _, rfl, D3.out, B3.out⟩
end Go.Proofs.YtchhdoipkimbgaaGreatDoor.ctr

namespace Go.Proofs.YtchhdoipkimbgaaGreatDoor.ctr
open Go.RowKit

/-- A regime whose rows lie in blocks from base on and below b2. -/
def DMid (base b2 : Nat) (W : World) (v : Value) (r : Rgm) : Prop := ∃ sv pv rv, v = .agg #[.string r.name, .int .i64 r.fr, .int .i64 r.to, sv, pv, rv, .int .i64 r.rule] ∧ W.ownsRow base 56 5 sv r.segs.length (icells segK r.segs) ∧ W.ownsRow base 76 3 pv r.pats.length (icells patK r.pats) ∧ RMid base b2 W rv r.rgns ∧ (∀ k, sv.ownBlock = some k → k < b2) ∧ (∀ k, pv.ownBlock = some k → k < b2)
theorem DMid.of {base : Nat} {W : World} {v : Value} {r : Rgm} (h : DRegW base W v r) : DMid base W.heap.size W v r := by
  obtain ⟨sv, pv, rv, e, h1, h2, h3⟩ := h
  exact ⟨sv, pv, rv, e, h1, h2, RMid.of h3, fun k e => (h1.lt k e).2, fun k e => (h2.lt k e).2⟩
theorem DMid.grown {base b2 : Nat} {W W' : World} {v : Value} {r : Rgm} {o : Option Nat} (h : DMid base b2 W v r) (hG : W.grownBy W' o) (ho : ∀ b, o = some b → b < base ∨ b2 ≤ b) : DMid base b2 W' v r := by
  obtain ⟨sv, pv, rv, e, h1, h2, h3, h4, h5⟩ := h
  have q : ∀ v : Value, (∀ k, v.ownBlock = some k → base ≤ k) → (∀ k, v.ownBlock = some k → k < b2) → v.ownBlock = none ∨ v.ownBlock ≠ o := fun v l1 l2 => by
    cases hv : v.ownBlock with
    | none => exact .inl rfl
    | some k =>
      refine .inr fun e => ?_
      have := l1 k hv
      have := l2 k hv
      rcases ho k e.symm with x | x <;> omega
  exact ⟨sv, pv, rv, e, h1.kept hG (q sv (ibase h1) h4), h2.kept hG (q pv (ibase h2) h5), h3.grown hG ho, h4, h5⟩
theorem DMid.reg {base b2 : Nat} {W : World} {v : Value} {r : Rgm} (h : DMid base b2 W v r) : DRegW base W v r := by
  obtain ⟨sv, pv, rv, e, h1, h2, h3, h4, h5⟩ := h
  exact ⟨sv, pv, rv, e, h1, h2, h3.new⟩
/-- Two regimes lie drawn, each in a box of its own; two results' boxes stand open. -/
structure TwSt (w : World) (a : Option Addr) (len cap n0 B R R2 base b2 : Nat) (vs us : Array Value) (sv pv rv : Value) (r : Rgm) (L : List Seg) (P : List Pat) (W : World) : Prop where
  cur : Cur n0 W a len cap B
  bel : Below w.heap.size w W
  zer : Blk W w.heap.size gmZero 29
  zer2 : Blk W (w.heap.size + 1) gmZero 29
  box : Blk W R vs 29
  box2 : Blk W R2 us 29
  reg : DMid base b2 W (.agg vs) r
  seg : W.ownsRow (b2 + 1) 56 5 sv L.length (icells segK L)
  pat : W.ownsRow (b2 + 1) 76 3 pv P.length (icells patK P)
  rgn : W.ownsRow (b2 + 1) 79 3 rv r.rgns.length (rcells r.rgns)
  hZ : w.heap.size + 1 < base
  hB : w.heap.size + 1 < B
  hBb : B < base
  hRb : base ≤ R
  hRb2 : R = b2
  hR2 : b2 < R2
  hn0 : n0 ≤ B
section
variable {w W W' : World} {a : Option Addr} {len cap n0 B R R2 base b2 : Nat} {vs us : Array Value} {sv pv rv : Value} {r : Rgm} {L : List Seg} {P : List Pat}
/-- Whatever turns in B, or in memory behind the first regime's that is none of these rows and boxes. -/
theorem TwSt.turn (h : TwSt w a len cap n0 B R R2 base b2 vs us sv pv rv r L P W) {q : Nat} (hG : W.grownBy W' (some q)) (hC : Cur n0 W' a len cap B) (hq : w.heap.size + 1 < q) (hq1 : q < base ∨ b2 < q) (hq2 : q ≠ R2) (hs : sv.ownBlock ≠ some q) (hp : pv.ownBlock ≠ some q) (hr : rv.ownBlock ≠ some q) : TwSt w a len cap n0 B R R2 base b2 vs us sv pv rv r L P W' := by
  obtain ⟨x1, x2, x3, x4, x5, x6, x7, x8, x9, x10, y1, y2, y3, y4, y5, y6, y7⟩ := h
  exact ⟨hC, below_grownBy x2 hG x2.size (by omega), x3.grown hG (by omega), x4.grown hG (by omega), x5.grown hG (by omega), x6.grown hG (Ne.symm hq2), x7.grown hG (fun b e => by cases e; omega), x8.kept hG (.inr hs), x9.kept hG (.inr hp), x10.kept hG (.inr hr), y1, y2, y3, y4, y5, y6, y7⟩
theorem TwSt.step (h : Hid (TwSt w a len cap n0 B R R2 base b2 vs us sv pv rv r L P W)) (hG : W.grownBy W' (some B)) (hC : Cur n0 W' a len cap B) : Hid (TwSt w a len cap n0 B R R2 base b2 vs us sv pv rv r L P W') := by
  obtain ⟨x1, x2, x3, x4, x5, x6, x7, x8, x9, x10, y1, y2, y3, y4, y5, y6, y7⟩ := h.out
  exact h.out.turn hG hC y2 (.inl y3) (by omega) (fun e => by have := ibase x8 B e; omega) (fun e => by have := ibase x9 B e; omega) (fun e => by have := ibase x10 B e; omega)
/-- A store into the second's box. -/
theorem TwSt.store (h : Hid (TwSt w a len cap n0 B R R2 base b2 vs us sv pv rv r L P W)) (j : Nat) (v : Value) : Hid (TwSt w a len cap n0 B R R2 base b2 vs (us.setIfInBounds j v) sv pv rv r L P (W.setCell ⟨R2, j, none⟩ v)) := by
  obtain ⟨x1, x2, x3, x4, x5, x6, x7, x8, x9, x10, y1, y2, y3, y4, y5, y6, y7⟩ := h.out
  have hG := grown_set W R2 j v
  exact ⟨x1.store v (by omega) (by omega), below_grownBy x2 hG x2.size (by omega), x3.other (by omega), x4.other (by omega), x5.other (by omega), x6.set j v, x7.grown hG (fun b e => by cases e; exact .inr (by omega)), x8.kept hG (.inr (own_apart x8 x6 (by decide)).symm), x9.kept hG (.inr (own_apart x9 x6 (by decide)).symm), x10.kept hG (.inr (own_apart x10 x6 (by decide)).symm), y1, y2, y3, y4, y5, y6, y7⟩
theorem TwSt.al (h : Hid (TwSt w a len cap n0 B R R2 base b2 vs us sv pv rv r L P W)) (o : Obj) : Hid (TwSt w a len cap n0 B R R2 base b2 vs us sv pv rv r L P (W.alloc o)) := by
  obtain ⟨x1, x2, x3, x4, x5, x6, x7, x8, x9, x10, y1, y2, y3, y4, y5, y6, y7⟩ := h.out
  exact ⟨x1.alloc o, x2.alloc x2.size o, x3.alloc o, x4.alloc o, x5.alloc o, x6.alloc o, x7.grown (o := none) (grown_alloc (grown_refl _ _) o) (fun b e => by cases e), x8.alloc o, x9.alloc o, x10.alloc o, y1, y2, y3, y4, y5, y6, y7⟩
/-- One patch more. -/
theorem TwSt.app (h : Hid (TwSt w a len cap n0 B R R2 base b2 vs us sv pv rv r L P W)) (x : Pat) {pv' : Value} (hr : W'.ownsRow (b2 + 1) 76 3 pv' (P.length + 1) (icells patK P ++ icell patK x)) (hg : W.grownBy W' pv.ownBlock) : Hid (TwSt w a len cap n0 B R R2 base b2 vs us sv pv' rv r L (P ++ [x]) W') := by
  obtain ⟨x1, x2, x3, x4, x5, x6, x7, x8, x9, x10, y1, y2, y3, y4, y5, y6, y7⟩ := h.out
  have hbase : ∀ k, pv.ownBlock = some k → b2 + 1 ≤ k := ibase x9
  refine ⟨x1.grownO hg (fun k e => ⟨by have := hbase k e; omega, by have := hbase k e; omega⟩), x2.grown hg x2.size (fun k e => by have := hbase k e; omega), (hg.block _ x3.lt (fun e => by have := hbase _ e.symm; omega)).trans x3, (hg.block _ x4.lt (fun e => by have := hbase _ e.symm; omega)).trans x4, (hg.block _ x5.lt (fun e => by have := hbase _ e.symm; omega)).trans x5, (hg.block _ x6.lt (own_apart x9 x6 (by decide))).trans x6, x7.grown hg (fun b e => .inr (by have := hbase b e; omega)), x8.kept hg (own_two x8 x9 (by decide)), ?_, x10.kept hg (own_two x10 x9 (by decide)), y1, y2, y3, y4, y5, y6, y7⟩
  rw [List.length_append, icells_app, show icells patK [x] = icell patK x by simp [icells]]
  exact hr
/-- A number of the second's first segment stored. -/
theorem TwSt.segSet {g c : Nat} (h : Hid (TwSt w a len cap n0 B R R2 base b2 vs us (.slice (some ⟨g, 0, none⟩) L.length c) pv rv r L P W)) (hl : 0 < L.length) {j : Nat} (hj : j < 5) (z : Int) : Hid (TwSt w a len cap n0 B R R2 base b2 vs us (.slice (some ⟨g, 0, none⟩) L.length c) pv rv r (L.set 0 (segK.ofI ((segK.iv (atK segK L 0)).set j z))) P (W.setCell ⟨g, j, none⟩ (.int .i64 z))) := by
  obtain ⟨x1, x2, x3, x4, x5, x6, x7, x8, x9, x10, y1, y2, y3, y4, y5, y6, y7⟩ := h.out
  obtain ⟨g', c', e, hg, hP⟩ := PRow.of_owns (K := segK) x8 hl
  have e2 : g = g' ∧ c = c' := by simpa using e
  obtain ⟨rfl, rfl⟩ := e2
  have n2 : g ≠ R2 := fun q => by
    have := own_apart x8 x6 (by decide)
    exact this (by rw [← q]; rfl)
  have n3 : pv.ownBlock ≠ some g := fun q => by
    rcases own_two x9 x8 (by decide) with u | u
    · rw [u] at q; cases q
    · exact u q
  have n4 : rv.ownBlock ≠ some g := fun q => by
    rcases own_two x10 x8 (by decide) with u | u
    · rw [u] at q; cases q
    · exact u q
  have hG := grown_set W g j (.int .i64 z)
  have hq := (hP.field hl hj z).owns (base := b2 + 1) (by decide) hg
  rw [List.length_set] at hq
  have e5 : 0 * segK.m + j = j := by rw [Nat.zero_mul, Nat.zero_add]
  rw [e5] at hq
  refine ⟨x1.store _ (by omega) (by omega), below_grownBy x2 hG x2.size (by omega), x3.grown hG (by omega), x4.grown hG (by omega), x5.grown hG (by omega), x6.grown hG (Ne.symm n2), x7.grown hG (fun b e => by cases e; exact .inr (by omega)), ?_, x9.kept hG (.inr n3), x10.kept hG (.inr n4), y1, y2, y3, y4, y5, y6, y7⟩
  rw [List.length_set]
  exact hq
theorem TwSt.first {g c : Nat} (h : Hid (TwSt w a len cap n0 B R R2 base b2 vs us (.slice (some ⟨g, 0, none⟩) L.length c) pv rv r L P W)) (hl : 0 < L.length) : W.cell? ⟨g, 4, none⟩ = some (.int .i64 (atK segK L 0).off) ∧ W.frozen? ⟨g, 4, none⟩ = false ∧ L.length ≤ c ∧ c ≤ maxLen := by
  obtain ⟨g', c', e, hg, hP⟩ := PRow.of_owns (K := segK) h.out.seg hl
  have e2 : g = g' ∧ c = c' := by simpa using e
  obtain ⟨rfl, rfl⟩ := e2
  obtain ⟨_, _, _, _, q4⟩ := (hP.at hl).seg
  rw [Nat.zero_mul, Nat.zero_add] at q4
  obtain ⟨cur, hB, _, h1, h2, _⟩ := hP
  exact ⟨q4, hB.thaw _, h1, h2⟩
end
theorem new_three (W : World) (x y z : Int) (t : TypeId) (N : Nat) (hN : W.heap.size = N) : ∀ j u, (icell patK ⟨x, y, z⟩)[j]? = some u → (W.alloc (.cells #[.int .i64 x, .int .i64 y, .int .i64 z] t)).cell? ((⟨N, 0, none⟩ : Addr).add j) = some u := fun j u hu => by
  subst hN
  rw [Addr.add_lit, Nat.zero_add]
  exact (Blk.new W #[.int .i64 x, .int .i64 y, .int .i64 z] t).cell j (by simpa [icell, patK] using hu)
/-- Behind the switch. -/
def TwSw (w : World) (a : Option Addr) (len cap n0 B R R2 base b2 : Nat) (vs : Array Value) (nm : ByteArray) (f t : Int) (r : Rgm) (hr dr : Nat) (W : World) : Prop := ∃ (LL : List Seg) (PP : List Pat) (hs ls ds hp lp dp : Nat) (rr : Int), ls = LL.length ∧ lp = PP.length ∧ Hid (TwSt w a len cap n0 B R R2 base b2 vs #[.string nm, .int .i64 f, .int .i64 t, .slice (some ⟨hs, 0, none⟩) ls ds, .slice (some ⟨hp, 0, none⟩) lp dp, .slice (some ⟨hr, 0, none⟩) r.rgns.length dr, .int .i64 rr] (.slice (some ⟨hs, 0, none⟩) ls ds) (.slice (some ⟨hp, 0, none⟩) lp dp) (.slice (some ⟨hr, 0, none⟩) r.rgns.length dr) r LL PP W)
theorem grow_of_own {W : World} {base : Nat} {sv pv rv : Value} {r : Rgm} (h1 : W.ownsRow base 56 5 sv r.segs.length (icells segK r.segs)) (h2 : W.ownsRow base 76 3 pv r.pats.length (icells patK r.pats)) (h3 : W.ownsRow base 79 3 rv r.rgns.length (rcells r.rgns)) (hl : r.rgns.length ≤ 3) (hn : ∀ k, k < r.rgns.length → okN (rgA r.rgns k).name) (hs : r.name.size ≤ 16) : GRow W (.agg #[.string r.name, .int .i64 r.fr, .int .i64 r.to, sv, pv, rv, .int .i64 r.rule]) r :=
  ⟨sv, pv, rv, rfl, by unfold maxLen; omega, irow_owns h1, irow_owns h2, (rnew_own h3 hl hn).1.1⟩

set_option maxRecDepth 100000 in
set_option maxHeartbeats 8000000 in
theorem drawSameRegime (l09Regime : RegimeC) (W : World) (a : Option Addr) (len cap : Nat) (hlen : len ≤ maxLen) (hcode : CodeAt W.heap.size W a len) :
    Calls Tryz.prog 33 #[.slice a len cap] W fun e W' => ∃ v r v2 r2, e = .returned (.tuple #[v, v2]) ∧ GRow W' v r ∧ GRow W' v2 r2 ∧ Below W.heap.size W W' := by
  obtain ⟨W0, hW0⟩ : ∃ W0, W0 = (W.alloc (.cells #[.string ⟨#[]⟩, .int .i64 0, .int .i64 0, .slice none 0 0, .slice none 0 0, .slice none 0 0, .int .i64 0] 29)).alloc (.cells #[.string ⟨#[]⟩, .int .i64 0, .int .i64 0, .slice none 0 0, .slice none 0 0, .slice none 0 0, .int .i64 0] 29) := ⟨_, rfl⟩
  have hs0 : W0.heap.size = W.heap.size + 2 := by rw [hW0, size_new, size_new]
  have hB0 : Below W.heap.size W W0 := by rw [hW0]; exact ((Below.refl _ _).alloc (Nat.le_refl _) _).alloc (by rw [size_new]; omega) _
  have hZ0 : Blk W0 W.heap.size gmZero 29 := by rw [hW0]; exact (Blk.new _ _ _).alloc _
  have hY0 : Blk W0 (W.heap.size + 1) gmZero 29 := by
    have := Blk.new (W.alloc (.cells #[.string ⟨#[]⟩, .int .i64 0, .int .i64 0, .slice none 0 0, .slice none 0 0, .slice none 0 0, .int .i64 0] 29)) gmZero 29
    rw [size_new] at this
    rw [hW0]
    exact this
  have B0 := hideP hB0
  have Z0 := hideP hZ0
  have Y0 := hideP hY0
  have HC := hideP (code_on hcode hB0)
  clear hB0 hZ0 hY0 hcode
  go_enter Tryz.func33, Tryz.ntmps33
  go_wp2_with fail
  rw [← hW0]
  clear hW0
  refine (l01New _ a len cap hlen HC.out).mono ?_
  rintro e W1 ⟨B, rfl, hC1, hb1⟩
  have K1 := hideP hC1
  have Z1 := hideP (Z0.out.below hb1 Z0.out.lt)
  have Y1 := hideP (Y0.out.below hb1 Y0.out.lt)
  have B1 := hideP (B0.out.trans (hb1.mono B0.out.size))
  have hlo : W.heap.size + 1 < B := by have := hC1.lo; omega
  have hhi : B < W1.heap.size := hC1.hi
  have hn0 := hC1.lo
  clear hC1 hb1 Z0 Y0 B0 HC
  generalize W0.heap.size = n0 at *
  go_wp2_with fail
  refine (l09Regime _ _ a len cap B 1000 (by omega) (by omega) hlen K1.out).mono ?_
  rintro e W2 ⟨v, r, rfl, hD, hS, hC2, hG2⟩
  obtain ⟨nm, f, t, ru, L, P, rg, gs, cs, ap, cp, ar, cr, rfl, hS2, D2⟩ := regX_of hD hS
  have hs2 : W1.heap.size ≤ W2.heap.size := hG2.size
  have hl1 : 1 ≤ L.length := hS2.2.2.2.2.2.1
  have hl4 : L.length ≤ 4 := hS2.2.2.2.2.2.2.1
  have hl2 : P.length ≤ 2 := hS2.2.2.2.2.2.2.2
  obtain ⟨hl3, HN⟩ : rg.length ≤ 3 ∧ Hid (∀ k, k < rg.length → okN (rgA rg k).name) := by
    obtain ⟨_, _, _, _, _, _, x3⟩ := D2.out
    exact ⟨x3.1.2.1, x3.1.2.2⟩
  have hnm : nm.size ≤ 16 := hS2.1
  have C3 := hideP (hC2.alloc (.cells #[.string nm, .int .i64 f, .int .i64 t, .slice (some ⟨gs, 0, none⟩) L.length cs, .slice ap P.length cp, .slice ar rg.length cr, .int .i64 ru] 29))
  have B3 := hideP ((below_grownBy B1.out hG2 B1.out.size (by omega)).alloc (by have := B1.out.size; omega) (.cells #[.string nm, .int .i64 f, .int .i64 t, .slice (some ⟨gs, 0, none⟩) L.length cs, .slice ap P.length cp, .slice ar rg.length cr, .int .i64 ru] 29))
  have Z3 := hideP ((Z1.out.grown hG2 (by omega)).alloc (.cells #[.string nm, .int .i64 f, .int .i64 t, .slice (some ⟨gs, 0, none⟩) L.length cs, .slice ap P.length cp, .slice ar rg.length cr, .int .i64 ru] 29))
  have Y3 := hideP ((Y1.out.grown hG2 (by omega)).alloc (.cells #[.string nm, .int .i64 f, .int .i64 t, .slice (some ⟨gs, 0, none⟩) L.length cs, .slice ap P.length cp, .slice ar rg.length cr, .int .i64 ru] 29))
  have X3 := hideP (Blk.new W2 #[.string nm, .int .i64 f, .int .i64 t, .slice (some ⟨gs, 0, none⟩) L.length cs, .slice ap P.length cp, .slice ar rg.length cr, .int .i64 ru] 29)
  have D3 := hideP ((DMid.of D2.out).grown (o := none) (grown_alloc (grown_refl W2 none) (.cells #[.string nm, .int .i64 f, .int .i64 t, .slice (some ⟨gs, 0, none⟩) L.length cs, .slice ap P.length cp, .slice ar rg.length cr, .int .i64 ru] 29)) (fun b e => by cases e))
  have E3 := hideP (D2.out.below ((Below.refl _ _).alloc (Nat.le_refl _) (.cells #[.string nm, .int .i64 f, .int .i64 t, .slice (some ⟨gs, 0, none⟩) L.length cs, .slice ap P.length cp, .slice ar rg.length cr, .int .i64 ru] 29)))
  have hs3 : (W2.alloc (.cells #[.string nm, .int .i64 f, .int .i64 t, .slice (some ⟨gs, 0, none⟩) L.length cs, .slice ap P.length cp, .slice ar rg.length cr, .int .i64 ru] 29)).heap.size = W2.heap.size + 1 := size_new _ _
  clear hD hS hC2 hG2 D2 K1 Z1 Y1 B1
  go_upto_region 3 with fail
  generalize W2.alloc (.cells #[.string nm, .int .i64 f, .int .i64 t, .slice (some ⟨gs, 0, none⟩) L.length cs, .slice ap P.length cp, .slice ar rg.length cr, .int .i64 ru] 29) = W3 at *
  have q0 := X3.out.cell 0 rfl
  have q1 := X3.out.cell 1 rfl
  have q2 := X3.out.cell 2 rfl
  have q3 := X3.out.cell 3 rfl
  have q4 := X3.out.cell 4 rfl
  have q5 := X3.out.cell 5 rfl
  have q6 := X3.out.cell 6 rfl
  have HS3 := hideP hs3
  clear hs3
  go_wp2_with fail
  clear q0 q1 q2 q3 q4 q5 q6
  refine (l09Copy _ _ _ _ E3.out hS2).mono ?_
  rintro e W4 ⟨sv, pv, rv, rfl, hO, hb4⟩
  obtain ⟨o1, o2, o3, e1, e2, e3⟩ := hO
  obtain ⟨hs, ds, rfl⟩ := own_out o1 e1
  obtain ⟨hp, dp, rfl⟩ := own_out o2 e2
  obtain ⟨hr, dr, rfl⟩ := own_out o3 e3
  rw [HS3.out] at o1 o2 o3
  have hb4' : W3.heap.size ≤ W4.heap.size := hb4.size
  rw [HS3.out] at hb4'
  dsimp only at o1 o2 o3
  have S : Hid (TwSt W a len cap n0 B W2.heap.size W4.heap.size W1.heap.size W2.heap.size #[.string nm, .int .i64 f, .int .i64 t, .slice (some ⟨gs, 0, none⟩) L.length cs, .slice ap P.length cp, .slice ar rg.length cr, .int .i64 ru] #[.string nm, .int .i64 f, .int .i64 t, .slice (some ⟨hs, 0, none⟩) L.length ds, .slice (some ⟨hp, 0, none⟩) P.length dp, .slice (some ⟨hr, 0, none⟩) rg.length dr, .int .i64 ru] (.slice (some ⟨hs, 0, none⟩) L.length ds) (.slice (some ⟨hp, 0, none⟩) P.length dp) (.slice (some ⟨hr, 0, none⟩) rg.length dr) ⟨nm, f, t, L, P, rg, ru⟩ L P (W4.alloc (.cells #[.string nm, .int .i64 f, .int .i64 t, .slice (some ⟨hs, 0, none⟩) L.length ds, .slice (some ⟨hp, 0, none⟩) P.length dp, .slice (some ⟨hr, 0, none⟩) rg.length dr, .int .i64 ru] 29))) :=
    ⟨(C3.out.below hb4).alloc _, (B3.out.trans (hb4.mono B3.out.size)).alloc (by have := B3.out.size; have := hb4.size; omega) _, (Z3.out.below hb4 Z3.out.lt).alloc _, (Y3.out.below hb4 Y3.out.lt).alloc _, (X3.out.below hb4 X3.out.lt).alloc _, Blk.new _ _ _, D3.out.grown (o := none) (grown_alloc (grown_of_below hb4) _) (fun b e => by cases e), o1.alloc _, o2.alloc _, o3.alloc _, by omega, hlo, hhi, hs2, rfl, by omega, hn0⟩
  clear C3 B3 Z3 Y3 X3 D3 E3 hb4 hb4' o1 o2 o3 e1 e2 e3 HS3 hlo hhi hn0 hs2
  have HD := hideP hS2
  clear hS2
  go_wp2_with fail
  generalize W4.alloc (.cells #[.string nm, .int .i64 f, .int .i64 t, .slice (some ⟨hs, 0, none⟩) L.length ds, .slice (some ⟨hp, 0, none⟩) P.length dp, .slice (some ⟨hr, 0, none⟩) rg.length dr, .int .i64 ru] 29) = V1 at *
  generalize W4.heap.size = R2 at *
  generalize W2.heap.size = R at *
  generalize W1.heap.size = base at *
  refine (l01Below n0 _ a len cap B 6 hlen (by omega) S.out.cur).mono ?_
  rintro e V ⟨yv, rfl, p3, p4, hC3, hG3⟩
  have S3 := TwSt.step S hG3 hC3
  clear hC3 hG3 S
  go_upto_block 0 with fail
  go_cut [] (fun wx => TwSw W a len cap n0 B R R2 base R #[.string nm, .int .i64 f, .int .i64 t, .slice (some ⟨gs, 0, none⟩) L.length cs, .slice ap P.length cp, .slice ar rg.length cr, .int .i64 ru] nm f t ⟨nm, f, t, L, P, rg, ru⟩ hr dr wx)
  case first =>
    by_cases k0 : yv = 0
    · subst k0
      obtain ⟨x4, f4, hl5, hl6⟩ := TwSt.first S3 (by omega)
      have c3 := S3.out.box2.cell 3 rfl
      have hl0 : (0 : Int) < (L.length : Int) := by omega
      unfold maxLen at hl6
      generalize hz : (atK segK L 0).off = zo at *
      go_wp2_with fail
      have S9 := TwSt.segSet S3 (by omega) (j := 4) (by omega) (wrap64 (zo + 1))
      go_meet
      exact ⟨_, _, _, _, _, _, _, _, _, by rw [List.length_set], rfl, S9⟩
    by_cases k1 : yv = 1
    · subst k1
      have c6 := S3.out.box2.cell 6 rfl
      have f6 := S3.out.box2.thaw 6
      go_wp2_with fail
      have S9 := TwSt.store S3 6 (.int .i64 (wrap64 (1 - ru)))
      go_meet
      exact ⟨_, _, _, _, _, _, _, _, _, rfl, rfl, S9⟩
    by_cases k2 : yv = 2
    · subst k2
      obtain ⟨i0, hi, he⟩ := Option.map_eq_some_iff.1 info_pat
      simp only [Prod.mk.injEq] at he
      obtain ⟨hz0, hz1, hz2⟩ := he
      have c4 := S3.out.box2.cell 4 rfl
      have SA := TwSt.al S3 (.cells #[.int .i64 0, .int .i64 0, .int .i64 0] 76)
      have hsz := SA.out.hR2
      have hsz2 := SA.out.box2.lt
      go_wp2_with (at_builtin; refine wpList_append_own _ rfl _ _ 26 rfl (R + 1) 76 i0 (.agg #[.int .i64 0, .int .i64 0, .int .i64 0]) 3 24 Tryz.underlying26 hi hz0 hz1 hz2 rfl (by decide) _ _ _ rfl SA.out.pat ⟨V.heap.size, 0, none⟩ 1 1 (icell patK ⟨0, 0, 0⟩) rfl rfl (new_three V 0 0 0 _ _ rfl) (by simp [icell, patK, Value.oneCell']) (by unfold maxLen; omega) (by omega) (by omega) ?_; intro v' w9 hown hgrow hnn; obtain ⟨g9, c9, rfl⟩ := own_out hown (fun q => by have := (hnn.1 q).1; cases this); have S8 := TwSt.app SA ⟨0, 0, 0⟩ hown hgrow; have y4 := S8.out.box2.cell 4 rfl; have u4 := S8.out.box2.thaw 4)
      have S9 := TwSt.store S8 4 (.slice (some ⟨g9, 0, none⟩) (P.length + 1) c9)
      go_meet
      exact ⟨_, _, _, _, _, _, _, _, _, rfl, by rw [List.length_append]; rfl, S9⟩
    go_wp2_with fail
    go_meet
    exact ⟨_, _, _, _, _, _, _, _, _, rfl, rfl, S3⟩
  case rest =>
  clear S3
  obtain ⟨LL, PP, hs', ls, ds', hp', lp, dp', rr, hls, hlp, S⟩ := hcut
  clear p3 p4 hs ds hp dp
  dsimp only at S
  have hZb := S.out.hZ
  have HLS := hideP hls
  have HLP := hideP hlp
  have nZ1 : ¬ W.heap.size = W.heap.size + 1 := by omega
  have nR : ¬ R = W.heap.size := by have := S.out.hRb; omega
  have nR' : ¬ R = W.heap.size + 1 := by have := S.out.hRb; omega
  have nS : ¬ R2 = W.heap.size := by have := S.out.hRb; have := S.out.hR2; omega
  have nS' : ¬ R2 = W.heap.size + 1 := by have := S.out.hRb; have := S.out.hR2; omega

  have a0 := S.out.box.cell 0 rfl
  have b0 := S.out.box2.cell 0 rfl
  have c0 := S.out.zer.cell 0 rfl
  have d0 := S.out.zer2.cell 0 rfl
  have u0 := S.out.zer.thaw 0
  have v0 := S.out.zer2.thaw 0
  have a1 := S.out.box.cell 1 rfl
  have b1 := S.out.box2.cell 1 rfl
  have c1 := S.out.zer.cell 1 rfl
  have d1 := S.out.zer2.cell 1 rfl
  have u1 := S.out.zer.thaw 1
  have v1 := S.out.zer2.thaw 1
  have a2 := S.out.box.cell 2 rfl
  have b2 := S.out.box2.cell 2 rfl
  have c2 := S.out.zer.cell 2 rfl
  have d2 := S.out.zer2.cell 2 rfl
  have u2 := S.out.zer.thaw 2
  have v2 := S.out.zer2.thaw 2
  have a3 := S.out.box.cell 3 rfl
  have b3 := S.out.box2.cell 3 rfl
  have c3 := S.out.zer.cell 3 rfl
  have d3 := S.out.zer2.cell 3 rfl
  have u3 := S.out.zer.thaw 3
  have v3 := S.out.zer2.thaw 3
  have a4 := S.out.box.cell 4 rfl
  have b4 := S.out.box2.cell 4 rfl
  have c4 := S.out.zer.cell 4 rfl
  have d4 := S.out.zer2.cell 4 rfl
  have u4 := S.out.zer.thaw 4
  have v4 := S.out.zer2.thaw 4
  have a5 := S.out.box.cell 5 rfl
  have b5 := S.out.box2.cell 5 rfl
  have c5 := S.out.zer.cell 5 rfl
  have d5 := S.out.zer2.cell 5 rfl
  have u5 := S.out.zer.thaw 5
  have v5 := S.out.zer2.thaw 5
  have a6 := S.out.box.cell 6 rfl
  have b6 := S.out.box2.cell 6 rfl
  have c6 := S.out.zer.cell 6 rfl
  have d6 := S.out.zer2.cell 6 rfl
  have u6 := S.out.zer.thaw 6
  have v6 := S.out.zer2.thaw 6
  go_wp2_with fail
  go_region
  go_wp2_with fail
  have hs1 := HLS.out
  have hs2 := HLP.out
  subst hs1
  subst hs2
  clear HLS HLP hls hlp
  have hRb := S.out.hRb
  have g1 := put7_grown wc W.heap.size (.string nm) (.int .i64 f) (.int .i64 t) (.slice (some ⟨gs, 0, none⟩) L.length cs) (.slice ap P.length cp) (.slice ar rg.length cr) (.int .i64 ru)
  have g2 := put7_grown (put7 wc W.heap.size (.string nm) (.int .i64 f) (.int .i64 t) (.slice (some ⟨gs, 0, none⟩) L.length cs) (.slice ap P.length cp) (.slice ar rg.length cr) (.int .i64 ru)) (W.heap.size + 1) (.string nm) (.int .i64 f) (.int .i64 t) (.slice (some ⟨hs', 0, none⟩) LL.length ds') (.slice (some ⟨hp', 0, none⟩) PP.length dp') (.slice (some ⟨hr, 0, none⟩) rg.length dr) (.int .i64 rr)
  have zA := hideP ((put7_blk S.out.zer (.string nm) (.int .i64 f) (.int .i64 t) (.slice (some ⟨gs, 0, none⟩) L.length cs) (.slice ap P.length cp) (.slice ar rg.length cr) (.int .i64 ru)).grown g2 (by omega))
  have zB := hideP (put7_blk (S.out.zer2.grown g1 (by omega)) (.string nm) (.int .i64 f) (.int .i64 t) (.slice (some ⟨hs', 0, none⟩) LL.length ds') (.slice (some ⟨hp', 0, none⟩) PP.length dp') (.slice (some ⟨hr, 0, none⟩) rg.length dr) (.int .i64 rr))
  have kp : ∀ {T : TypeId} {size n : Nat} {v0 : Value} {xs : List Value}, wc.ownsRow (R + 1) T size v0 n xs → ((put7 (put7 wc W.heap.size (.string nm) (.int .i64 f) (.int .i64 t) (.slice (some ⟨gs, 0, none⟩) L.length cs) (.slice ap P.length cp) (.slice ar rg.length cr) (.int .i64 ru)) (W.heap.size + 1) (.string nm) (.int .i64 f) (.int .i64 t) (.slice (some ⟨hs', 0, none⟩) LL.length ds') (.slice (some ⟨hp', 0, none⟩) PP.length dp') (.slice (some ⟨hr, 0, none⟩) rg.length dr) (.int .i64 rr)).drew).ownsRow (R + 1) T size v0 n xs := fun h => iown_later ((h.kept g1 (.inr (fun e => by have := ibase h _ e; omega))).kept g2 (.inr (fun e => by have := ibase h _ e; omega))) (Below.refl _ _).drew
  have F1 := hideP ((((S.out.reg.reg.grown g1 (by omega)).grown g2 hZb).below (Below.refl _ _).drew).row HD.out)
  have F2 := hideP (grow_of_own (r := ⟨nm, f, t, LL, PP, rg, rr⟩) (kp S.out.seg) (kp S.out.pat) (kp S.out.rgn) hl3 HN.out hnm)
  have F3 := hideP (below_grownBy (below_grownBy S.out.bel g1 S.out.bel.size (Nat.le_refl _)) g2 (by have := g1.size; have := S.out.bel.size; omega) (by omega)).drew
  obtain ⟨V9, e9⟩ : ∃ V9, V9 = put7 (put7 wc W.heap.size (.string nm) (.int .i64 f) (.int .i64 t) (.slice (some ⟨gs, 0, none⟩) L.length cs) (.slice ap P.length cp) (.slice ar rg.length cr) (.int .i64 ru)) (W.heap.size + 1) (.string nm) (.int .i64 f) (.int .i64 t) (.slice (some ⟨hs', 0, none⟩) LL.length ds') (.slice (some ⟨hp', 0, none⟩) PP.length dp') (.slice (some ⟨hr, 0, none⟩) rg.length dr) (.int .i64 rr) := ⟨_, rfl⟩
  rw [← e9] at zA zB F1 F2 F3
  unfold put7 at e9
  rw [← e9]
  clear e9 kp g1 g2
  have y0 := zA.out.cell 0 rfl
  have z0 := zB.out.cell 0 rfl
  have y1 := zA.out.cell 1 rfl
  have z1 := zB.out.cell 1 rfl
  have y2 := zA.out.cell 2 rfl
  have z2 := zB.out.cell 2 rfl
  have y3 := zA.out.cell 3 rfl
  have z3 := zB.out.cell 3 rfl
  have y4 := zA.out.cell 4 rfl
  have z4 := zB.out.cell 4 rfl
  have y5 := zA.out.cell 5 rfl
  have z5 := zB.out.cell 5 rfl
  have y6 := zA.out.cell 6 rfl
  have z6 := zB.out.cell 6 rfl
  exact bodyPost_ret (by simp [results, Tryz.results33, go_sem, y0, y1, y2, y3, y4, y5, y6, z0, z1, z2, z3, z4, z5, z6]; try rfl) rfl ⟨_, _, _, _, rfl, F1.out, F2.out, F3.out⟩
end Go.Proofs.YtchhdoipkimbgaaGreatDoor.ctr
