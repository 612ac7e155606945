/- All cells of a block at once; the end of a function that stores its answer cell by cell into the answer's box; and what else the law reaches. -/
import Derived.Test.YtpclaceefapppaaGreatDoorJnZaa
import Derived.Test.YtpclaceefapppaaGreatDoorJnZab
import Derived.Deep.RegionHeld2
import Derived.ScopeJumps
import Derived.WalkMore
set_option maxRecDepth 100000
set_option maxHeartbeats 4000000
namespace Go.Proofs.YtpclaceefapppaaGreatDoor.ctr
open Go.RowKit
theorem cells2 {W : World} {b : Nat} {v0 v1 : Value} {t : TypeId} (h : ∀ x : Later W, Blk x.w b #[v0, v1] t) : (∀ x : Later W, x.w.cell? ⟨b, 0, none⟩ = some v0) ∧ (∀ x : Later W, x.w.cell? ⟨b, 1, none⟩ = some v1) :=
 ⟨fun x => (h x).cell 0 rfl, fun x => (h x).cell 1 rfl⟩
theorem Blk.cells2 {w : World} {b : Nat} {v0 v1 : Value} {t : TypeId} (h : Blk w b #[v0, v1] t) : w.cell? ⟨b, 0, none⟩ = some v0 ∧ w.cell? ⟨b, 1, none⟩ = some v1 :=
 ⟨h.cell 0 rfl, h.cell 1 rfl⟩
theorem cells4 {W : World} {b : Nat} {v0 v1 v2 v3 : Value} {t : TypeId} (h : ∀ x : Later W, Blk x.w b #[v0, v1, v2, v3] t) : (∀ x : Later W, x.w.cell? ⟨b, 0, none⟩ = some v0) ∧ (∀ x : Later W, x.w.cell? ⟨b, 1, none⟩ = some v1) ∧ (∀ x : Later W, x.w.cell? ⟨b, 2, none⟩ = some v2) ∧ (∀ x : Later W, x.w.cell? ⟨b, 3, none⟩ = some v3) :=
 ⟨fun x => (h x).cell 0 rfl, fun x => (h x).cell 1 rfl, fun x => (h x).cell 2 rfl, fun x => (h x).cell 3 rfl⟩
theorem thaws4 {W : World} {b : Nat} {vs : Array Value} {t : TypeId} (h : ∀ x : Later W, Blk x.w b vs t) : (∀ x : Later W, x.w.frozen? ⟨b, 0, none⟩ = false) ∧ (∀ x : Later W, x.w.frozen? ⟨b, 1, none⟩ = false) ∧ (∀ x : Later W, x.w.frozen? ⟨b, 2, none⟩ = false) ∧ (∀ x : Later W, x.w.frozen? ⟨b, 3, none⟩ = false) :=
 ⟨fun x => (h x).thaw 0, fun x => (h x).thaw 1, fun x => (h x).thaw 2, fun x => (h x).thaw 3⟩
theorem Blk.cells4 {w : World} {b : Nat} {v0 v1 v2 v3 : Value} {t : TypeId} (h : Blk w b #[v0, v1, v2, v3] t) : w.cell? ⟨b, 0, none⟩ = some v0 ∧ w.cell? ⟨b, 1, none⟩ = some v1 ∧ w.cell? ⟨b, 2, none⟩ = some v2 ∧ w.cell? ⟨b, 3, none⟩ = some v3 :=
 ⟨h.cell 0 rfl, h.cell 1 rfl, h.cell 2 rfl, h.cell 3 rfl⟩
theorem ret4 {P : Program} {fn : Func} {R : Ending → World → Prop} {a : Act} {V w : World} {b : Nat} {v0 v1 v2 v3 u0 u1 u2 u3 v : Value} {t : TypeId} (h : Blk w b #[u0, u1, u2, u3] t) (hb : Below V.heap.size V w) (hl : V.heap.size ≤ b) (hd : a.defers = []) (H : ∀ W, W.cell? ⟨b, 0, none⟩ = some v0 → W.cell? ⟨b, 1, none⟩ = some v1 → W.cell? ⟨b, 2, none⟩ = some v2 → W.cell? ⟨b, 3, none⟩ = some v3 → Below V.heap.size V W → (results fn a.tmps).run P W = .ok v W ∧ R (.returned v) W) : bodyPost P fn R .ret a ((((w.setCell ⟨b, 0, none⟩ v0).setCell ⟨b, 1, none⟩ v1).setCell ⟨b, 2, none⟩ v2).setCell ⟨b, 3, none⟩ v3) := by
 have a0 : Blk (w.setCell ⟨b, 0, none⟩ v0) b #[v0, u1, u2, u3] t := h.set 0 v0
 have a1 : Blk ((w.setCell ⟨b, 0, none⟩ v0).setCell ⟨b, 1, none⟩ v1) b #[v0, v1, u2, u3] t := a0.set 1 v1
 have a2 : Blk (((w.setCell ⟨b, 0, none⟩ v0).setCell ⟨b, 1, none⟩ v1).setCell ⟨b, 2, none⟩ v2) b #[v0, v1, v2, u3] t := a1.set 2 v2
 have hz : Blk ((((w.setCell ⟨b, 0, none⟩ v0).setCell ⟨b, 1, none⟩ v1).setCell ⟨b, 2, none⟩ v2).setCell ⟨b, 3, none⟩ v3) b #[v0, v1, v2, v3] t := a2.set 3 v3
 have q := H _ (hz.cell 0 rfl) (hz.cell 1 rfl) (hz.cell 2 rfl) (hz.cell 3 rfl) (below_store (below_store (below_store (below_store hb _ hl) _ hl) _ hl) _ hl)
 exact bodyPost_ret q.1 hd q.2
theorem cells5 {W : World} {b : Nat} {v0 v1 v2 v3 v4 : Value} {t : TypeId} (h : ∀ x : Later W, Blk x.w b #[v0, v1, v2, v3, v4] t) : (∀ x : Later W, x.w.cell? ⟨b, 0, none⟩ = some v0) ∧ (∀ x : Later W, x.w.cell? ⟨b, 1, none⟩ = some v1) ∧ (∀ x : Later W, x.w.cell? ⟨b, 2, none⟩ = some v2) ∧ (∀ x : Later W, x.w.cell? ⟨b, 3, none⟩ = some v3) ∧ (∀ x : Later W, x.w.cell? ⟨b, 4, none⟩ = some v4) :=
 ⟨fun x => (h x).cell 0 rfl, fun x => (h x).cell 1 rfl, fun x => (h x).cell 2 rfl, fun x => (h x).cell 3 rfl, fun x => (h x).cell 4 rfl⟩
theorem thaws5 {W : World} {b : Nat} {vs : Array Value} {t : TypeId} (h : ∀ x : Later W, Blk x.w b vs t) : (∀ x : Later W, x.w.frozen? ⟨b, 0, none⟩ = false) ∧ (∀ x : Later W, x.w.frozen? ⟨b, 1, none⟩ = false) ∧ (∀ x : Later W, x.w.frozen? ⟨b, 2, none⟩ = false) ∧ (∀ x : Later W, x.w.frozen? ⟨b, 3, none⟩ = false) ∧ (∀ x : Later W, x.w.frozen? ⟨b, 4, none⟩ = false) :=
 ⟨fun x => (h x).thaw 0, fun x => (h x).thaw 1, fun x => (h x).thaw 2, fun x => (h x).thaw 3, fun x => (h x).thaw 4⟩
theorem Blk.cells5 {w : World} {b : Nat} {v0 v1 v2 v3 v4 : Value} {t : TypeId} (h : Blk w b #[v0, v1, v2, v3, v4] t) : w.cell? ⟨b, 0, none⟩ = some v0 ∧ w.cell? ⟨b, 1, none⟩ = some v1 ∧ w.cell? ⟨b, 2, none⟩ = some v2 ∧ w.cell? ⟨b, 3, none⟩ = some v3 ∧ w.cell? ⟨b, 4, none⟩ = some v4 :=
 ⟨h.cell 0 rfl, h.cell 1 rfl, h.cell 2 rfl, h.cell 3 rfl, h.cell 4 rfl⟩
theorem ret5 {P : Program} {fn : Func} {R : Ending → World → Prop} {a : Act} {V w : World} {b : Nat} {v0 v1 v2 v3 v4 u0 u1 u2 u3 u4 v : Value} {t : TypeId} (h : Blk w b #[u0, u1, u2, u3, u4] t) (hb : Below V.heap.size V w) (hl : V.heap.size ≤ b) (hd : a.defers = []) (H : ∀ W, W.cell? ⟨b, 0, none⟩ = some v0 → W.cell? ⟨b, 1, none⟩ = some v1 → W.cell? ⟨b, 2, none⟩ = some v2 → W.cell? ⟨b, 3, none⟩ = some v3 → W.cell? ⟨b, 4, none⟩ = some v4 → Below V.heap.size V W → (results fn a.tmps).run P W = .ok v W ∧ R (.returned v) W) : bodyPost P fn R .ret a (((((w.setCell ⟨b, 0, none⟩ v0).setCell ⟨b, 1, none⟩ v1).setCell ⟨b, 2, none⟩ v2).setCell ⟨b, 3, none⟩ v3).setCell ⟨b, 4, none⟩ v4) := by
 have a0 : Blk (w.setCell ⟨b, 0, none⟩ v0) b #[v0, u1, u2, u3, u4] t := h.set 0 v0
 have a1 : Blk ((w.setCell ⟨b, 0, none⟩ v0).setCell ⟨b, 1, none⟩ v1) b #[v0, v1, u2, u3, u4] t := a0.set 1 v1
 have a2 : Blk (((w.setCell ⟨b, 0, none⟩ v0).setCell ⟨b, 1, none⟩ v1).setCell ⟨b, 2, none⟩ v2) b #[v0, v1, v2, u3, u4] t := a1.set 2 v2
 have a3 : Blk ((((w.setCell ⟨b, 0, none⟩ v0).setCell ⟨b, 1, none⟩ v1).setCell ⟨b, 2, none⟩ v2).setCell ⟨b, 3, none⟩ v3) b #[v0, v1, v2, v3, u4] t := a2.set 3 v3
 have hz : Blk (((((w.setCell ⟨b, 0, none⟩ v0).setCell ⟨b, 1, none⟩ v1).setCell ⟨b, 2, none⟩ v2).setCell ⟨b, 3, none⟩ v3).setCell ⟨b, 4, none⟩ v4) b #[v0, v1, v2, v3, v4] t := a3.set 4 v4
 have q := H _ (hz.cell 0 rfl) (hz.cell 1 rfl) (hz.cell 2 rfl) (hz.cell 3 rfl) (hz.cell 4 rfl) (below_store (below_store (below_store (below_store (below_store hb _ hl) _ hl) _ hl) _ hl) _ hl)
 exact bodyPost_ret q.1 hd q.2
theorem cells6 {W : World} {b : Nat} {v0 v1 v2 v3 v4 v5 : Value} {t : TypeId} (h : ∀ x : Later W, Blk x.w b #[v0, v1, v2, v3, v4, v5] t) : (∀ x : Later W, x.w.cell? ⟨b, 0, none⟩ = some v0) ∧ (∀ x : Later W, x.w.cell? ⟨b, 1, none⟩ = some v1) ∧ (∀ x : Later W, x.w.cell? ⟨b, 2, none⟩ = some v2) ∧ (∀ x : Later W, x.w.cell? ⟨b, 3, none⟩ = some v3) ∧ (∀ x : Later W, x.w.cell? ⟨b, 4, none⟩ = some v4) ∧ (∀ x : Later W, x.w.cell? ⟨b, 5, none⟩ = some v5) :=
 ⟨fun x => (h x).cell 0 rfl, fun x => (h x).cell 1 rfl, fun x => (h x).cell 2 rfl, fun x => (h x).cell 3 rfl, fun x => (h x).cell 4 rfl, fun x => (h x).cell 5 rfl⟩
theorem Blk.cells6 {w : World} {b : Nat} {v0 v1 v2 v3 v4 v5 : Value} {t : TypeId} (h : Blk w b #[v0, v1, v2, v3, v4, v5] t) : w.cell? ⟨b, 0, none⟩ = some v0 ∧ w.cell? ⟨b, 1, none⟩ = some v1 ∧ w.cell? ⟨b, 2, none⟩ = some v2 ∧ w.cell? ⟨b, 3, none⟩ = some v3 ∧ w.cell? ⟨b, 4, none⟩ = some v4 ∧ w.cell? ⟨b, 5, none⟩ = some v5 :=
 ⟨h.cell 0 rfl, h.cell 1 rfl, h.cell 2 rfl, h.cell 3 rfl, h.cell 4 rfl, h.cell 5 rfl⟩
theorem cells7 {W : World} {b : Nat} {v0 v1 v2 v3 v4 v5 v6 : Value} {t : TypeId} (h : ∀ x : Later W, Blk x.w b #[v0, v1, v2, v3, v4, v5, v6] t) : (∀ x : Later W, x.w.cell? ⟨b, 0, none⟩ = some v0) ∧ (∀ x : Later W, x.w.cell? ⟨b, 1, none⟩ = some v1) ∧ (∀ x : Later W, x.w.cell? ⟨b, 2, none⟩ = some v2) ∧ (∀ x : Later W, x.w.cell? ⟨b, 3, none⟩ = some v3) ∧ (∀ x : Later W, x.w.cell? ⟨b, 4, none⟩ = some v4) ∧ (∀ x : Later W, x.w.cell? ⟨b, 5, none⟩ = some v5) ∧ (∀ x : Later W, x.w.cell? ⟨b, 6, none⟩ = some v6) :=
 ⟨fun x => (h x).cell 0 rfl, fun x => (h x).cell 1 rfl, fun x => (h x).cell 2 rfl, fun x => (h x).cell 3 rfl, fun x => (h x).cell 4 rfl, fun x => (h x).cell 5 rfl, fun x => (h x).cell 6 rfl⟩
theorem Blk.cells7 {w : World} {b : Nat} {v0 v1 v2 v3 v4 v5 v6 : Value} {t : TypeId} (h : Blk w b #[v0, v1, v2, v3, v4, v5, v6] t) : w.cell? ⟨b, 0, none⟩ = some v0 ∧ w.cell? ⟨b, 1, none⟩ = some v1 ∧ w.cell? ⟨b, 2, none⟩ = some v2 ∧ w.cell? ⟨b, 3, none⟩ = some v3 ∧ w.cell? ⟨b, 4, none⟩ = some v4 ∧ w.cell? ⟨b, 5, none⟩ = some v5 ∧ w.cell? ⟨b, 6, none⟩ = some v6 :=
 ⟨h.cell 0 rfl, h.cell 1 rfl, h.cell 2 rfl, h.cell 3 rfl, h.cell 4 rfl, h.cell 5 rfl, h.cell 6 rfl⟩
theorem cells9 {W : World} {b : Nat} {v0 v1 v2 v3 v4 v5 v6 v7 v8 : Value} {t : TypeId} (h : ∀ x : Later W, Blk x.w b #[v0, v1, v2, v3, v4, v5, v6, v7, v8] t) : (∀ x : Later W, x.w.cell? ⟨b, 0, none⟩ = some v0) ∧ (∀ x : Later W, x.w.cell? ⟨b, 1, none⟩ = some v1) ∧ (∀ x : Later W, x.w.cell? ⟨b, 2, none⟩ = some v2) ∧ (∀ x : Later W, x.w.cell? ⟨b, 3, none⟩ = some v3) ∧ (∀ x : Later W, x.w.cell? ⟨b, 4, none⟩ = some v4) ∧ (∀ x : Later W, x.w.cell? ⟨b, 5, none⟩ = some v5) ∧ (∀ x : Later W, x.w.cell? ⟨b, 6, none⟩ = some v6) ∧ (∀ x : Later W, x.w.cell? ⟨b, 7, none⟩ = some v7) ∧ (∀ x : Later W, x.w.cell? ⟨b, 8, none⟩ = some v8) :=
 ⟨fun x => (h x).cell 0 rfl, fun x => (h x).cell 1 rfl, fun x => (h x).cell 2 rfl, fun x => (h x).cell 3 rfl, fun x => (h x).cell 4 rfl, fun x => (h x).cell 5 rfl, fun x => (h x).cell 6 rfl, fun x => (h x).cell 7 rfl, fun x => (h x).cell 8 rfl⟩
theorem thaws9 {W : World} {b : Nat} {vs : Array Value} {t : TypeId} (h : ∀ x : Later W, Blk x.w b vs t) : (∀ x : Later W, x.w.frozen? ⟨b, 0, none⟩ = false) ∧ (∀ x : Later W, x.w.frozen? ⟨b, 1, none⟩ = false) ∧ (∀ x : Later W, x.w.frozen? ⟨b, 2, none⟩ = false) ∧ (∀ x : Later W, x.w.frozen? ⟨b, 3, none⟩ = false) ∧ (∀ x : Later W, x.w.frozen? ⟨b, 4, none⟩ = false) ∧ (∀ x : Later W, x.w.frozen? ⟨b, 5, none⟩ = false) ∧ (∀ x : Later W, x.w.frozen? ⟨b, 6, none⟩ = false) ∧ (∀ x : Later W, x.w.frozen? ⟨b, 7, none⟩ = false) ∧ (∀ x : Later W, x.w.frozen? ⟨b, 8, none⟩ = false) :=
 ⟨fun x => (h x).thaw 0, fun x => (h x).thaw 1, fun x => (h x).thaw 2, fun x => (h x).thaw 3, fun x => (h x).thaw 4, fun x => (h x).thaw 5, fun x => (h x).thaw 6, fun x => (h x).thaw 7, fun x => (h x).thaw 8⟩
theorem Blk.cells9 {w : World} {b : Nat} {v0 v1 v2 v3 v4 v5 v6 v7 v8 : Value} {t : TypeId} (h : Blk w b #[v0, v1, v2, v3, v4, v5, v6, v7, v8] t) : w.cell? ⟨b, 0, none⟩ = some v0 ∧ w.cell? ⟨b, 1, none⟩ = some v1 ∧ w.cell? ⟨b, 2, none⟩ = some v2 ∧ w.cell? ⟨b, 3, none⟩ = some v3 ∧ w.cell? ⟨b, 4, none⟩ = some v4 ∧ w.cell? ⟨b, 5, none⟩ = some v5 ∧ w.cell? ⟨b, 6, none⟩ = some v6 ∧ w.cell? ⟨b, 7, none⟩ = some v7 ∧ w.cell? ⟨b, 8, none⟩ = some v8 :=
 ⟨h.cell 0 rfl, h.cell 1 rfl, h.cell 2 rfl, h.cell 3 rfl, h.cell 4 rfl, h.cell 5 rfl, h.cell 6 rfl, h.cell 7 rfl, h.cell 8 rfl⟩
theorem ret9 {P : Program} {fn : Func} {R : Ending → World → Prop} {a : Act} {V w : World} {b : Nat} {v0 v1 v2 v3 v4 v5 v6 v7 v8 u0 u1 u2 u3 u4 u5 u6 u7 u8 v : Value} {t : TypeId} (h : Blk w b #[u0, u1, u2, u3, u4, u5, u6, u7, u8] t) (hb : Below V.heap.size V w) (hl : V.heap.size ≤ b) (hd : a.defers = []) (H : ∀ W, W.cell? ⟨b, 0, none⟩ = some v0 → W.cell? ⟨b, 1, none⟩ = some v1 → W.cell? ⟨b, 2, none⟩ = some v2 → W.cell? ⟨b, 3, none⟩ = some v3 → W.cell? ⟨b, 4, none⟩ = some v4 → W.cell? ⟨b, 5, none⟩ = some v5 → W.cell? ⟨b, 6, none⟩ = some v6 → W.cell? ⟨b, 7, none⟩ = some v7 → W.cell? ⟨b, 8, none⟩ = some v8 → Below V.heap.size V W → (results fn a.tmps).run P W = .ok v W ∧ R (.returned v) W) : bodyPost P fn R .ret a (((((((((w.setCell ⟨b, 0, none⟩ v0).setCell ⟨b, 1, none⟩ v1).setCell ⟨b, 2, none⟩ v2).setCell ⟨b, 3, none⟩ v3).setCell ⟨b, 4, none⟩ v4).setCell ⟨b, 5, none⟩ v5).setCell ⟨b, 6, none⟩ v6).setCell ⟨b, 7, none⟩ v7).setCell ⟨b, 8, none⟩ v8) := by
 have a0 : Blk (w.setCell ⟨b, 0, none⟩ v0) b #[v0, u1, u2, u3, u4, u5, u6, u7, u8] t := h.set 0 v0
 have a1 : Blk ((w.setCell ⟨b, 0, none⟩ v0).setCell ⟨b, 1, none⟩ v1) b #[v0, v1, u2, u3, u4, u5, u6, u7, u8] t := a0.set 1 v1
 have a2 : Blk (((w.setCell ⟨b, 0, none⟩ v0).setCell ⟨b, 1, none⟩ v1).setCell ⟨b, 2, none⟩ v2) b #[v0, v1, v2, u3, u4, u5, u6, u7, u8] t := a1.set 2 v2
 have a3 : Blk ((((w.setCell ⟨b, 0, none⟩ v0).setCell ⟨b, 1, none⟩ v1).setCell ⟨b, 2, none⟩ v2).setCell ⟨b, 3, none⟩ v3) b #[v0, v1, v2, v3, u4, u5, u6, u7, u8] t := a2.set 3 v3
 have a4 : Blk (((((w.setCell ⟨b, 0, none⟩ v0).setCell ⟨b, 1, none⟩ v1).setCell ⟨b, 2, none⟩ v2).setCell ⟨b, 3, none⟩ v3).setCell ⟨b, 4, none⟩ v4) b #[v0, v1, v2, v3, v4, u5, u6, u7, u8] t := a3.set 4 v4
 have a5 : Blk ((((((w.setCell ⟨b, 0, none⟩ v0).setCell ⟨b, 1, none⟩ v1).setCell ⟨b, 2, none⟩ v2).setCell ⟨b, 3, none⟩ v3).setCell ⟨b, 4, none⟩ v4).setCell ⟨b, 5, none⟩ v5) b #[v0, v1, v2, v3, v4, v5, u6, u7, u8] t := a4.set 5 v5
 have a6 : Blk (((((((w.setCell ⟨b, 0, none⟩ v0).setCell ⟨b, 1, none⟩ v1).setCell ⟨b, 2, none⟩ v2).setCell ⟨b, 3, none⟩ v3).setCell ⟨b, 4, none⟩ v4).setCell ⟨b, 5, none⟩ v5).setCell ⟨b, 6, none⟩ v6) b #[v0, v1, v2, v3, v4, v5, v6, u7, u8] t := a5.set 6 v6
 have a7 : Blk ((((((((w.setCell ⟨b, 0, none⟩ v0).setCell ⟨b, 1, none⟩ v1).setCell ⟨b, 2, none⟩ v2).setCell ⟨b, 3, none⟩ v3).setCell ⟨b, 4, none⟩ v4).setCell ⟨b, 5, none⟩ v5).setCell ⟨b, 6, none⟩ v6).setCell ⟨b, 7, none⟩ v7) b #[v0, v1, v2, v3, v4, v5, v6, v7, u8] t := a6.set 7 v7
 have hz : Blk (((((((((w.setCell ⟨b, 0, none⟩ v0).setCell ⟨b, 1, none⟩ v1).setCell ⟨b, 2, none⟩ v2).setCell ⟨b, 3, none⟩ v3).setCell ⟨b, 4, none⟩ v4).setCell ⟨b, 5, none⟩ v5).setCell ⟨b, 6, none⟩ v6).setCell ⟨b, 7, none⟩ v7).setCell ⟨b, 8, none⟩ v8) b #[v0, v1, v2, v3, v4, v5, v6, v7, v8] t := a7.set 8 v8
 have q := H _ (hz.cell 0 rfl) (hz.cell 1 rfl) (hz.cell 2 rfl) (hz.cell 3 rfl) (hz.cell 4 rfl) (hz.cell 5 rfl) (hz.cell 6 rfl) (hz.cell 7 rfl) (hz.cell 8 rfl) (below_store (below_store (below_store (below_store (below_store (below_store (below_store (below_store (below_store hb _ hl) _ hl) _ hl) _ hl) _ hl) _ hl) _ hl) _ hl) _ hl)
 exact bodyPost_ret q.1 hd q.2
theorem cells12 {W : World} {b : Nat} {v0 v1 v2 v3 v4 v5 v6 v7 v8 v9 v10 v11 : Value} {t : TypeId} (h : ∀ x : Later W, Blk x.w b #[v0, v1, v2, v3, v4, v5, v6, v7, v8, v9, v10, v11] t) : (∀ x : Later W, x.w.cell? ⟨b, 0, none⟩ = some v0) ∧ (∀ x : Later W, x.w.cell? ⟨b, 1, none⟩ = some v1) ∧ (∀ x : Later W, x.w.cell? ⟨b, 2, none⟩ = some v2) ∧ (∀ x : Later W, x.w.cell? ⟨b, 3, none⟩ = some v3) ∧ (∀ x : Later W, x.w.cell? ⟨b, 4, none⟩ = some v4) ∧ (∀ x : Later W, x.w.cell? ⟨b, 5, none⟩ = some v5) ∧ (∀ x : Later W, x.w.cell? ⟨b, 6, none⟩ = some v6) ∧ (∀ x : Later W, x.w.cell? ⟨b, 7, none⟩ = some v7) ∧ (∀ x : Later W, x.w.cell? ⟨b, 8, none⟩ = some v8) ∧ (∀ x : Later W, x.w.cell? ⟨b, 9, none⟩ = some v9) ∧ (∀ x : Later W, x.w.cell? ⟨b, 10, none⟩ = some v10) ∧ (∀ x : Later W, x.w.cell? ⟨b, 11, none⟩ = some v11) :=
 ⟨fun x => (h x).cell 0 rfl, fun x => (h x).cell 1 rfl, fun x => (h x).cell 2 rfl, fun x => (h x).cell 3 rfl, fun x => (h x).cell 4 rfl, fun x => (h x).cell 5 rfl, fun x => (h x).cell 6 rfl, fun x => (h x).cell 7 rfl, fun x => (h x).cell 8 rfl, fun x => (h x).cell 9 rfl, fun x => (h x).cell 10 rfl, fun x => (h x).cell 11 rfl⟩
theorem thaws12 {W : World} {b : Nat} {vs : Array Value} {t : TypeId} (h : ∀ x : Later W, Blk x.w b vs t) : (∀ x : Later W, x.w.frozen? ⟨b, 0, none⟩ = false) ∧ (∀ x : Later W, x.w.frozen? ⟨b, 1, none⟩ = false) ∧ (∀ x : Later W, x.w.frozen? ⟨b, 2, none⟩ = false) ∧ (∀ x : Later W, x.w.frozen? ⟨b, 3, none⟩ = false) ∧ (∀ x : Later W, x.w.frozen? ⟨b, 4, none⟩ = false) ∧ (∀ x : Later W, x.w.frozen? ⟨b, 5, none⟩ = false) ∧ (∀ x : Later W, x.w.frozen? ⟨b, 6, none⟩ = false) ∧ (∀ x : Later W, x.w.frozen? ⟨b, 7, none⟩ = false) ∧ (∀ x : Later W, x.w.frozen? ⟨b, 8, none⟩ = false) ∧ (∀ x : Later W, x.w.frozen? ⟨b, 9, none⟩ = false) ∧ (∀ x : Later W, x.w.frozen? ⟨b, 10, none⟩ = false) ∧ (∀ x : Later W, x.w.frozen? ⟨b, 11, none⟩ = false) :=
 ⟨fun x => (h x).thaw 0, fun x => (h x).thaw 1, fun x => (h x).thaw 2, fun x => (h x).thaw 3, fun x => (h x).thaw 4, fun x => (h x).thaw 5, fun x => (h x).thaw 6, fun x => (h x).thaw 7, fun x => (h x).thaw 8, fun x => (h x).thaw 9, fun x => (h x).thaw 10, fun x => (h x).thaw 11⟩
theorem Blk.cells12 {w : World} {b : Nat} {v0 v1 v2 v3 v4 v5 v6 v7 v8 v9 v10 v11 : Value} {t : TypeId} (h : Blk w b #[v0, v1, v2, v3, v4, v5, v6, v7, v8, v9, v10, v11] t) : w.cell? ⟨b, 0, none⟩ = some v0 ∧ w.cell? ⟨b, 1, none⟩ = some v1 ∧ w.cell? ⟨b, 2, none⟩ = some v2 ∧ w.cell? ⟨b, 3, none⟩ = some v3 ∧ w.cell? ⟨b, 4, none⟩ = some v4 ∧ w.cell? ⟨b, 5, none⟩ = some v5 ∧ w.cell? ⟨b, 6, none⟩ = some v6 ∧ w.cell? ⟨b, 7, none⟩ = some v7 ∧ w.cell? ⟨b, 8, none⟩ = some v8 ∧ w.cell? ⟨b, 9, none⟩ = some v9 ∧ w.cell? ⟨b, 10, none⟩ = some v10 ∧ w.cell? ⟨b, 11, none⟩ = some v11 :=
 ⟨h.cell 0 rfl, h.cell 1 rfl, h.cell 2 rfl, h.cell 3 rfl, h.cell 4 rfl, h.cell 5 rfl, h.cell 6 rfl, h.cell 7 rfl, h.cell 8 rfl, h.cell 9 rfl, h.cell 10 rfl, h.cell 11 rfl⟩
theorem ret12 {P : Program} {fn : Func} {R : Ending → World → Prop} {a : Act} {V w : World} {b : Nat} {v0 v1 v2 v3 v4 v5 v6 v7 v8 v9 v10 v11 u0 u1 u2 u3 u4 u5 u6 u7 u8 u9 u10 u11 v : Value} {t : TypeId} (h : Blk w b #[u0, u1, u2, u3, u4, u5, u6, u7, u8, u9, u10, u11] t) (hb : Below V.heap.size V w) (hl : V.heap.size ≤ b) (hd : a.defers = []) (H : ∀ W, W.cell? ⟨b, 0, none⟩ = some v0 → W.cell? ⟨b, 1, none⟩ = some v1 → W.cell? ⟨b, 2, none⟩ = some v2 → W.cell? ⟨b, 3, none⟩ = some v3 → W.cell? ⟨b, 4, none⟩ = some v4 → W.cell? ⟨b, 5, none⟩ = some v5 → W.cell? ⟨b, 6, none⟩ = some v6 → W.cell? ⟨b, 7, none⟩ = some v7 → W.cell? ⟨b, 8, none⟩ = some v8 → W.cell? ⟨b, 9, none⟩ = some v9 → W.cell? ⟨b, 10, none⟩ = some v10 → W.cell? ⟨b, 11, none⟩ = some v11 → Below V.heap.size V W → (results fn a.tmps).run P W = .ok v W ∧ R (.returned v) W) : bodyPost P fn R .ret a ((((((((((((w.setCell ⟨b, 0, none⟩ v0).setCell ⟨b, 1, none⟩ v1).setCell ⟨b, 2, none⟩ v2).setCell ⟨b, 3, none⟩ v3).setCell ⟨b, 4, none⟩ v4).setCell ⟨b, 5, none⟩ v5).setCell ⟨b, 6, none⟩ v6).setCell ⟨b, 7, none⟩ v7).setCell ⟨b, 8, none⟩ v8).setCell ⟨b, 9, none⟩ v9).setCell ⟨b, 10, none⟩ v10).setCell ⟨b, 11, none⟩ v11) := by
 have a0 : Blk (w.setCell ⟨b, 0, none⟩ v0) b #[v0, u1, u2, u3, u4, u5, u6, u7, u8, u9, u10, u11] t := h.set 0 v0
 have a1 : Blk ((w.setCell ⟨b, 0, none⟩ v0).setCell ⟨b, 1, none⟩ v1) b #[v0, v1, u2, u3, u4, u5, u6, u7, u8, u9, u10, u11] t := a0.set 1 v1
 have a2 : Blk (((w.setCell ⟨b, 0, none⟩ v0).setCell ⟨b, 1, none⟩ v1).setCell ⟨b, 2, none⟩ v2) b #[v0, v1, v2, u3, u4, u5, u6, u7, u8, u9, u10, u11] t := a1.set 2 v2
 have a3 : Blk ((((w.setCell ⟨b, 0, none⟩ v0).setCell ⟨b, 1, none⟩ v1).setCell ⟨b, 2, none⟩ v2).setCell ⟨b, 3, none⟩ v3) b #[v0, v1, v2, v3, u4, u5, u6, u7, u8, u9, u10, u11] t := a2.set 3 v3
 have a4 : Blk (((((w.setCell ⟨b, 0, none⟩ v0).setCell ⟨b, 1, none⟩ v1).setCell ⟨b, 2, none⟩ v2).setCell ⟨b, 3, none⟩ v3).setCell ⟨b, 4, none⟩ v4) b #[v0, v1, v2, v3, v4, u5, u6, u7, u8, u9, u10, u11] t := a3.set 4 v4
 have a5 : Blk ((((((w.setCell ⟨b, 0, none⟩ v0).setCell ⟨b, 1, none⟩ v1).setCell ⟨b, 2, none⟩ v2).setCell ⟨b, 3, none⟩ v3).setCell ⟨b, 4, none⟩ v4).setCell ⟨b, 5, none⟩ v5) b #[v0, v1, v2, v3, v4, v5, u6, u7, u8, u9, u10, u11] t := a4.set 5 v5
 have a6 : Blk (((((((w.setCell ⟨b, 0, none⟩ v0).setCell ⟨b, 1, none⟩ v1).setCell ⟨b, 2, none⟩ v2).setCell ⟨b, 3, none⟩ v3).setCell ⟨b, 4, none⟩ v4).setCell ⟨b, 5, none⟩ v5).setCell ⟨b, 6, none⟩ v6) b #[v0, v1, v2, v3, v4, v5, v6, u7, u8, u9, u10, u11] t := a5.set 6 v6
 have a7 : Blk ((((((((w.setCell ⟨b, 0, none⟩ v0).setCell ⟨b, 1, none⟩ v1).setCell ⟨b, 2, none⟩ v2).setCell ⟨b, 3, none⟩ v3).setCell ⟨b, 4, none⟩ v4).setCell ⟨b, 5, none⟩ v5).setCell ⟨b, 6, none⟩ v6).setCell ⟨b, 7, none⟩ v7) b #[v0, v1, v2, v3, v4, v5, v6, v7, u8, u9, u10, u11] t := a6.set 7 v7
 have a8 : Blk (((((((((w.setCell ⟨b, 0, none⟩ v0).setCell ⟨b, 1, none⟩ v1).setCell ⟨b, 2, none⟩ v2).setCell ⟨b, 3, none⟩ v3).setCell ⟨b, 4, none⟩ v4).setCell ⟨b, 5, none⟩ v5).setCell ⟨b, 6, none⟩ v6).setCell ⟨b, 7, none⟩ v7).setCell ⟨b, 8, none⟩ v8) b #[v0, v1, v2, v3, v4, v5, v6, v7, v8, u9, u10, u11] t := a7.set 8 v8
 have a9 : Blk ((((((((((w.setCell ⟨b, 0, none⟩ v0).setCell ⟨b, 1, none⟩ v1).setCell ⟨b, 2, none⟩ v2).setCell ⟨b, 3, none⟩ v3).setCell ⟨b, 4, none⟩ v4).setCell ⟨b, 5, none⟩ v5).setCell ⟨b, 6, none⟩ v6).setCell ⟨b, 7, none⟩ v7).setCell ⟨b, 8, none⟩ v8).setCell ⟨b, 9, none⟩ v9) b #[v0, v1, v2, v3, v4, v5, v6, v7, v8, v9, u10, u11] t := a8.set 9 v9
 have a10 : Blk (((((((((((w.setCell ⟨b, 0, none⟩ v0).setCell ⟨b, 1, none⟩ v1).setCell ⟨b, 2, none⟩ v2).setCell ⟨b, 3, none⟩ v3).setCell ⟨b, 4, none⟩ v4).setCell ⟨b, 5, none⟩ v5).setCell ⟨b, 6, none⟩ v6).setCell ⟨b, 7, none⟩ v7).setCell ⟨b, 8, none⟩ v8).setCell ⟨b, 9, none⟩ v9).setCell ⟨b, 10, none⟩ v10) b #[v0, v1, v2, v3, v4, v5, v6, v7, v8, v9, v10, u11] t := a9.set 10 v10
 have hz : Blk ((((((((((((w.setCell ⟨b, 0, none⟩ v0).setCell ⟨b, 1, none⟩ v1).setCell ⟨b, 2, none⟩ v2).setCell ⟨b, 3, none⟩ v3).setCell ⟨b, 4, none⟩ v4).setCell ⟨b, 5, none⟩ v5).setCell ⟨b, 6, none⟩ v6).setCell ⟨b, 7, none⟩ v7).setCell ⟨b, 8, none⟩ v8).setCell ⟨b, 9, none⟩ v9).setCell ⟨b, 10, none⟩ v10).setCell ⟨b, 11, none⟩ v11) b #[v0, v1, v2, v3, v4, v5, v6, v7, v8, v9, v10, v11] t := a10.set 11 v11
 have q := H _ (hz.cell 0 rfl) (hz.cell 1 rfl) (hz.cell 2 rfl) (hz.cell 3 rfl) (hz.cell 4 rfl) (hz.cell 5 rfl) (hz.cell 6 rfl) (hz.cell 7 rfl) (hz.cell 8 rfl) (hz.cell 9 rfl) (hz.cell 10 rfl) (hz.cell 11 rfl) (below_store (below_store (below_store (below_store (below_store (below_store (below_store (below_store (below_store (below_store (below_store (below_store hb _ hl) _ hl) _ hl) _ hl) _ hl) _ hl) _ hl) _ hl) _ hl) _ hl) _ hl) _ hl)
 exact bodyPost_ret q.1 hd q.2
section
variable {P : Program} {ops : Array Oper} {md : Region.Mode} {C : World → Prop}
theorem wpQuiet_mono {Q1 Q2 : Act → Prop} (hQ : ∀ a, Q1 a → Q2 a) : ∀ (l : List Oper) (a : Act), wpQuiet P ops C Q1 l a → wpQuiet P ops C Q2 l a
  | [], a, h => hQ a h
  | o :: l, a, h => by
   unfold wpQuiet at h ⊢
   split
   · rename_i hw
     rw [if_pos hw] at h
     exact Oper.quiet_mono (fun a' => wpQuiet_mono hQ l a') h
   · rename_i hw
     rw [if_neg hw] at h
     exact wpQuiet_mono hQ l _ h
def wpMix (P : Program) (md : Region.Mode) (ops : Array Oper) (C : World → Prop) (N : Nat) (R : Array Bool → Act → Prop) : Nat → Array Bool → Act → Prop
  | 0, listed, a => R listed a
  | m + 1, listed, a => Region.ready md ops listed ≠ [] ∧ ∀ i ∈ Region.ready md ops listed, i < N ∧ qOp P ops C i (wpMix P md ops C N R m (listed.setIfInBounds i true)) a
def lexP (md : Region.Mode) (ops : Array Oper) : Nat → Nat → Array Bool → Bool
  | 0, _, _ => true
  | n + 1, k, listed => (Region.ready md ops listed).contains k && Region.free md ops listed k && lexP md ops n (k + 1) (listed.setIfInBounds k true)
def setN : Nat → Nat → Array Bool → Array Bool
  | 0, _, l => l
  | n + 1, k, l => setN n (k + 1) (l.setIfInBounds k true)
def linkB (md : Region.Mode) (ops : Array Oper) (N : Nat) : Bool := (List.range (N - 1)).all fun i => (List.range N).any fun k => decide (i < k) && ((ops[k]?).map fun o => o.after.any fun e => Region.binds md e && e.on == i).getD false
def waitB (md : Region.Mode) (ops : Array Oper) (N : Nat) : Bool := (List.range ops.size).all fun j => decide (j < N) || ((ops[j]?).map fun o => o.after.any fun e => Region.binds md e && (e.on == N - 1 || (decide (N ≤ e.on) && decide (e.on < ops.size)))).getD false
def Closed (md : Region.Mode) (ops : Array Oper) (listed : Array Bool) : Prop := ∀ j o, ops[j]? = some o → listed.getD j false = true → ∀ e ∈ o.after, Region.binds md e = true → listed.getD e.on false = true
def Above (ops : Array Oper) (N : Nat) (listed : Array Bool) : Prop := ∀ j, N ≤ j → j < ops.size → listed.getD j true = false
theorem yes_no {listed : Array Bool} {i : Nat} (h : listed.getD i false = true) (h' : listed.getD i true = false) : False := by
 rcases Nat.lt_or_ge i listed.size with k | k
 · simp [k] at h h'
   rw [h] at h'
   cases h'
 · simp [Array.getElem?_eq_none k] at h
theorem closed_set {listed : Array Bool} (h : Closed md ops listed) {j : Nat} (hj : j ∈ Region.ready md ops listed) : Closed md ops (listed.setIfInBounds j true) := fun k o ho hk e he hb => by
 by_cases hkj : j = k
 · subst hkj
   obtain ⟨_, o', ho', hall⟩ := mem_ready.1 hj
   obtain rfl := Option.some.inj (ho.symm.trans ho')
   exact getD_set_true (hall e he hb)
 · rw [getD_set_ne false hkj] at hk
   exact getD_set_true (h k o ho hk e he hb)
theorem above_set {listed : Array Bool} {N : Nat} (h : Above ops N listed) {j : Nat} (hj : j < N) : Above ops N (listed.setIfInBounds j true) := fun k hk hs => by
 rw [getD_set_ne true (by omega)]
 exact h k hk hs
theorem all_below {listed : Array Bool} {N : Nat} (hc : Closed md ops listed) (hl : linkB md ops N = true) (hN : listed.getD (N - 1) false = true) : ∀ (d i : Nat), i + d = N - 1 → i < N → listed.getD i false = true := by
 intro d
 induction d using Nat.strongRecOn with
 | ind d ih =>
  intro i hid hi
  by_cases hd : d = 0
  · rw [show i = N - 1 by omega]
    exact hN
  · have h1 := List.all_eq_true.1 hl i (List.mem_range.2 (by omega))
    obtain ⟨k, hk, h2⟩ := List.any_eq_true.1 h1
    have hkN := List.mem_range.1 hk
    simp only [Bool.and_eq_true, decide_eq_true_eq] at h2
    obtain ⟨hik, h3⟩ := h2
    cases ho : ops[k]? with
    | none => simp [ho] at h3
    | some o =>
     simp only [ho, Option.map_some, Option.getD_some] at h3
     obtain ⟨x, hx, hxe⟩ := Array.any_eq_true'.1 h3
     simp only [Bool.and_eq_true, beq_iff_eq] at hxe
     have hkl := ih (N - 1 - k) (by omega) k (by omega) hkN
     have := hc k o ho hkl x hx hxe.1
     rw [hxe.2] at this
     exact this
theorem wait_for {listed : Array Bool} {N : Nat} (hc : Closed md ops listed) (ha : Above ops N listed) (hl : linkB md ops N = true) (hw : waitB md ops N = true) {i j : Nat} (hi : i < N) (hun : listed.getD i true = false) (hj : j ∈ Region.ready md ops listed) : j < N := by
 rcases Nat.lt_or_ge j N with h | h
 · exact h
 · exfalso
   obtain ⟨_, o, ho, hall⟩ := mem_ready.1 hj
   have hsz : j < ops.size := (Array.getElem?_eq_some_iff.1 ho).1
   have h1 := List.all_eq_true.1 hw j (List.mem_range.2 hsz)
   simp only [ho, Option.map_some, Option.getD_some, Bool.or_eq_true, decide_eq_true_eq] at h1
   rcases h1 with h1 | h1
   · omega
   · obtain ⟨x, hx, hxe⟩ := Array.any_eq_true'.1 h1
     simp only [Bool.and_eq_true, Bool.or_eq_true, beq_iff_eq, decide_eq_true_eq] at hxe
     have hlx := hall x hx hxe.1
     rcases hxe.2 with e | ⟨e1, e2⟩
     · rw [e] at hlx
       exact yes_no (all_below hc hl hlx (N - 1 - i) i (by omega) hi) hun
     · exact yes_no hlx (ha x.on e1 e2)
theorem wpAny_of_mix {N : Nat} {R : Array Bool → Act → Prop} {Q' : Exit → Act → World → Prop} {f : Nat} (hR : ∀ listed a w, C w → R listed a → wpAny P md ops Q' f listed a w) :
    ∀ (m : Nat) (listed : Array Bool) (a : Act) (w : World), C w → wpMix P md ops C N R m listed a → wpAny P md ops Q' (f + m) listed a w
  | 0, _, _, _, hw, h => hR _ _ _ hw h
  | m + 1, _, _, _, hw, h => ⟨fun h0 => absurd h0 h.1, fun i hi => wpOp_of_qOp hw (fun a' w' hw' k => wpAny_of_mix hR m _ a' w' hw' k) (h.2 i hi).2⟩
theorem mix_first {N : Nat} {R : Array Bool → Act → Prop} (hRl : ∀ listed a, R listed a → ∀ j, j < N → listed.getD j false = true) (hl : linkB md ops N = true) (hwt : waitB md ops N = true) {i : Nat} {oi : Oper} {v : Value} (hi : ops[i]? = some oi) (hN : i < N) (hsel : ∀ (j : Nat) (o : Oper) cs b, ops[j]? = some o → o.op ≠ .select cs b) :
    ∀ (m : Nat) (listed : Array Bool) (a : Act), Closed md ops listed → Above ops N listed →
      (∀ j oj, ops[j]? = some oj → j ≠ i → listed.getD j true = false → (∀ e ∈ oj.after, Region.binds md e = true → e.on ≠ i) → oi.apart ops oj = true) →
      i ∈ Region.ready md ops listed → YieldsIn P ops C oi v a →
      wpMix P md ops C N R m (listed.setIfInBounds i true) (a.put oi.dst v) → wpMix P md ops C N R (m + 1) listed a := by
  intro m
  induction m with
  | zero =>
   intro listed a hc ha _ hr hy H
   refine ⟨fun h => (by rw [h] at hr; cases hr), fun j hj => ?_⟩
   have hjN := wait_for hc ha hl hwt hN (mem_ready.1 hr).1 hj
   by_cases hji : j = i
   · subst hji
     exact ⟨hjN, hy.qOp hi H⟩
   · have h1 := hRl _ _ H j hjN
     rw [getD_set_ne false (Ne.symm hji)] at h1
     exact absurd (mem_ready.1 hj).1 (fun h => yes_no h1 h)
  | succ m ih =>
   intro listed a hc ha hfree hr hy H
   refine ⟨fun h => (by rw [h] at hr; cases hr), fun j hj => ?_⟩
   by_cases hji : j = i
   · subst hji
     exact ⟨hN, hy.qOp hi H⟩
   · obtain ⟨hjN, h1⟩ := H.2 j (ready_mono hj hji)
     refine ⟨hjN, ?_⟩
     obtain ⟨hjun, oj, hoj, hall⟩ := mem_ready.1 hj
     have hnot : ∀ e ∈ oj.after, Region.binds md e = true → e.on ≠ i := fun e he hb heq => by
      have k1 := hall e he hb
      rw [heq] at k1
      exact yes_no k1 (mem_ready.1 hr).1
     have h2 := qOp_put hoj (hfree j oj hoj hji hjun hnot) (fun cs b => hsel i oi cs b hi) (fun cs b => hsel j oj cs b hoj) hy h1
     have hfree' : ∀ k ok, ops[k]? = some ok → k ≠ i → (listed.setIfInBounds j true).getD k true = false → (∀ e ∈ ok.after, Region.binds md e = true → e.on ≠ i) → oi.apart ops ok = true := fun k ok hk hki hun hno => by
      refine hfree k ok hk hki ?_ hno
      by_cases hjk : j = k
      · subst hjk
        exact hjun
      · rw [getD_set_ne true hjk] at hun
        exact hun
     refine qOp_mono (fun a' h3 => ih (listed.setIfInBounds j true) a' (closed_set hc hj) (above_set ha hjN) hfree' (ready_mono hr (Ne.symm hji)) h3.1 ?_) h2
     rw [Array.setIfInBounds_comm _ _ hji]
     exact h3.2
theorem mix_lex {N : Nat} {R : Array Bool → Act → Prop} (hRl : ∀ listed a, R listed a → ∀ j, j < N → listed.getD j false = true) (hl : linkB md ops N = true) (hwt : waitB md ops N = true) (hs : Region.noSelect ops = true) : ∀ (l : List Oper) (k : Nat) (listed : Array Bool) (a : Act), k + l.length ≤ N → (∀ j, j < l.length → l[j]? = ops[k + j]?) →
    lexP md ops l.length k listed = true → Closed md ops listed → Above ops N listed → wpQuiet P ops C (fun a' => R (setN l.length k listed) a') l a → wpMix P md ops C N R l.length listed a
  | [], _, _, _, _, _, _, _, _, h => h
  | o :: l, k, listed, a, hk, hll, hB, hc, ha, h => by
   have h0 : ops[k]? = some o := by simpa using (hll 0 (by simp)).symm
   simp only [List.length_cons] at hk
   simp only [List.length_cons, lexP, Bool.and_eq_true] at hB
   obtain ⟨⟨hr, hf⟩, hB'⟩ := hB
   have hr' : k ∈ Region.ready md ops listed := by simpa using hr
   have hst : qOp P ops C k (wpQuiet P ops C (fun a' => R (setN (o :: l).length k listed) a') l) a := by unfold qOp; simp only [h0]; exact h
   obtain ⟨v, hy, hK⟩ := yieldsIn_of_qOp h0 hst
   exact mix_first hRl hl hwt h0 (by omega) (Region.noSelect_spec hs) l.length listed a hc ha (Region.free_spec h0 hf) hr' hy
     (mix_lex hRl hl hwt hs l (k + 1) _ _ (by omega) (fun j hj => by have := hll (j + 1) (by simpa using hj); simpa [Nat.add_assoc, Nat.add_comm 1 j] using this) hB' (closed_set hc hr') (above_set ha (by omega)) hK)
end
theorem any_prefix {P : Program} {C : World → Prop} {Q : Exit → Act → World → Prop} {big : List Oper} (n f : Nat) {a : Act} {w : World} (hn : n ≤ big.length) (hs : Region.noSelect big.toArray = true) (hB : lexP .any big.toArray n 0 (Array.replicate big.length false) = true) (hl : linkB .any big.toArray n = true) (hwt : waitB .any big.toArray n = true)
    (hA : ((List.range n).all fun j => (setN n 0 (Array.replicate big.length false)).getD j false) = true) (hw : C w)
    (h : wpQuiet P big.toArray C (fun a' => ∀ w', C w' → wpAny P .any big.toArray Q f (setN n 0 (Array.replicate big.length false)) a' w') (big.take n) a) : wpAny P .any big.toArray Q (f + n) (Array.replicate big.length false) a w := by
  have hlen : (big.take n).length = n := by rw [List.length_take]; omega
  have hAll : ∀ j, j < n → (setN n 0 (Array.replicate big.length false)).getD j false = true := fun j hj => List.all_eq_true.1 hA j (List.mem_range.2 hj)
  have hm := mix_lex (P := P) (md := .any) (ops := big.toArray) (C := C) (N := n) (R := fun listed a => (∀ j, j < n → listed.getD j false = true) ∧ ∀ w', C w' → wpAny P .any big.toArray Q f listed a w') (fun _ _ h => h.1) hl hwt hs (big.take n) 0 (Array.replicate big.length false) a (by omega)
    (fun j hj => by rw [hlen] at hj; simp [hj]) (by rw [hlen]; exact hB)
    (fun j o _ hj => by
     exfalso
     by_cases hjl : j < big.length
     · simp [hjl] at hj
     · simp [Array.getElem?_eq_none (show (Array.replicate big.length false).size ≤ j by simp; omega)] at hj)
    (fun j _ hj => by
     have hj' : j < big.length := by simpa using hj
     simp [hj'])
    (by rw [hlen]; exact wpQuiet_mono (fun a' h => ⟨hAll, h⟩) _ _ h)
  rw [hlen] at hm
  exact wpAny_of_mix (N := n) (R := fun listed a => (∀ j, j < n → listed.getD j false = true) ∧ ∀ w', C w' → wpAny P .any big.toArray Q f listed a w') (fun _ _ w h1 h2 => h2.2 w h1) n _ a w hw hm
section
variable {P : Program} {ops : Array Oper} {Q : Exit → Act → World → Prop} {md : Region.Mode}
theorem op_call {i : Nat} {o : Oper} {g : FuncId} {xs : Array Operand} {ats : Array TypeId} {d : Tmp} {args : Array Value} {T : Value → World → Prop} {K : Act → World → Prop} {a : Act} {w : World} (hi : ops[i]? = some o) (ho : o.op = .call { callee := .value (.func g), args := xs, argTypes := ats }) (hd : o.dst = some d) (hw : Region.wanted o (yielded ops a.tmps) = true)
    (ha : xs.map a.eval = args) (he : ∀ args w, (callFunc g args).run P w = .ok (.enter g args) w) (hc : Calls P g args w fun e w' => ∃ u, e = .returned u ∧ T u w') (h : ∀ u w', T u w' → K (a.put (some d) u) w') : wpOp P ops Q i K a w := by
  unfold wpOp
  simp only [hi, hw, if_true]
  left
  unfold Oper.wp
  have hx : execOp a.eval o = callFunc g args := by
   rw [← ha]
   simp [execOp, ho, resolve, invoke, Act.eval, Deferred.ofValue]
  rw [hx, he]
  refine hc.mono ?_
  rintro e w' ⟨u, rfl, hT⟩
  rw [hd]
  exact h u w' hT
end
def calT (c : Int) : TypeId := if c = 0 then 200 else 201
theorem implCal (c : Int) (h : c = 0 ∨ c = 1) (w : World) : CS 132 #[.int .i64 c] w (.iface (calT c) (.agg #[])) := by
 rcases h with rfl | rfl
 · exact implCal0 w
 · exact implCal1 w
abbrev Tab (w : World) : Prop := Lib.TabIs Tryz.prog w "loop.example/g00638/impl.monthLengths" .i64 tab12
theorem tabCell {w : World} (h : Tab w) (i : Nat) (hi : i < 12) : w.cell? ⟨5, i, none⟩ = some (.int .i64 (tab12.getD i 0)) :=
 h.cell (by kernel_rfl) i hi
theorem Tab.later {w w1 : World} (h : Tab w) (hb : Below w.heap.size w w1) : Tab w1 := kit.tab_below h hb (g := 5) (by kernel_rfl)
theorem implMonthDays (c y m : Int) (w : World) (hT : Tab w) : CR 194 #[.int .i64 c, .int .i64 y, .int .i64 m] w (.int .i64 (monthDays c y m)) := by
 by_cases hc : c = 0 ∨ c = 1
 · have KC := fun W => implCal c hc W
   by_cases h1 : m < 1
   · rw [monthDays_no (by omega)]
     clear hT hc
     go_enter Tryz.func194, Tryz.ntmps194
     go_wp2_with (go_at_call 132; refine (KC _).mono ?_; rintro e w1 ⟨rfl, rfl⟩)
     go_ret
     exact ⟨rfl, Below.refl _ _⟩
   by_cases h2 : 12 < m
   · rw [monthDays_no (by omega)]
     clear hT hc
     go_enter Tryz.func194, Tryz.ntmps194
     go_wp2_with (go_at_call 132; refine (KC _).mono ?_; rintro e w1 ⟨rfl, rfl⟩)
     go_ret
     exact ⟨rfl, Below.refl _ _⟩
   by_cases hm : m = 2
   · subst hm
     have hL : ∀ W, CR 253 #[.int .i64 c, .int .i64 y] W (.bool (leapB c y)) := implLeap c y
     have c1 : ∀ x : Later w, x.w.cell? ⟨5, 1, none⟩ = some (.int .i64 28) := Later.at (tabCell hT 1 (by omega))
     by_cases hl : leapP c y
     focus
       rw [leapB_true hl] at hL
       rw [monthDays_leap hc hl]
     rotate_left
     focus
       rw [leapB_false hl] at hL
       rw [monthDays_plain hc (by omega) (by omega) (fun h => hl h.2)]
     rotate_left
     all_goals
      clear hT hc hl
      go_enter Tryz.func194, Tryz.ntmps194
      go_wp2_with (first | (go_at_call 132; refine (KC _).mono ?_; rintro e w1 ⟨rfl, rfl⟩) | (go_at_call 253; refine (hL _).mono ?_; rintro e w2 ⟨rfl, hb⟩; obtain ⟨x, rfl⟩ := Later.of hb))
      go_ret
      exact ⟨rfl, x.below⟩
   rw [monthDays_plain hc (by omega) (by omega) (fun h => hm h.1)]
   clear hc
   rcases month_cases (m := m) (by omega) (by omega) with rfl | rfl | rfl | rfl | rfl | rfl | rfl | rfl | rfl | rfl | rfl | rfl
   · have c1 := tabCell hT 0 (by omega)
     clear hT h1 h2 hm
     go_enter Tryz.func194, Tryz.ntmps194
     go_wp2_with (go_at_call 132; refine (KC _).mono ?_; rintro e w1 ⟨rfl, rfl⟩)
     go_ret
     exact ⟨rfl, Below.refl _ _⟩
   · exact absurd rfl hm
   focus
     have c1 := tabCell hT 2 (by omega)
   rotate_left
   focus
     have c1 := tabCell hT 3 (by omega)
   rotate_left
   focus
     have c1 := tabCell hT 4 (by omega)
   rotate_left
   focus
     have c1 := tabCell hT 5 (by omega)
   rotate_left
   focus
     have c1 := tabCell hT 6 (by omega)
   rotate_left
   focus
     have c1 := tabCell hT 7 (by omega)
   rotate_left
   focus
     have c1 := tabCell hT 8 (by omega)
   rotate_left
   focus
     have c1 := tabCell hT 9 (by omega)
   rotate_left
   focus
     have c1 := tabCell hT 10 (by omega)
   rotate_left
   focus
     have c1 := tabCell hT 11 (by omega)
   rotate_left
   all_goals
    clear hT h1 h2 hm
    go_enter Tryz.func194, Tryz.ntmps194
    go_wp2_with (go_at_call 132; refine (KC _).mono ?_; rintro e w1 ⟨rfl, rfl⟩)
    go_ret
    exact ⟨rfl, Below.refl _ _⟩
 rw [monthDays_no (fun h => hc h.1)]
 clear hT
 go_enter Tryz.func194, Tryz.ntmps194
 go_wp2_with (go_at_call 132; refine (implCalNo c (by omega) (by omega) _).mono ?_; rintro e w1 ⟨rfl, rfl⟩)
 go_ret
 exact ⟨rfl, Below.refl _ _⟩
abbrev dateO (c y m d : Int) : Obj := .cells #[.int .i64 c, .int .i64 y, .int .i64 m, .int .i64 d] 161
theorem implDateOk (c y m d : Int) (w : World) (hT : Tab w) : CR 252 #[.agg #[.int .i64 c, .int .i64 y, .int .i64 m, .int .i64 d]] w (.bool (dateOk c y m d)) := by
 obtain ⟨W0, hW0⟩ : ∃ W0, W0 = w.alloc (.cells #[.int .i64 c, .int .i64 y, .int .i64 m, .int .i64 d] 161) := ⟨_, rfl⟩
 have c0 : ∀ x : Later W0, x.w.cell? ⟨w.heap.size, 0, none⟩ = some (.int .i64 c) := Later.new hW0 0 rfl
 have c1 : ∀ x : Later W0, x.w.cell? ⟨w.heap.size, 1, none⟩ = some (.int .i64 y) := Later.new hW0 1 rfl
 have c2 : ∀ x : Later W0, x.w.cell? ⟨w.heap.size, 2, none⟩ = some (.int .i64 m) := Later.new hW0 2 rfl
 have c3 : ∀ x : Later W0, x.w.cell? ⟨w.heap.size, 3, none⟩ = some (.int .i64 d) := Later.new hW0 3 rfl
 have HW0 : Hid (W0 = _) := hW0
 have KM : ∀ x : Later W0, CR 194 #[.int .i64 c, .int .i64 y, .int .i64 m] x.w (.int .i64 (monthDays c y m)) :=
  fun x => implMonthDays c y m x.w (hT.later (below_of_alloc HW0.out x.below))
 clear hW0 hT
 by_cases h1 : y < 1
 · rw [dateOk_false (fun h => by have := h.2.1; omega)]
   clear KM
   have g1 : decide (1 ≤ y) = false := decide_eq_false (by omega)
   go_enter Tryz.func252, Tryz.ntmps252
   go_wp2
   rw [← HW0.out]
   refine wp_region_later (W := W0) (Below.refl _ _) (by kernel_rfl) (by kernel_rfl) ?_
   repeat (go_big_quiet_step (fail))
   refine quietE fun x => ?_
   go_wp2
   go_ret
   exact ⟨by first | rfl | exact ret_bool (by simp [*]), below_of_alloc HW0.out x.below⟩
 by_cases h2 : 3000 < y
 · rw [dateOk_false (fun h => by have := h.2.2.1; omega)]
   clear KM
   have g1 : decide (1 ≤ y) = true := decide_eq_true (by omega)
   have g2 : decide (y ≤ 3000) = false := decide_eq_false (by omega)
   go_enter Tryz.func252, Tryz.ntmps252
   go_wp2
   rw [← HW0.out]
   refine wp_region_later (W := W0) (Below.refl _ _) (by kernel_rfl) (by kernel_rfl) ?_
   repeat (go_big_quiet_step (fail))
   refine quietE fun x => ?_
   go_wp2
   go_ret
   exact ⟨by first | rfl | exact ret_bool (by simp [*]), below_of_alloc HW0.out x.below⟩
 by_cases h3 : d < 1
 · rw [dateOk_false (fun h => by have := h.2.2.2.1; omega)]
   clear KM
   have g1 : decide (1 ≤ y) = true := decide_eq_true (by omega)
   have g2 : decide (y ≤ 3000) = true := decide_eq_true (by omega)
   have g3 : decide (1 ≤ d) = false := decide_eq_false (by omega)
   go_enter Tryz.func252, Tryz.ntmps252
   go_wp2
   rw [← HW0.out]
   refine wp_region_later (W := W0) (Below.refl _ _) (by kernel_rfl) (by kernel_rfl) ?_
   repeat (go_big_quiet_step (fail))
   refine quietE fun x => ?_
   go_wp2
   go_ret
   exact ⟨by first | rfl | exact ret_bool (by simp [*]), below_of_alloc HW0.out x.below⟩
 have hD : dateOk c y m d = decide (d ≤ monthDays c y m) := by
  by_cases h : d ≤ monthDays c y m
  · have hc : c = 0 ∨ c = 1 := by
     by_cases hc : c = 0 ∨ c = 1
     · exact hc
     · rw [monthDays_no (fun h => hc h.1)] at h
       omega
    rw [dateOk_true ⟨hc, by omega, by omega, by omega, h⟩, decide_eq_true h]
  · rw [dateOk_false (fun k => h k.2.2.2.2), decide_eq_false h]
 rw [hD]
 clear hD
 generalize monthDays c y m = md at *
 have g1 : decide (1 ≤ y) = true := decide_eq_true (by omega)
 have g2 : decide (y ≤ 3000) = true := decide_eq_true (by omega)
 have g3 : decide (1 ≤ d) = true := decide_eq_true (by omega)
 go_enter Tryz.func252, Tryz.ntmps252
 go_wp2
 rw [← HW0.out]
 refine wp_region_later (W := W0) (Below.refl _ _) (by kernel_rfl) (by kernel_rfl) ?_
 repeat (go_big_quiet_step ((go_at_call 194; exact calls_later (KM _))))
 refine quietE fun x => ?_
 go_wp2
 go_ret
 exact ⟨by first | rfl | exact ret_bool (by simp [*]), below_of_alloc HW0.out x.below⟩
theorem before_next (c y : Int) (k : Nat) : before c y (k + 1) = before c y k + monthDays c y ((k : Int) + 1) := by
 simp [before]
theorem specBefore (c y m : Int) (w : World) (hm : m ≤ 13) : CR 223 #[.int .i64 c, .int .i64 y, .int .i64 m] w (.int .i64 (before c y (m - 1).toNat)) := by
 obtain ⟨R, hR⟩ : ∃ R, R = before c y (m - 1).toNat := ⟨_, rfl⟩
 rw [← hR]
 have HR := hideP hR
 clear hR
 go_enter Tryz.func223, Tryz.ntmps223
 go_wp2
 go_loopw [7, 8] (fun n i wr => ∃ k : Nat, (k = 0 ∨ (k : Int) + 1 ≤ m) ∧ i = .int .i64 ((k : Int) + 1) ∧ n = .int .i64 (before c y k) ∧ Below w.heap.size w wr) (fun _ i _ => 14 - (intOf i).toNat)
 case atStart => exact ⟨0, by omega, rfl, rfl, Below.refl _ _⟩
 case round =>
  obtain ⟨k, hk, rfl, rfl, hb⟩ := hrel
  have h1 := before_bound c y k
  have h2 := monthDays_le c y ((k : Int) + 1)
  have HN := hideP (before_next c y k)
  have KM : ∀ W, CR 220 #[.int .i64 c, .int .i64 y, .int .i64 ((k : Int) + 1)] W (.int .i64 (monthDays c y ((k : Int) + 1))) := specMonthDays c y _
  generalize monthDays c y ((k : Int) + 1) = md at *
  by_cases hlt : (k : Int) + 1 < m
  · go_wp2_with (go_at_call 220; refine (KM _).mono ?_; rintro e w' ⟨rfl, hb'⟩)
    exact ⟨⟨k + 1, by omega, by go_num, by first | (rw [HN.out]; done) | (rw [HN.out]; go_num), hb.trans (hb'.mono hb.size)⟩, by simp [intOf]; omega⟩
  · have HK : Hid ((m - 1).toNat = k) := by unfold Hid; omega
    go_wp2_with fail
    go_ret
    exact ⟨ret_int (by rw [HR.out, HK.out]), hb⟩
theorem implUpTo (c y m d : Int) (w : World) (hT : Tab w) (hm1 : 1 ≤ m) (hm2 : m ≤ 13) (hd1 : -100 ≤ d) (hd2 : d ≤ 1000) : CR 331 #[.agg #[.int .i64 c, .int .i64 y, .int .i64 m, .int .i64 d]] w (.int .i64 (before c y (m - 1).toNat + d)) := by
 obtain ⟨W0, hW0⟩ : ∃ W0, W0 = w.alloc (.cells #[.int .i64 c, .int .i64 y, .int .i64 m, .int .i64 d] 161) := ⟨_, rfl⟩
 have c0 : ∀ x : Later W0, x.w.cell? ⟨w.heap.size, 0, none⟩ = some (.int .i64 c) := Later.new hW0 0 rfl
 have c1 : ∀ x : Later W0, x.w.cell? ⟨w.heap.size, 1, none⟩ = some (.int .i64 y) := Later.new hW0 1 rfl
 have c2 : ∀ x : Later W0, x.w.cell? ⟨w.heap.size, 2, none⟩ = some (.int .i64 m) := Later.new hW0 2 rfl
 have c3 : ∀ x : Later W0, x.w.cell? ⟨w.heap.size, 3, none⟩ = some (.int .i64 d) := Later.new hW0 3 rfl
 have HW0 : Hid (W0 = _) := hW0
 have HT : Hid (∀ x : Later W0, Tab x.w) := fun x => hT.later (below_of_alloc HW0.out x.below)
 clear hW0 hT
 obtain ⟨R, hR⟩ : ∃ R, R = before c y (m - 1).toNat + d := ⟨_, rfl⟩
 rw [← hR]
 have HD := hideP hR
 clear hR
 obtain ⟨x0, e0⟩ : ∃ x : Later W0, W0 = x.w := ⟨⟨W0, Below.refl _ _⟩, rfl⟩
 have E0 := hideP e0
 clear e0
 go_enter Tryz.func331, Tryz.ntmps331
 go_wp2_with fail
 go_loopw [3, 4] (fun n i wr => ∃ (k : Nat) (x : Later W0), (k : Int) + 1 ≤ m ∧ i = .int .i64 ((k : Int) + 1) ∧ n = .int .i64 (before c y k + d) ∧ wr = x.w) (fun _ i _ => 14 - (intOf i).toNat)
 case atStart => exact ⟨0, x0, by omega, rfl, by simp [before], by rw [← HW0.out]; exact E0.out⟩
 case round =>
  obtain ⟨k, x, hk, rfl, rfl, rfl⟩ := hrel
  have h1 := before_bound c y k
  have h2 := monthDays_le c y ((k : Int) + 1)
  have HN := hideP (before_next c y k)
  have KM : CR 194 #[.int .i64 c, .int .i64 y, .int .i64 ((k : Int) + 1)] x.w (.int .i64 (monthDays c y ((k : Int) + 1))) := implMonthDays c y _ _ (HT.out x)
  generalize monthDays c y ((k : Int) + 1) = md at *
  by_cases hlt : (k : Int) + 1 < m
  · go_wp2_with (go_at_call 194; refine KM.mono ?_; rintro e w' ⟨rfl, hb'⟩; obtain ⟨x', rfl⟩ := x.next hb')
    exact ⟨⟨k + 1, x', by omega, by go_num, by first | (rw [HN.out]; done) | (rw [HN.out]; go_num), rfl⟩, by simp [intOf]; omega⟩
  · have HK : Hid ((m - 1).toNat = k) := by unfold Hid; omega
    go_wp2_with fail
    go_ret
    exact ⟨ret_int (by rw [HD.out, HK.out]), below_of_alloc HW0.out x.below⟩
theorem specFirst (c y : Int) (w : World) (hc : c = 0 ∨ c = 1) (hy1 : -5 ≤ y) (hy2 : y ≤ 4000) : CS 158 #[.int .i64 c, .int .i64 y] w (.int .i64 (first c y)) := by
 have K4 : ∀ W, CS 226 #[.int .i64 (y - 1), .int .i64 4] W (.int .i64 ((y - 1) / 4)) := fun W => by rw [← floorDiv_small (by omega) (by omega) (by omega)]; exact specFloorDiv _ _ W
 have K100 : ∀ W, CS 226 #[.int .i64 (y - 1), .int .i64 100] W (.int .i64 ((y - 1) / 100)) := fun W => by rw [← floorDiv_small (by omega) (by omega) (by omega)]; exact specFloorDiv _ _ W
 have K400 : ∀ W, CS 226 #[.int .i64 (y - 1), .int .i64 400] W (.int .i64 ((y - 1) / 400)) := fun W => by rw [← floorDiv_small (by omega) (by omega) (by omega)]; exact specFloorDiv _ _ W
 have b4 : -2 ≤ (y - 1) / 4 ∧ (y - 1) / 4 ≤ 1000 := by omega
 have b100 : -2 ≤ (y - 1) / 100 ∧ (y - 1) / 100 ≤ 1000 := by omega
 have b400 : -2 ≤ (y - 1) / 400 ∧ (y - 1) / 400 ≤ 1000 := by omega
 obtain ⟨R, hR⟩ : ∃ R, R = first c y := ⟨_, rfl⟩
 rw [← hR]
 rcases hc with rfl | rfl
 · rw [first_jul] at hR
   have HR := hideP hR
   clear hR K100 K400 b100 b400
   generalize (y - 1) / 4 = q4 at *
   go_enter Tryz.func158, Tryz.ntmps158
   go_wp2_with (go_at_call 226; refine (K4 _).mono ?_; rintro e w1 ⟨rfl, rfl⟩)
   go_ret
   exact ⟨ret_int (by rw [HR.out]), rfl⟩
 · rw [first_gre] at hR
   have HR := hideP hR
   clear hR
   generalize (y - 1) / 4 = q4 at *
   generalize (y - 1) / 100 = q100 at *
   generalize (y - 1) / 400 = q400 at *
   go_enter Tryz.func158, Tryz.ntmps158
   go_wp2_with (first | (go_at_call_of 226 (4 : Int); refine (K4 _).mono ?_; rintro e w1 ⟨rfl, rfl⟩) | (go_at_call_of 226 (100 : Int); refine (K100 _).mono ?_; rintro e w1 ⟨rfl, rfl⟩) | (go_at_call_of 226 (400 : Int); refine (K400 _).mono ?_; rintro e w1 ⟨rfl, rfl⟩))
   go_ret
   exact ⟨ret_int (by rw [HR.out]), rfl⟩
theorem specDay (c y m d : Int) (w : World) (hc : c = 0 ∨ c = 1) (hy1 : -5 ≤ y) (hy2 : y ≤ 4000) (hm : m ≤ 13) (hd1 : -100 ≤ d) (hd2 : d ≤ 1000) : CR 156 #[.int .i64 c, .int .i64 y, .int .i64 m, .int .i64 d] w (.int .i64 (first c y + before c y (m - 1).toNat + d - 1)) := by
 have KF : ∀ W, CS 158 #[.int .i64 c, .int .i64 y] W (.int .i64 (first c y)) := fun W => specFirst c y W hc hy1 hy2
 have KB : ∀ W, CR 223 #[.int .i64 c, .int .i64 y, .int .i64 m] W (.int .i64 (before c y (m - 1).toNat)) := fun W => specBefore c y m W hm
 have b1 := first_bound hc hy1 hy2
 have b2 := before_bound c y (m - 1).toNat
 have b3 : before c y (m - 1).toNat ≤ 372 := by omega
 have b4 := b2.1
 clear b2
 generalize first c y = F at *
 generalize before c y (m - 1).toNat = B at *
 go_enter Tryz.func156, Tryz.ntmps156
 go_wp2_with (first | (go_at_call 158; refine (KF _).mono ?_; rintro e w1 ⟨rfl, rfl⟩) | (go_at_call 223; refine (KB _).mono ?_; rintro e w1 ⟨rfl, hb⟩))
 go_ret
 exact ⟨rfl, hb⟩
theorem implEve (c y : Int) (w : World) (hc : c = 0 ∨ c = 1) (hy1 : -5 ≤ y) (hy2 : y ≤ 4000) : CS 192 #[.iface (calT c) (.agg #[]), .int .i64 y] w (.int .i64 (first c y - 1)) := by
 have K4 : ∀ W, CS 145 #[.int .i64 (y - 1), .int .i64 4] W (.int .i64 ((y - 1) / 4)) := fun W => by rw [← floorDiv_small (by omega) (by omega) (by omega)]; exact implFloorDiv _ _ W
 have K100 : ∀ W, CS 145 #[.int .i64 (y - 1), .int .i64 100] W (.int .i64 ((y - 1) / 100)) := fun W => by rw [← floorDiv_small (by omega) (by omega) (by omega)]; exact implFloorDiv _ _ W
 have K400 : ∀ W, CS 145 #[.int .i64 (y - 1), .int .i64 400] W (.int .i64 ((y - 1) / 400)) := fun W => by rw [← floorDiv_small (by omega) (by omega) (by omega)]; exact implFloorDiv _ _ W
 have b4 : -2 ≤ (y - 1) / 4 ∧ (y - 1) / 4 ≤ 1000 := by omega
 have b100 : -2 ≤ (y - 1) / 100 ∧ (y - 1) / 100 ≤ 1000 := by omega
 have b400 : -2 ≤ (y - 1) / 400 ∧ (y - 1) / 400 ≤ 1000 := by omega
 obtain ⟨R, hR⟩ : ∃ R, R = first c y - 1 := ⟨_, rfl⟩
 rw [← hR]
 rcases hc with rfl | rfl
 · rw [first_jul] at hR
   have HR := hideP hR
   clear hR K100 K400 b100 b400
   generalize (y - 1) / 4 = q4 at *
   have q1 := isJulJul
   rw [show calT 0 = 200 from rfl]
   go_enter Tryz.func192, Tryz.ntmps192
   go_wp2_with (go_at_call 145; refine (K4 _).mono ?_; rintro e w1 ⟨rfl, rfl⟩)
   go_ret
   exact ⟨ret_int (by rw [HR.out]; omega), rfl⟩
 · rw [first_gre] at hR
   have HR := hideP hR
   clear hR
   generalize (y - 1) / 4 = q4 at *
   generalize (y - 1) / 100 = q100 at *
   generalize (y - 1) / 400 = q400 at *
   have q1 := isJulGre
   have q2 := isGreGre
   rw [show calT 1 = 201 from rfl]
   go_enter Tryz.func192, Tryz.ntmps192
   go_wp2_with (first | (go_at_call_of 145 (4 : Int); refine (K4 _).mono ?_; rintro e w1 ⟨rfl, rfl⟩) | (go_at_call_of 145 (100 : Int); refine (K100 _).mono ?_; rintro e w1 ⟨rfl, rfl⟩) | (go_at_call_of 145 (400 : Int); refine (K400 _).mono ?_; rintro e w1 ⟨rfl, rfl⟩))
   go_ret
   exact ⟨ret_int (by rw [HR.out]; omega), rfl⟩
theorem implLine (c y m d : Int) (w : World) (hT : Tab w) (hc : c = 0 ∨ c = 1) (hy1 : -5 ≤ y) (hy2 : y ≤ 4000) (hm1 : 1 ≤ m) (hm2 : m ≤ 13) (hd1 : -100 ≤ d) (hd2 : d ≤ 1000) : CR 314 #[.agg #[.int .i64 c, .int .i64 y, .int .i64 m, .int .i64 d]] w (.int .i64 (first c y + before c y (m - 1).toNat + d - 1)) := by
 obtain ⟨W0, hW0⟩ : ∃ W0, W0 = w.alloc (.cells #[.int .i64 c, .int .i64 y, .int .i64 m, .int .i64 d] 161) := ⟨_, rfl⟩
 have c0 : ∀ x : Later W0, x.w.cell? ⟨w.heap.size, 0, none⟩ = some (.int .i64 c) := Later.new hW0 0 rfl
 have c1 : ∀ x : Later W0, x.w.cell? ⟨w.heap.size, 1, none⟩ = some (.int .i64 y) := Later.new hW0 1 rfl
 have c2 : ∀ x : Later W0, x.w.cell? ⟨w.heap.size, 2, none⟩ = some (.int .i64 m) := Later.new hW0 2 rfl
 have c3 : ∀ x : Later W0, x.w.cell? ⟨w.heap.size, 3, none⟩ = some (.int .i64 d) := Later.new hW0 3 rfl
 have HW0 : Hid (W0 = _) := hW0
 have HT : Hid (∀ x : Later W0, Tab x.w) := fun x => hT.later (below_of_alloc HW0.out x.below)
 clear hW0 hT
 have KC := fun W => implCal c hc W
 have KE : ∀ W, CS 192 #[.iface (calT c) (.agg #[]), .int .i64 y] W (.int .i64 (first c y - 1)) := fun W => implEve c y W hc hy1 hy2
 have KY : ∀ x : Later W0, CR 331 #[.agg #[.int .i64 c, .int .i64 y, .int .i64 m, .int .i64 d]] x.w (.int .i64 (before c y (m - 1).toNat + d)) := fun x => implUpTo c y m d x.w (HT.out x) hm1 hm2 hd1 hd2
 have b1 := first_bound hc hy1 hy2
 have b2 := before_bound c y (m - 1).toNat
 have b3 : -100 ≤ before c y (m - 1).toNat + d ∧ before c y (m - 1).toNat + d ≤ 2000 := by omega
 obtain ⟨R, hR⟩ : ∃ R, R = first c y + before c y (m - 1).toNat + d - 1 := ⟨_, rfl⟩
 rw [← hR]
 have hR' : R = first c y - 1 + (before c y (m - 1).toNat + d) := by omega
 have HR := hideP hR'
 clear hR hR' b2 hc
 generalize before c y (m - 1).toNat + d = Y at *
 generalize first c y = F at *
 generalize calT c = T at *
 go_enter Tryz.func314, Tryz.ntmps314
 go_wp2_with fail
 rw [← HW0.out]
 refine wp_region_later (W := W0) (Below.refl _ _) (by kernel_rfl) (by kernel_rfl) ?_
 repeat (go_big_quiet_step (first | (go_at_call 132; exact calls_same (KC _)) | (go_at_call 192; exact calls_same (KE _)) | (go_at_call 331; exact calls_later (KY _))))
 refine quietE fun x => ?_
 go_wp2
 go_ret
 exact ⟨ret_int HR.out.symm, below_of_alloc HW0.out x.below⟩
theorem implDayOf (c y m d : Int) (w : World) (hT : Tab w) : CR 301 #[.agg #[.int .i64 c, .int .i64 y, .int .i64 m, .int .i64 d]] w (.int .i64 (dayOf c y m d)) := by
 obtain ⟨W0, hW0⟩ : ∃ W0, W0 = w.alloc (.cells #[.int .i64 c, .int .i64 y, .int .i64 m, .int .i64 d] 161) := ⟨_, rfl⟩
 have c0 : ∀ x : Later W0, x.w.cell? ⟨w.heap.size, 0, none⟩ = some (.int .i64 c) := Later.new hW0 0 rfl
 have c1 : ∀ x : Later W0, x.w.cell? ⟨w.heap.size, 1, none⟩ = some (.int .i64 y) := Later.new hW0 1 rfl
 have c2 : ∀ x : Later W0, x.w.cell? ⟨w.heap.size, 2, none⟩ = some (.int .i64 m) := Later.new hW0 2 rfl
 have c3 : ∀ x : Later W0, x.w.cell? ⟨w.heap.size, 3, none⟩ = some (.int .i64 d) := Later.new hW0 3 rfl
 have HW0 : Hid (W0 = _) := hW0
 have HT : Hid (∀ x : Later W0, Tab x.w) := fun x => hT.later (below_of_alloc HW0.out x.below)
 have K0 : CR 252 #[.agg #[.int .i64 c, .int .i64 y, .int .i64 m, .int .i64 d]] W0 (.bool (dateOk c y m d)) := implDateOk c y m d W0 (HT.out ⟨W0, Below.refl _ _⟩)
 clear hW0 hT
 by_cases hp : dateP c y m d
 · rw [dateOk_true hp] at K0
   have hm := dateP_month hp
   have hd := dateP_day hp
   have KU : ∀ x : Later W0, CR 314 #[.agg #[.int .i64 c, .int .i64 y, .int .i64 m, .int .i64 d]] x.w (.int .i64 (first c y + before c y (m - 1).toNat + d - 1)) := fun x => implLine c y m d x.w (HT.out x) hp.1 (by have := hp.2.1; omega) (by have := hp.2.2.1; omega) (by omega) (by omega) (by omega) (by omega)
   have e1 : dayOf c y m d = first c y + before c y (m - 1).toNat + d - 1 := by unfold dayOf; rw [if_pos hp]
   rw [e1]
   clear hp e1 hm hd
   generalize first c y + before c y (m - 1).toNat + d - 1 = R at *
   go_enter Tryz.func301, Tryz.ntmps301
   go_wp2_with (go_at_call 252; rw [← HW0.out]; refine K0.mono ?_; rintro e w1 ⟨rfl, hb⟩; obtain ⟨x0, rfl⟩ := Later.of hb)
   refine (KU x0).mono ?_
   rintro e w1 ⟨rfl, hb1⟩
   go_wp2
   go_ret
   exact ⟨rfl, below_of_alloc HW0.out (x0.on hb1)⟩
 · rw [dateOk_false hp] at K0
   have HD : Hid (dayOf c y m d = 0) := by unfold Hid dayOf; rw [if_neg hp]
   clear hp
   go_enter Tryz.func301, Tryz.ntmps301
   go_wp2_with (go_at_call 252; rw [← HW0.out]; refine K0.mono ?_; rintro e w1 ⟨rfl, hb⟩)
   go_ret
   exact ⟨ret_int HD.out.symm, below_of_alloc HW0.out hb⟩
theorem year_low {c n : Int} (hc : c = 0 ∨ c = 1) (h1 : -1000 ≤ n) (h2 : n ≤ 1200000) : first c (n / 366) ≤ n ∧ -5 ≤ n / 366 ∧ n / 366 ≤ 3300 := by
 rcases hc with rfl | rfl
 · rw [first_jul]; omega
 · rw [first_gre]; omega
theorem year_top {c y n : Int} (hc : c = 0 ∨ c = 1) (h1 : first c y ≤ n) (h2 : n ≤ 1200000) : y ≤ 3300 := by
 rcases hc with rfl | rfl
 · rw [first_jul] at h1; omega
 · rw [first_gre] at h1; omega
theorem year_mean {c n q : Int} (hc : c = 0 ∨ c = 1) (h2 : n ≤ 1200000) (hq : q = (n * 400).tdiv 146097) (h1 : 1 ≤ q) : first c q ≤ n := by
 have hn : 0 ≤ n := by
  by_cases hn : 0 ≤ n
  · exact hn
  · have e := Int.neg_tdiv (n * 400) 146097
    have e2 : (-(n * 400)).tdiv 146097 = -(n * 400) / 146097 := Int.tdiv_eq_ediv_of_nonneg (by omega)
    omega
 have e : (n * 400).tdiv 146097 = n * 400 / 146097 := Int.tdiv_eq_ediv_of_nonneg (by omega)
 rw [e] at hq
 rcases hc with rfl | rfl
 · rw [first_jul]; omega
 · rw [first_gre]; omega
theorem specYear (c n : Int) (w : World) (hc : c = 0 ∨ c = 1) (h1 : -1000 ≤ n) (h2 : n ≤ 1200000) : Calls Tryz.prog 219 #[.int .i64 c, .int .i64 n] w fun e w' => e = .returned (.int .i64 (yearOf c n)) ∧ w' = w ∧ first c (yearOf c n) ≤ n ∧ n < first c (yearOf c n + 1) ∧ -5 ≤ yearOf c n ∧ yearOf c n ≤ 3300 := by
 have HL := hideP (year_low hc h1 h2)
 have HC := hideP hc
 have KD : ∀ W, CS 226 #[.int .i64 n, .int .i64 366] W (.int .i64 (n / 366)) := fun W => by rw [← floorDiv_small (by omega) (by omega) (by omega)]; exact specFloorDiv _ _ W
 obtain ⟨R, hR⟩ : ∃ R, R = yearOf c n := ⟨_, rfl⟩
 rw [← hR]
 have HR := hideP hR
 clear hR hc
 generalize n / 366 = q at *
 go_enter Tryz.func219, Tryz.ntmps219
 go_wp2_with (go_at_call 226; refine (KD _).mono ?_; rintro e w1 ⟨rfl, rfl⟩)
 rename_i w
 go_loop [5] (fun v => ∃ y : Int, v = .int .i64 y ∧ Hid (first c y ≤ n) ∧ -5 ≤ y ∧ y ≤ 3300) (fun v => (4000 - intOf v).toNat)
 case atStart => exact ⟨q, rfl, HL.out.1, HL.out.2.1, HL.out.2.2⟩
 case round =>
  obtain ⟨y, rfl, HY, y1, y2⟩ := hrel
  have KF : ∀ W, CS 158 #[.int .i64 c, .int .i64 (y + 1)] W (.int .i64 (first c (y + 1))) := fun W => specFirst c (y + 1) W HC.out (by omega) (by omega)
  by_cases h : first c (y + 1) ≤ n
  · have ht := year_top HC.out h h2
    have HN := hideP h
    obtain ⟨F, eF⟩ : ∃ F, first c (y + 1) = F := ⟨_, rfl⟩
    rw [eF] at KF h
    clear eF
    go_wp2_with (go_at_call 158; refine (KF _).mono ?_; rintro e w1 ⟨rfl, rfl⟩)
    exact ⟨⟨y + 1, by go_num, HN, by omega, by omega⟩, by simp [intOf]; omega⟩
  · have HE : Hid (R = y) := by unfold Hid; rw [HR.out]; exact yearOf_eq HC.out HY.out (by omega)
    have HF : Hid (n < first c (y + 1)) := by unfold Hid; omega
    have h' : n < first c (y + 1) := by omega
    clear h
    obtain ⟨F, eF⟩ : ∃ F, first c (y + 1) = F := ⟨_, rfl⟩
    rw [eF] at KF h'
    clear eF
    go_wp2_with (go_at_call 158; refine (KF _).mono ?_; rintro e w1 ⟨rfl, rfl⟩)
    go_ret
    obtain rfl : R = y := HE.out
    exact ⟨rfl, rfl, HY.out, HF.out, y1, y2⟩
theorem implYear (c n : Int) (w : World) (hc : c = 0 ∨ c = 1) (h1 : first c 1 ≤ n) (h2 : n ≤ 1200000) : CS 193 #[.iface (calT c) (.agg #[]), .int .i64 n] w (.int .i64 (yearOf c n)) := by
 have hl : -1000 ≤ n := by
  rcases hc with rfl | rfl
  · rw [first_jul] at h1; omega
  · rw [first_gre] at h1; omega
 have HC := hideP hc
 have H1 := hideP h1
 obtain ⟨R, hR⟩ : ∃ R, R = yearOf c n := ⟨_, rfl⟩
 rw [← hR]
 have HR := hideP hR
 have KE : ∀ y : Int, Hid (-6 ≤ y ∧ y ≤ 3900) → ∀ W, CS 192 #[.iface (calT c) (.agg #[]), .int .i64 (y + 1)] W (.int .i64 (first c (y + 1) - 1)) := fun y hy W => implEve c (y + 1) W HC.out (by have := hy.out; omega) (by have := hy.out; omega)
 obtain ⟨q, hq⟩ : ∃ q, q = (n * 400).tdiv 146097 := ⟨_, rfl⟩
 have HM : Hid (1 ≤ q → first c q ≤ n) := fun h => year_mean HC.out h2 hq h
 have HT : Hid (∀ y, first c y ≤ n → y ≤ 3300) := fun y h => year_top HC.out h h2
 generalize calT c = T at *
 clear hR hc h1
 by_cases hq1 : q < 1
 · go_enter Tryz.func193, Tryz.ntmps193
   go_wp2_with fail
   go_loop [5] (fun v => ∃ y : Int, v = .int .i64 y ∧ Hid (first c y ≤ n) ∧ 1 ≤ y ∧ y ≤ 3300) (fun v => (4000 - intOf v).toNat)
   case atStart => exact ⟨1, rfl, H1, by omega, by omega⟩
   case round =>
    obtain ⟨y, rfl, HY, y1, y2⟩ := hrel
    have KF := KE y (by unfold Hid; omega)
    by_cases h : first c (y + 1) ≤ n
    · have ht := HT.out _ h
      have HN := hideP h
      have b1 := first_bound HC.out (show -5 ≤ y + 1 by omega) (show y + 1 ≤ 4000 by omega)
      obtain ⟨F, eF⟩ : ∃ F, first c (y + 1) = F := ⟨_, rfl⟩
      rw [eF] at KF h b1
      clear eF
      go_wp2_with (go_at_call 192; refine (KF _).mono ?_; rintro e w1 ⟨rfl, rfl⟩)
      exact ⟨⟨y + 1, by go_num, HN, by omega, by omega⟩, by simp [intOf]; omega⟩
    · have HE : Hid (R = y) := by unfold Hid; rw [HR.out]; exact yearOf_eq HC.out HY.out (by omega)
      have b1 := first_bound HC.out (show -5 ≤ y + 1 by omega) (show y + 1 ≤ 4000 by omega)
      obtain ⟨F, eF⟩ : ∃ F, first c (y + 1) = F := ⟨_, rfl⟩
      rw [eF] at KF h b1
      clear eF
      go_wp2_with (go_at_call 192; refine (KF _).mono ?_; rintro e w1 ⟨rfl, rfl⟩)
      go_ret
      exact ⟨ret_int HE.out.symm, rfl⟩
 · have hb : 1 ≤ q ∧ q ≤ 3300 := ⟨by omega, HT.out _ (HM.out (by omega))⟩
   go_enter Tryz.func193, Tryz.ntmps193
   go_wp2_with fail
   go_loop [5] (fun v => ∃ y : Int, v = .int .i64 y ∧ Hid (first c y ≤ n) ∧ 1 ≤ y ∧ y ≤ 3300) (fun v => (4000 - intOf v).toNat)
   case atStart => exact ⟨q, by rw [hq], HM.out hb.1, hb.1, hb.2⟩
   case round =>
    obtain ⟨y, rfl, HY, y1, y2⟩ := hrel
    have KF := KE y (by unfold Hid; omega)
    by_cases h : first c (y + 1) ≤ n
    · have ht := HT.out _ h
      have HN := hideP h
      have b1 := first_bound HC.out (show -5 ≤ y + 1 by omega) (show y + 1 ≤ 4000 by omega)
      obtain ⟨F, eF⟩ : ∃ F, first c (y + 1) = F := ⟨_, rfl⟩
      rw [eF] at KF h b1
      clear eF
      go_wp2_with (go_at_call 192; refine (KF _).mono ?_; rintro e w1 ⟨rfl, rfl⟩)
      exact ⟨⟨y + 1, by go_num, HN, by omega, by omega⟩, by simp [intOf]; omega⟩
    · have HE : Hid (R = y) := by unfold Hid; rw [HR.out]; exact yearOf_eq HC.out HY.out (by omega)
      have b1 := first_bound HC.out (show -5 ≤ y + 1 by omega) (show y + 1 ≤ 4000 by omega)
      obtain ⟨F, eF⟩ : ∃ F, first c (y + 1) = F := ⟨_, rfl⟩
      rw [eF] at KF h b1
      clear eF
      go_wp2_with (go_at_call 192; refine (KF _).mono ?_; rintro e w1 ⟨rfl, rfl⟩)
      go_ret
      exact ⟨ret_int HE.out.symm, rfl⟩
section
variable {P : Program} {ops : Array Oper} {Q : Exit → Act → World → Prop}
theorem held_take {md : Region.Mode} {S : World → Prop} {i : Nat} {d : Tmp} {oi : Oper} {v : Value} {fuel : Nat} {listed : Array Bool} {a : Act} {w : World} (hi : ops[i]? = some oi) (hd : oi.dst = some d) (hs : Region.noSelect ops = true) (hf : Region.free md ops listed i = true) (hr : (Region.ready md ops listed).contains i = true) (hQ : ∀ c a w, Q (.panic c) (a.put (some d) v) w → Q (.panic c) a w) (hw : Region.wanted oi (yielded ops a.tmps) = true) (hy : ∀ w, S w → (execOp a.eval oi).run P w = .ok (.value v) w) (hS : S w) (h : wpAnyH P md ops Q S fuel (listed.setIfInBounds i true) (a.put (some d) v) w) : wpAnyH P md ops Q S (fuel + 1) listed a w :=
 wpAnyH_take hi hs hf hr (fun c a' w' h' => by rw [hd] at h'; exact hQ c a' w' h') (Or.inl ⟨hw, hy⟩) hS (by rw [hd]; exact h)
theorem held_one {md : Region.Mode} {S : World → Prop} {f i : Nat} {L : Array Bool} {a : Act} {w : World} (hr : Region.ready md ops L = [i]) (h : wpOp P ops Q i (fun a' w' => S w' ∧ wpAnyH P md ops Q S f (L.setIfInBounds i true) a' w') a w) : wpAnyH P md ops Q S (f + 1) L a w :=
by
 refine ⟨fun q => ?_, fun j hj => ?_⟩
 · rw [hr] at q
   cases q
 · rw [hr] at hj
   obtain rfl := List.mem_singleton.1 hj
   exact h
end
theorem op_skip {P : Program} {ops : Array Oper} {Q : Exit → Act → World → Prop} {i : Nat} {o : Oper} {K : Act → World → Prop} {a : Act} {w w' : World} (hi : ops[i]? = some o) (hd : o.dst = none) (hw : Region.wanted o (yielded ops a.tmps) = true) (hx : (execOp a.eval o).run P w = .ok .skip w') (h : K a w') : wpOp P ops Q i K a w := by
 unfold wpOp
 simp only [hi, hw, if_true]
 left
 unfold Oper.wp
 rw [hx, Oper.upon_skip, hd]
 exact h
theorem nones_no {m : Int} (h : m < 1 ∨ 12 < m) : nones m = 0 := by unfold nones; rw [if_neg (by omega)]
theorem ides_no {m : Int} (h : m < 1 ∨ 12 < m) : ides m = 0 := by unfold ides; rw [if_neg (by omega)]
theorem specNones (m : Int) (w : World) : CS 227 #[.int .i64 m] w (.int .i64 (nones m)) := by
 have KI : ∀ W, CS 98 #[.int .i64 m, .int .i64 1, .int .i64 12] W (.bool (inB m 1 12)) := l01In m 1 12
 by_cases h : 1 ≤ m ∧ m ≤ 12
 case neg =>
  rw [nones_no (by omega)]
  rw [inB_false (by omega)] at KI
  go_enter Tryz.func227, Tryz.ntmps227
  go_wp2_with fail
  refine sameC (KI _) ?_
  go_wp2
  go_ret
  exact ⟨rfl, rfl⟩
 obtain ⟨h1, h2⟩ := h
 rw [inB_true h1 h2] at KI
 rcases month_cases h1 h2 with rfl | rfl | rfl | rfl | rfl | rfl | rfl | rfl | rfl | rfl | rfl | rfl
 all_goals
  go_enter Tryz.func227, Tryz.ntmps227
  go_wp2_with fail
  refine sameC (KI _) ?_
  go_wp2
  go_ret
  exact ⟨rfl, rfl⟩
theorem specIdes (m : Int) (w : World) : CS 228 #[.int .i64 m] w (.int .i64 (ides m)) := by
 have KI : ∀ W, CS 98 #[.int .i64 m, .int .i64 1, .int .i64 12] W (.bool (inB m 1 12)) := l01In m 1 12
 have KN : ∀ W, CS 227 #[.int .i64 m] W (.int .i64 (nones m)) := specNones m
 have hb := nones_b m
 by_cases h : 1 ≤ m ∧ m ≤ 12
 · rw [ides_in h.1 h.2]
   rw [inB_true h.1 h.2] at KI
   generalize nones m = n at *
   go_enter Tryz.func228, Tryz.ntmps228
   go_wp2_with fail
   refine sameC (KI _) ?_
   go_wp2_with fail
   refine sameC (KN _) ?_
   go_wp2
   go_ret
   exact ⟨rfl, rfl⟩
 · rw [ides_no (by omega)]
   rw [inB_false (by omega)] at KI
   clear KN
   go_enter Tryz.func228, Tryz.ntmps228
   go_wp2_with fail
   refine sameC (KI _) ?_
   go_wp2
   go_ret
   exact ⟨rfl, rfl⟩
theorem implNones (m : Int) (w : World) : CS 317 #[.int .i64 m] w (.int .i64 (nones m)) := by
 by_cases h : 1 ≤ m ∧ m ≤ 12
 · obtain ⟨h1, h2⟩ := h
   rcases month_cases h1 h2 with rfl | rfl | rfl | rfl | rfl | rfl | rfl | rfl | rfl | rfl | rfl | rfl
   all_goals
    go_enter Tryz.func317, Tryz.ntmps317
    go_wp2
    go_ret
    exact ⟨rfl, rfl⟩
 · rw [nones_no (by omega)]
   have e1 : (m == 1) = false := by simp; omega
   have e2 : (m == 2) = false := by simp; omega
   have e3 : (m == 3) = false := by simp; omega
   have e4 : (m == 4) = false := by simp; omega
   have e5 : (m == 5) = false := by simp; omega
   have e6 : (m == 6) = false := by simp; omega
   have e7 : (m == 7) = false := by simp; omega
   have e8 : (m == 8) = false := by simp; omega
   have e9 : (m == 9) = false := by simp; omega
   have e10 : (m == 10) = false := by simp; omega
   have e11 : (m == 11) = false := by simp; omega
   have e12 : (m == 12) = false := by simp; omega
   go_enter Tryz.func317, Tryz.ntmps317
   go_wp2
   go_ret
   exact ⟨rfl, rfl⟩
theorem implIdes (m : Int) (w : World) : CS 318 #[.int .i64 m] w (.int .i64 (ides m)) := by
 have KN : ∀ W, CS 317 #[.int .i64 m] W (.int .i64 (nones m)) := implNones m
 have hb := nones_b m
 by_cases h : 1 ≤ m ∧ m ≤ 12
 · rw [ides_in h.1 h.2]
   have h5 := nones_in h.1 h.2
   generalize nones m = n at *
   have hn : (n == 0) = false := by simp; omega
   go_enter Tryz.func318, Tryz.ntmps318
   go_wp2_with fail
   refine sameC (KN _) ?_
   go_wp2
   go_ret
   exact ⟨rfl, rfl⟩
 · rw [ides_no (by omega)]
   rw [nones_no (by omega)] at KN
   go_enter Tryz.func318, Tryz.ntmps318
   go_wp2_with fail
   refine sameC (KN _) ?_
   go_wp2
   go_ret
   exact ⟨rfl, rfl⟩
def markN (m k : Int) : Int := if k = 0 then 1 else if k = 1 then nones m else if k = 2 then ides m else 0
theorem markN_b (m k : Int) : 0 ≤ markN m k ∧ markN m k ≤ 15 := by
 have := nones_b m
 have := ides_b m
 unfold markN
 repeat' split
 all_goals omega
theorem implMarkDay (m k : Int) (w : World) : CS 296 #[.int .i64 m, .int .i64 k] w (.int .i64 (markN m k)) := by
 by_cases h0 : k = 0
 · subst h0
   rw [show markN m 0 = 1 from rfl]
   go_enter Tryz.func296, Tryz.ntmps296
   go_wp2
   go_ret
   exact ⟨rfl, rfl⟩
 have e0 : (k == 0) = false := by simp [h0]
 by_cases h1 : k = 1
 · subst h1
   rw [show markN m 1 = nones m from rfl]
   have KN := implNones m
   generalize nones m = n at *
   go_enter Tryz.func296, Tryz.ntmps296
   go_wp2_with fail
   refine sameC (KN _) ?_
   go_wp2
   go_ret
   exact ⟨rfl, rfl⟩
 have e1 : (k == 1) = false := by simp [h1]
 by_cases h2 : k = 2
 · subst h2
   rw [show markN m 2 = ides m from rfl]
   have KN := implIdes m
   generalize ides m = n at *
   go_enter Tryz.func296, Tryz.ntmps296
   go_wp2_with fail
   refine sameC (KN _) ?_
   go_wp2
   go_ret
   exact ⟨rfl, rfl⟩
 have e2 : (k == 2) = false := by simp [h2]
 rw [show markN m k = 0 from by unfold markN; rw [if_neg h0, if_neg h1, if_neg h2]]
 go_enter Tryz.func296, Tryz.ntmps296
 go_wp2
 go_ret
 exact ⟨rfl, rfl⟩
theorem implMonthBehind (m : Int) (w : World) (h1 : 1 ≤ m) (h2 : m ≤ 12) : CS 297 #[.int .i64 m] w (.int .i64 (m % 12 + 1)) := by
 go_enter Tryz.func297, Tryz.ntmps297
 go_wp2
 go_ret
 exact ⟨rfl, rfl⟩
def monAheadW (m : Int) : Int := if m = 1 then 12 else wrap64 (m - 1)
theorem implMonthAhead (m : Int) (w : World) : CS 307 #[.int .i64 m] w (.int .i64 (monAheadW m)) := by
 by_cases h : m = 1
 · subst h
   go_enter Tryz.func307, Tryz.ntmps307
   go_wp2
   go_ret
   exact ⟨rfl, rfl⟩
 · have e0 : (m == 1) = false := by simp [h]
   have HR : Hid (monAheadW m = wrap64 (m - 1)) := by unfold Hid monAheadW; rw [if_neg h]
   go_enter Tryz.func307, Tryz.ntmps307
   go_wp2
   go_ret
   exact ⟨ret_int HR.out.symm, rfl⟩
theorem wp_scope_fwd {P : Program} {Q : Exit → Act → World → Prop} {a : Act} {w : World} {c rest : Code} (l : Nat) (hf : findLabel c l = some rest) (first : c.wp P (Exit.jump l (fun a w => rest.wp P (Exit.noGoto Q) a w) Q) a w) : (Code.scope c).wp P Q a w :=
 wp_scope_jumps l (fun a w => rest.wp P (Exit.noGoto Q) a w) (fun _ _ => 0) hf first fun a w h => wp_mono h fun e a w hq => by
  cases e with
  | goto l' => exact hq.elim
  | normal => exact hq
  | exit id => exact hq
  | ret => exact hq
  | panic ch => exact hq
  | outgrown => exact hq
theorem jump_ret {l : Nat} {J : Act → World → Prop} {Q : Exit → Act → World → Prop} {a : Act} {w : World} (h : Q .ret a w) : Exit.jump l J Q .ret a w := h
abbrev romV (r : Rom) : Value := .agg #[.int .i64 r.count, .int .i64 r.mark, .int .i64 r.month, .bool r.twice]
abbrev romZ : Array Value := #[.int .i64 0, .int .i64 0, .int .i64 0, .bool false]
abbrev romO (a b c : Int) (t : Bool) : Obj := .cells #[.int .i64 a, .int .i64 b, .int .i64 c, .bool t] 54
theorem date_box (w : World) (c y m d : Int) : ∃ W0, W0 = w.alloc (dateO c y m d) ∧ (∀ x : Later W0, x.w.cell? ⟨w.heap.size, 0, none⟩ = some (.int .i64 c)) ∧ (∀ x : Later W0, x.w.cell? ⟨w.heap.size, 1, none⟩ = some (.int .i64 y)) ∧ (∀ x : Later W0, x.w.cell? ⟨w.heap.size, 2, none⟩ = some (.int .i64 m)) ∧ (∀ x : Later W0, x.w.cell? ⟨w.heap.size, 3, none⟩ = some (.int .i64 d)) ∧ (∀ x : Later W0, Below w.heap.size w x.w) :=
 ⟨_, rfl, Later.new rfl 0 rfl, Later.new rfl 1 rfl, Later.new rfl 2 rfl, Later.new rfl 3 rfl, fun x => below_of_alloc rfl x.below⟩
theorem rom_box (w : World) (a b c : Int) (t : Bool) : ∃ W0, W0 = w.alloc (romO a b c t) ∧ (∀ x : Later W0, x.w.cell? ⟨w.heap.size, 0, none⟩ = some (.int .i64 a)) ∧ (∀ x : Later W0, x.w.cell? ⟨w.heap.size, 1, none⟩ = some (.int .i64 b)) ∧ (∀ x : Later W0, x.w.cell? ⟨w.heap.size, 2, none⟩ = some (.int .i64 c)) ∧ (∀ x : Later W0, x.w.cell? ⟨w.heap.size, 3, none⟩ = some (.bool t)) ∧ (∀ x : Later W0, Below w.heap.size w x.w) :=
 ⟨_, rfl, Later.new rfl 0 rfl, Later.new rfl 1 rfl, Later.new rfl 2 rfl, Later.new rfl 3 rfl, fun x => below_of_alloc rfl x.below⟩
theorem box_size (W : World) (o : Obj) : (W.alloc o).heap.size = W.heap.size + 1 := by simp [World.alloc, -World.alloc_eq]
theorem two_box (w : World) (us vs : Array Value) (s t : TypeId) : ∃ W0, W0 = (w.alloc (.cells us s)).alloc (.cells vs t) ∧ (∀ x : Later W0, Blk x.w w.heap.size us s) ∧ (∀ x : Later W0, Blk x.w (w.heap.size + 1) vs t) ∧ (∀ x : Later W0, Below w.heap.size w x.w) := by
 refine ⟨_, rfl, fun x => ((Blk.new w us s).alloc _).later x, fun x => ?_, fun x => ?_⟩
 · have h := Blk.new (w.alloc (.cells us s)) vs t
   rw [box_size] at h
   exact h.later x
 · exact below_alloc (below_alloc x.below)
def put4 (W : World) (b : Nat) (v0 v1 v2 v3 : Value) : World := (((W.setCell ⟨b, 0, none⟩ v0).setCell ⟨b, 1, none⟩ v1).setCell ⟨b, 2, none⟩ v2).setCell ⟨b, 3, none⟩ v3
theorem put4_blk {W : World} {b : Nat} {u0 u1 u2 u3 v0 v1 v2 v3 : Value} {t : TypeId} (h : Blk W b #[u0, u1, u2, u3] t) : Blk (put4 W b v0 v1 v2 v3) b #[v0, v1, v2, v3] t := (((h.set 0 v0).set 1 v1).set 2 v2).set 3 v3
theorem put4_below {w W : World} {n b : Nat} {v0 v1 v2 v3 : Value} (h : Below n w W) (hb : n ≤ b) : Below n w (put4 W b v0 v1 v2 v3) := (((h.setCell (p := ⟨b, 0, none⟩) hb v0).setCell (p := ⟨b, 1, none⟩) hb v1).setCell (p := ⟨b, 2, none⟩) hb v2).setCell (p := ⟨b, 3, none⟩) hb v3
theorem put4_eq (W : World) (b : Nat) (v0 v1 v2 v3 : Value) : (((W.setCell ⟨b, 0, none⟩ v0).setCell ⟨b, 1, none⟩ v1).setCell ⟨b, 2, none⟩ v2).setCell ⟨b, 3, none⟩ v3 = put4 W b v0 v1 v2 v3 := rfl
theorem implIsTwice (c y m d : Int) (w : World) : CR 299 #[.agg #[.int .i64 c, .int .i64 y, .int .i64 m, .int .i64 d]] w (.bool (decide (m = 2 ∧ d = 24 ∧ leapP c y))) := by
 obtain ⟨W0, hW0, c0, c1, c2, c3, hBl⟩ := date_box w c y m d
 have HW0 := hideP hW0
 have HBl := hideP hBl
 obtain ⟨x0, hx0⟩ := Later.of (Below.refl W0.heap.size W0)
 have KL : ∀ W, CR 253 #[.int .i64 c, .int .i64 y] W (.bool (leapB c y)) := implLeap c y
 have k0 := c0 x0
 have k1 := c1 x0
 have k2 := c2 x0
 have k3 := c3 x0
 have HX0 := hideP hx0
 rw [← hx0] at k0 k1 k2 k3
 clear hW0 hBl hx0 c0 c1 c2 c3
 by_cases h1 : m = 2
 case neg =>
  have hm : (m == 2) = false := by simp [h1]
  rw [show decide (m = 2 ∧ d = 24 ∧ leapP c y) = false from by simp [h1]]
  clear KL
  go_enter Tryz.func299, Tryz.ntmps299
  go_wp2_with fail
  rw [← HW0.out]
  go_wp2
  go_ret
  rw [HX0.out]
  exact ⟨rfl, HBl.out x0⟩
 have hm : (m == 2) = true := by simp [h1]
 by_cases h2 : d = 24
 case neg =>
  have hd : (d == 24) = false := by simp [h2]
  rw [show decide (m = 2 ∧ d = 24 ∧ leapP c y) = false from by simp [h2]]
  clear KL h1
  go_enter Tryz.func299, Tryz.ntmps299
  go_wp2_with fail
  rw [← HW0.out]
  go_wp2
  go_ret
  rw [HX0.out]
  exact ⟨rfl, HBl.out x0⟩
 have hd : (d == 24) = true := by simp [h2]
 rw [show decide (m = 2 ∧ d = 24 ∧ leapP c y) = leapB c y from by simp [h1, h2, leapB]]
 clear h1 h2
 generalize leapB c y = lb at *
 go_enter Tryz.func299, Tryz.ntmps299
 go_wp2_with fail
 rw [← HW0.out]
 go_wp2_with fail
 refine latO (KL _) fun x1 => ?_
 go_wp2
 go_ret
 exact ⟨rfl, HBl.out x1⟩
theorem implKalends (c y m d : Int) (w : World) (hT : Tab w) : CR 298 #[.agg #[.int .i64 c, .int .i64 y, .int .i64 m, .int .i64 d]] w (.int .i64 (countDays c y m d + 1)) := by
 obtain ⟨W0, hW0, c0, c1, c2, c3, hBl⟩ := date_box w c y m d
 obtain ⟨x0, hx0⟩ := Later.of (Below.refl W0.heap.size W0)
 have KM : ∀ x : Later W0, CR 194 #[.int .i64 c, .int .i64 y, .int .i64 m] x.w (.int .i64 (monthDays c y m)) := fun x => implMonthDays c y m x.w (hT.later (hBl x))
 have hM := KM x0
 have k0 := c0 x0
 have k1 := c1 x0
 have k2 := c2 x0
 have k3 := c3 x0
 have k4 := tabCell (hT.later (hBl x0)) 1 (by omega)
 rw [show tab12.getD 1 0 = 28 from rfl] at k4
 have hmd := monthDays_le c y m
 have HW0 := hideP hW0
 have HBl := hideP hBl
 have HX0 := hideP hx0
 rw [← hx0] at k0 k1 k2 k3 k4 hM
 clear hW0 hBl hx0 c0 c1 c2 c3 hT KM
 by_cases h1 : m = 2
 · have hm : (m == 2) = true := by simp [h1]
   by_cases h2 : d ≤ 24
   · rw [show countDays c y m d = 28 from by unfold countDays; rw [if_pos ⟨h1, h2⟩]]
     have g2 : decide (d ≤ 24) = true := decide_eq_true h2
     rw [HW0.out] at k4
     clear hM h1 hmd
     go_enter Tryz.func298, Tryz.ntmps298
     go_wp2_with fail
     rw [← HW0.out]
     go_wp2
     go_ret
     rw [HX0.out]
     exact ⟨rfl, HBl.out x0⟩
   · rw [show countDays c y m d = monthDays c y m from by unfold countDays; rw [if_neg (fun h => h2 h.2)]]
     have g2 : decide (d ≤ 24) = false := decide_eq_false h2
     clear h1 k4
     generalize monthDays c y m = md at *
     go_enter Tryz.func298, Tryz.ntmps298
     go_wp2_with fail
     rw [← HW0.out]
     go_wp2_with fail
     refine latO hM fun x1 => ?_
     go_wp2
     go_ret
     exact ⟨rfl, HBl.out x1⟩
 · have hm : (m == 2) = false := by simp [h1]
   rw [show countDays c y m d = monthDays c y m from by unfold countDays; rw [if_neg (fun h => h1 h.1)]]
   clear h1 k4
   generalize monthDays c y m = md at *
   go_enter Tryz.func298, Tryz.ntmps298
   go_wp2_with fail
   rw [← HW0.out]
   go_wp2_with fail
   refine latO hM fun x1 => ?_
   go_wp2
   go_ret
   exact ⟨rfl, HBl.out x1⟩
theorem implRomanOf (c y m d : Int) (w : World) (hT : Tab w) : CR 270 #[.agg #[.int .i64 c, .int .i64 y, .int .i64 m, .int .i64 d]] w (romV (romanOf c y m d)) := by
 obtain ⟨W0, hW0, hD, hR, hBl⟩ := two_box w #[.int .i64 c, .int .i64 y, .int .i64 m, .int .i64 d] romZ 161 54
 obtain ⟨c0, c1, c2, c3⟩ := cells4 hD
 obtain ⟨r0, r1, r2, r3⟩ := cells4 hR
 obtain ⟨f0, f1, f2, f3⟩ := thaws4 hR
 have KO : ∀ x : Later W0, CR 252 #[.agg #[.int .i64 c, .int .i64 y, .int .i64 m, .int .i64 d]] x.w (.bool (dateOk c y m d)) := fun x => implDateOk c y m d x.w (hT.later (hBl x))
 have KK : ∀ x : Later W0, CR 298 #[.agg #[.int .i64 c, .int .i64 y, .int .i64 m, .int .i64 d]] x.w (.int .i64 (countDays c y m d + 1)) := fun x => implKalends c y m d x.w (hT.later (hBl x))
 have KW : ∀ x : Later W0, CR 299 #[.agg #[.int .i64 c, .int .i64 y, .int .i64 m, .int .i64 d]] x.w (.bool (decide (m = 2 ∧ d = 24 ∧ leapP c y))) := fun x => implIsTwice c y m d x.w
 have HW0 := hideP hW0
 have HBl := hideP hBl
 have HR := hideP hR
 obtain ⟨x0, hx0⟩ := Later.of (Below.refl W0.heap.size W0)
 have HX0 := hideP hx0
 clear hW0 hBl hD hR hT hx0
 by_cases hok : dateP c y m d
 case neg =>
  rw [dateOk_false hok] at KO
  have HV : Hid (romanOf c y m d = ⟨0, 0, 0, false⟩) := by unfold Hid romanOf; rw [if_neg hok]
  rw [HV.out]
  clear HV KK KW hok
  go_enter Tryz.func270, Tryz.ntmps270
  go_wp2_with fail
  rw [← HW0.out, HX0.out]
  refine wp_scope_fwd 0 (by rfl) ?_
  go_wp2_with fail
  refine lat (KO _) fun x1 => ?_
  go_wp2_with fail
  rw [put4_eq]
  have Z := put4_blk (v0 := .int .i64 0) (v1 := .int .i64 0) (v2 := .int .i64 0) (v3 := .bool false) (HR.out x1)
  have z0 := Z.cell 0 rfl
  have z1 := Z.cell 1 rfl
  have z2 := Z.cell 2 rfl
  have z3 := Z.cell 3 rfl
  refine jump_ret ?_
  exact bodyPost_ret (by simp [results, Tryz.results270, go_sem, z0, z1, z2, z3]; try rfl) rfl ⟨rfl, put4_below (HBl.out x1) (by omega)⟩
 rw [dateOk_true hok] at KO
 have hm := dateP_month hok
 have hd := dateP_day hok
 have hm1 := hm.1
 have hm2 := hm.2
 have hd1 := hd.1
 have hd2 := hd.2
 have hmd := monthDays_le c y m
 have hcb : 0 ≤ countDays c y m d ∧ countDays c y m d ≤ 31 := by unfold countDays; split <;> omega
 have HV : Hid (romanOf c y m d = romanIn c y m d) := by unfold Hid romanOf; rw [if_pos hok]
 rw [HV.out]
 have KB : ∀ W, CS 297 #[.int .i64 m] W (.int .i64 (m % 12 + 1)) := fun W => implMonthBehind m W hm1 hm2
 have KD : ∀ k W, CS 296 #[.int .i64 m, .int .i64 k] W (.int .i64 (markN m k)) := fun k W => implMarkDay m k W
 -- what each way answers
 have HA : Hid (∀ k : Nat, k ≤ 2 → d ≤ markN m k → (∀ j : Nat, j < k → markN m j < d) → romanIn c y m d = ⟨markN m k - d + 1, k, m, decide (m = 2 ∧ d = 24 ∧ leapP c y)⟩) := by
  intro k hk h1 h2
  have hn := nones_in hm1 hm2
  have hi := ides_in hm1 hm2
  have hn7 := nones_b m
  have tw : decide (m = 2 ∧ d = 24 ∧ leapP c y) = false := by
   apply decide_eq_false
   rintro ⟨rfl, rfl, _⟩
   have : markN 2 k ≤ 13 := by
    have : k = 0 ∨ k = 1 ∨ k = 2 := by omega
    rcases this with rfl | rfl | rfl <;> decide
   omega
  rw [tw]
  have : k = 0 ∨ k = 1 ∨ k = 2 := by omega
  rcases this with rfl | rfl | rfl
  · have e1 : d = 1 := by have : markN m ((0 : Nat) : Int) = 1 := rfl
                          omega
    subst e1
    rfl
  · have a0 := h2 0 (by omega)
    have b0 : markN m ((0 : Nat) : Int) = 1 := rfl
    have b1 : markN m ((1 : Nat) : Int) = nones m := rfl
    rw [b1] at h1
    unfold romanIn
    rw [if_neg (by omega), if_pos h1, b1]
    rfl
  · have a0 := h2 0 (by omega)
    have a1 := h2 1 (by omega)
    have b0 : markN m ((0 : Nat) : Int) = 1 := rfl
    have b1 : markN m ((1 : Nat) : Int) = nones m := rfl
    have b2 : markN m ((2 : Nat) : Int) = ides m := rfl
    rw [b2] at h1
    unfold romanIn
    rw [if_neg (by omega), if_neg (by omega), if_pos h1, b2]
    rfl
 have HE : Hid ((∀ j : Nat, j < 3 → markN m j < d) → romanIn c y m d = ⟨countDays c y m d + 1 - d + 1, 0, m % 12 + 1, decide (m = 2 ∧ d = 24 ∧ leapP c y)⟩) := by
  intro h2
  have a0 := h2 0 (by omega)
  have a1 := h2 1 (by omega)
  have a2 := h2 2 (by omega)
  have b0 : markN m ((0 : Nat) : Int) = 1 := rfl
  have b1 : markN m ((1 : Nat) : Int) = nones m := rfl
  have b2 : markN m ((2 : Nat) : Int) = ides m := rfl
  unfold romanIn
  rw [if_neg (by omega), if_neg (by omega), if_neg (by omega), show countDays c y m d - d + 2 = countDays c y m d + 1 - d + 1 from by omega]
 clear HV hok hm hd hmd
 generalize decide (m = 2 ∧ d = 24 ∧ leapP c y) = tw at *
 generalize romanIn c y m d = R at *
 generalize countDays c y m d = cd at *
 go_enter Tryz.func270, Tryz.ntmps270
 go_wp2_with fail
 rw [← HW0.out, HX0.out]
 refine wp_scope_fwd 0 (by rfl) ?_
 go_wp2_with fail
 refine lat (KO _) fun x1 => ?_
 go_wp2_with fail
 go_loopw [4, 5] (fun o s wr => ∃ (k : Nat) (z : Int), k ≤ 3 ∧ o = .int .i64 (k : Int) ∧ s = .int .i64 z ∧ wr = x1.w ∧ (∀ j : Nat, j < k → markN m j < d)) (fun o _ _ => 3 - (intOf o).toNat)
 case atStart => exact ⟨0, 0, by omega, rfl, rfl, rfl, by omega⟩
 case round =>
  obtain ⟨k, z, hk, rfl, rfl, hwr, hj⟩ := hrel
  rw [hwr]
  clear hwr
  have HJ := hideP hj
  clear hj
  by_cases hlt : k < 3
  · have hmb := markN_b m k
    have KK1 := KD k
    by_cases hle : d ≤ markN m k
    · have HF := hideP (HA.out k (by omega) hle HJ.out)
      clear HA HE HJ KD KK
      generalize markN m k = mk at *
      go_wp2_with fail
      refine sameC (KK1 _) ?_
      go_wp2_with fail
      go_step3
      refine ⟨rfl, ?_⟩
      go_wp2_with fail
      obtain ⟨xd, hxd⟩ : ∃ xd : Later W0, x1.w.drew = xd.w := ⟨⟨x1.w.drew, (x1.below).drew⟩, rfl⟩
      refine wp_region_any (by kernel_rfl) ?_
      change wpAny _ _ _ _ (1 + 10) _ _ _
      refine any_prefix (C := fun w' => ∃ x : Later W0, w' = x.w) 10 1 (by decide) (by kernel_rfl) (by kernel_rfl) (by kernel_rfl) (by kernel_rfl) (by kernel_rfl) ⟨xd, hxd⟩ ?_
      simp only [List.take_succ_cons, List.take_zero]
      clear hxd xd
      repeat (go_big_quiet_step (first | (go_at_call 299; exact calls_later (KW _))))
      refine quietE fun x5 => ?_
      refine wpAny_ready (rs := [10]) (by kernel_rfl) (by simp) ?_
      refine AllReady.cons rfl (fun K hK => ?_) AllReady.nil
      go_simp
      refine hK _ _ ?_
      clear hK K
      refine wpAny_done (by kernel_rfl) ?_ _
      rw [put4_eq]
      go_wp2_with fail
      have Z := put4_blk (v0 := .int .i64 (mk - d + 1)) (v1 := .int .i64 (k : Int)) (v2 := .int .i64 m) (v3 := .bool tw) (HR.out x5)
      have z0 := Z.cell 0 rfl
      have z1 := Z.cell 1 rfl
      have z2 := Z.cell 2 rfl
      have z3 := Z.cell 3 rfl
      rw [Exit.noGoto_ret]
      exact bodyPost_ret (by simp [results, Tryz.results270, go_sem, z0, z1, z2, z3]; try rfl) rfl ⟨by rw [HF.out], put4_below (HBl.out x5) (by omega)⟩
    · have HJ' : Hid (∀ j : Nat, j < k + 1 → markN m j < d) := by
       intro j hj
       by_cases e : j = k
       · subst e
         omega
       · exact HJ.out j (by omega)
      clear HA HE HJ KD KK
      generalize markN m k = mk at *
      go_wp2_with fail
      refine sameC (KK1 _) ?_
      go_wp2
      exact ⟨⟨k + 1, mk, by omega, by go_num, rfl, (by first | rfl | trivial), HJ'.out⟩, by simp [intOf]; omega⟩
  · have hk3 : k = 3 := by omega
    subst hk3
    have HF := hideP (HE.out HJ.out)
    clear HA HE HJ KD
    go_wp2_with fail
    refine wp_region_later (W := W0) x1.below (by kernel_rfl) (by kernel_rfl) ?_
    repeat (go_big_quiet_step (first | (go_at_call 297; exact calls_same (KB _)) | (go_at_call 298; exact calls_later (KK _))))
    refine quietE fun x4 => ?_
    go_wp2_with fail
    go_step3
    go_wp2_with fail
    obtain ⟨xd, hxd⟩ : ∃ xd : Later W0, x4.w.drew = xd.w := ⟨⟨x4.w.drew, (x4.below).drew⟩, rfl⟩
    refine wp_region_any (by kernel_rfl) ?_
    change wpAny _ _ _ _ (1 + 10) _ _ _
    refine any_prefix (C := fun w' => ∃ x : Later W0, w' = x.w) 10 1 (by decide) (by kernel_rfl) (by kernel_rfl) (by kernel_rfl) (by kernel_rfl) (by kernel_rfl) ⟨xd, hxd⟩ ?_
    simp only [List.take_succ_cons, List.take_zero]
    clear hxd xd
    repeat (go_big_quiet_step (first | (go_at_call 299; exact calls_later (KW _))))
    refine quietE fun x5 => ?_
    refine wpAny_ready (rs := [10]) (by kernel_rfl) (by simp) ?_
    refine AllReady.cons rfl (fun K hK => ?_) AllReady.nil
    go_simp
    refine hK _ _ ?_
    clear hK K
    refine wpAny_done (by kernel_rfl) ?_ _
    rw [put4_eq]
    go_wp2_with fail
    have Z := put4_blk (v0 := .int .i64 ((cd + 1) - d + 1)) (v1 := .int .i64 0) (v2 := .int .i64 (m % 12 + 1)) (v3 := .bool tw) (HR.out x5)
    have z0 := Z.cell 0 rfl
    have z1 := Z.cell 1 rfl
    have z2 := Z.cell 2 rfl
    have z3 := Z.cell 3 rfl
    refine jump_ret ?_
    exact bodyPost_ret (by simp [results, Tryz.results270, go_sem, z0, z1, z2, z3]; try rfl) rfl ⟨by rw [HF.out], put4_below (HBl.out x5) (by omega)⟩
structure Only (X : World) where
 w : World
 eq : w = X
instance (X : World) : Nonempty (Only X) := ⟨⟨X, rfl⟩⟩
theorem calls_only {P : Program} {f : FuncId} {args : Array Value} {X : World} {x : Only X} {v : Value}
    (h : Calls P f args x.w fun e w' => e = .returned v ∧ w' = x.w) : Calls P f args x.w fun e w'' => e = .returned v ∧ ∃ y : Only X, w'' = y.w :=
  h.mono fun _ _ ⟨he, hm⟩ => ⟨he, x, hm⟩
theorem Only.at {X : World} {p : Addr} {v : Value} (h : X.cell? p = some v) (x : Only X) : x.w.cell? p = some v := by rw [x.eq]; exact h
section
variable {P : Program} {ops : Array Oper} {md : Region.Mode} {C0 C1 : World → Prop}
def waitAll (md : Region.Mode) (ops : Array Oper) (N : Nat) : Bool := (List.range ops.size).all fun j => decide (j < N) || (List.range N).all fun i => ((ops[j]?).map fun o => o.after.any fun e => Region.binds md e && e.on == i).getD false
theorem wait_all {N i j : Nat} {listed : Array Bool} (hw : waitAll md ops N = true) (hi : i < N) (hun : listed.getD i true = false) (hj : j ∈ Region.ready md ops listed) : j < N := by
 rcases Nat.lt_or_ge j N with h | h
 · exact h
 · exfalso
   obtain ⟨_, o, ho, hall⟩ := mem_ready.1 hj
   have hsz : j < ops.size := (Array.getElem?_eq_some_iff.1 ho).1
   have h1 := List.all_eq_true.1 hw j (List.mem_range.2 hsz)
   simp only [Bool.or_eq_true, decide_eq_true_eq] at h1
   rcases h1 with h1 | h1
   · omega
   · have h2 := List.all_eq_true.1 h1 i (List.mem_range.2 hi)
     simp only [ho, Option.map_some, Option.getD_some] at h2
     obtain ⟨x, hx, hxe⟩ := Array.any_eq_true'.1 h2
     simp only [Bool.and_eq_true, beq_iff_eq] at hxe
     have hlx := hall x hx hxe.1
     rw [hxe.2] at hlx
     exact yes_no hlx hun
def wpM (P : Program) (md : Region.Mode) (ops : Array Oper) (C0 C1 : World → Prop) (n : Nat) (d : Tmp) (p : Value) (R : Array Bool → Act → Prop) : Nat → Bool → Array Bool → Act → Prop
  | 0, al, listed, a => al = true ∧ (∀ j, j ≤ n → listed.getD j false = true) ∧ R listed a
  | m + 1, al, listed, a => Region.ready md ops listed ≠ [] ∧ ∀ i ∈ Region.ready md ops listed, i ≤ n ∧ ((i = n ∧ al = false ∧ wpM P md ops C0 C1 n d p R m true (listed.setIfInBounds n true) (a.put (some d) p)) ∨ (i ≠ n ∧ qOp P ops (if al = true then C1 else C0) i (wpM P md ops C0 C1 n d p R m al (listed.setIfInBounds i true)) a))
theorem any_of_M {n f : Nat} {d : Tmp} {p : Value} {R : Array Bool → Act → Prop} {Q : Exit → Act → World → Prop} (hAl : ∀ a w K, C0 w → (∀ w', C1 w' → K (a.put (some d) p) w') → wpOp P ops Q n K a w) (hR : ∀ listed a w, C1 w → R listed a → wpAny P md ops Q f listed a w) :
    ∀ (m : Nat) (al : Bool) (listed : Array Bool) (a : Act) (w : World), (if al = true then C1 else C0) w → wpM P md ops C0 C1 n d p R m al listed a → wpAny P md ops Q (f + m) listed a w
  | 0, al, listed, a, w, hw, h => by
   obtain ⟨rfl, _, h3⟩ := h
   exact hR _ _ _ hw h3
  | m + 1, al, listed, a, w, hw, h => ⟨fun h0 => absurd h0 h.1, fun i hi => by
   rcases (h.2 i hi).2 with ⟨rfl, rfl, h3⟩ | ⟨_, h3⟩
   · exact hAl _ _ _ hw fun w' hw' => any_of_M hAl hR m true _ _ w' hw' h3
   · exact wpOp_of_qOp hw (fun a' w' hw' k => any_of_M hAl hR m al _ a' w' hw' k) h3⟩
theorem qOp_put2 {C : World → Prop} {j : Nat} {oi oj : Oper} {v : Value} (hj : ops[j]? = some oj) (hap : oi.apart ops oj = true)
    (hsj : ∀ cs b, oj.op ≠ .select cs b) {K : Act → Prop} {a : Act} (h : qOp P ops C j K (a.put oi.dst v)) :
    qOp P ops C j (fun a' => (∃ u, a' = a.put oj.dst u) ∧ K (a'.put oi.dst v)) a := by
  obtain ⟨h1, h2, h3⟩ := Oper.apart_spec hap
  unfold qOp at *
  simp only [hj] at *
  rw [wanted_put oj a oi.dst v h1] at h
  split
  · rename_i hw
    simp only [hw, if_true] at h
    obtain ⟨u, hu, hn⟩ := h
    refine ⟨u, fun w hw' => ?_, ⟨u, rfl⟩, by rw [← Act.put_comm a v u h2]; exact hn⟩
    have := hu w hw'
    unfold Oper.quietAt at *
    rwa [execOp_put oj hsj a oi.dst v h1] at this
  · rename_i hw
    simp only [hw] at h
    exact ⟨⟨undef, rfl⟩, by rw [← Act.put_comm a v undef h2]; exact h⟩
def Y2 (P : Program) (ops : Array Oper) (C0 C1 : World → Prop) (o : Oper) (v : Value) (a : Act) : Prop := YieldsIn P ops C0 o v a ∧ YieldsIn P ops C1 o v a
theorem Y2.of {o : Oper} {v : Value} {a : Act} (h : Y2 P ops C0 C1 o v a) (al : Bool) : YieldsIn P ops (if al = true then C1 else C0) o v a := by
 cases al
 · exact h.1
 · exact h.2
theorem M_first {n : Nat} {d : Tmp} {p : Value} {R : Array Bool → Act → Prop} (hwt : waitAll md ops (n + 1) = true) {i : Nat} {oi on : Oper} {v : Value} (hi : ops[i]? = some oi) (hin : i < n) (hn : ops[n]? = some on) (hd : on.dst = some d) (hsel : ∀ (j : Nat) (o : Oper) cs b, ops[j]? = some o → o.op ≠ .select cs b) :
    ∀ (m : Nat) (al : Bool) (listed : Array Bool) (a : Act),
     (∀ j oj, ops[j]? = some oj → j ≠ i → listed.getD j true = false → (∀ e ∈ oj.after, Region.binds md e = true → e.on ≠ i) → oi.apart ops oj = true) →
     i ∈ Region.ready md ops listed → Y2 P ops C0 C1 oi v a →
     wpM P md ops C0 C1 n d p R m al (listed.setIfInBounds i true) (a.put oi.dst v) → wpM P md ops C0 C1 n d p R (m + 1) al listed a := by
  intro m
  induction m with
  | zero =>
   intro al listed a _ hr hy H
   have hun := (mem_ready.1 hr).1
   refine ⟨fun h => (by rw [h] at hr; cases hr), fun j hj => ⟨Nat.le_of_lt_succ (wait_all hwt (by omega) hun hj), ?_⟩⟩
   by_cases hji : j = i
   · subst hji
     exact .inr ⟨by omega, (hy.of al).qOp hi H⟩
   · have h1 := H.2.1 j (Nat.le_of_lt_succ (wait_all hwt (by omega) hun hj))
     rw [getD_set_ne false (Ne.symm hji)] at h1
     exact absurd (mem_ready.1 hj).1 (fun h => yes_no h1 h)
  | succ m ih =>
   intro al listed a hfree hr hy H
   have hun := (mem_ready.1 hr).1
   refine ⟨fun h => (by rw [h] at hr; cases hr), fun j hj => ⟨Nat.le_of_lt_succ (wait_all hwt (by omega) hun hj), ?_⟩⟩
   by_cases hji : j = i
   · subst hji
     exact .inr ⟨by omega, (hy.of al).qOp hi H⟩
   · obtain ⟨hjn, h1⟩ := H.2 j (ready_mono hj hji)
     obtain ⟨hjun, oj, hoj, hall⟩ := mem_ready.1 hj
     have hnot : ∀ e ∈ oj.after, Region.binds md e = true → e.on ≠ i := fun e he hb heq => by
      have k1 := hall e he hb
      rw [heq] at k1
      exact yes_no k1 hun
     have hap := hfree j oj hoj hji hjun hnot
     obtain ⟨p1, p2, p3⟩ := Oper.apart_spec hap
     have keep : ∀ u, Y2 P ops C0 C1 oi v (a.put oj.dst u) := fun u =>
      ⟨hy.1.of_same (execOp_put oi (fun cs b => hsel i oi cs b hi) a oj.dst u p3) (wanted_put oi a oj.dst u p3), hy.2.of_same (execOp_put oi (fun cs b => hsel i oi cs b hi) a oj.dst u p3) (wanted_put oi a oj.dst u p3)⟩
     have hfree' : ∀ k ok, ops[k]? = some ok → k ≠ i → (listed.setIfInBounds j true).getD k true = false → (∀ e ∈ ok.after, Region.binds md e = true → e.on ≠ i) → oi.apart ops ok = true := fun k ok hk hki hun' hno => by
      refine hfree k ok hk hki ?_ hno
      by_cases hjk : j = k
      · subst hjk
        exact hjun
      · rw [getD_set_ne true hjk] at hun'
        exact hun'
     rcases h1 with ⟨rfl, hal, h1⟩ | ⟨hjn', h1⟩
     · obtain rfl := Option.some.inj (hoj.symm.trans hn)
       refine .inl ⟨rfl, hal, ih true (listed.setIfInBounds j true) (a.put (some d) p) hfree' (ready_mono hr (Ne.symm hji)) (by rw [← hd]; exact keep p) ?_⟩
       rw [Array.setIfInBounds_comm _ _ hji]
       rw [hd] at p2
       have := Act.put_comm a v p (y := some d) p2
       rw [← this]
       exact h1
     · refine .inr ⟨hjn', qOp_mono (fun a' h3 => ?_) (qOp_put2 hoj hap (fun cs b => hsel j oj cs b hoj) h1)⟩
       obtain ⟨⟨u, rfl⟩, h4⟩ := h3
       refine ih al (listed.setIfInBounds j true) _ hfree' (ready_mono hr (Ne.symm hji)) (keep u) ?_
       rw [Array.setIfInBounds_comm _ _ hji]
       exact h4
def wpQ2 (P : Program) (ops : Array Oper) (C0 C1 : World → Prop) (Qe : Act → Prop) : List Oper → Act → Prop
  | [], a => Qe a
  | o :: l, a => ∃ v, Y2 P ops C0 C1 o v a ∧ wpQ2 P ops C0 C1 Qe l (a.put o.dst v)
theorem M_lex {n : Nat} {d : Tmp} {p : Value} {R : Array Bool → Act → Prop} (hwt : waitAll md ops (n + 1) = true) {on : Oper} (hn : ops[n]? = some on) (hd : on.dst = some d) (haf : on.after = #[]) (hs : Region.noSelect ops = true) :
    ∀ (l : List Oper) (k : Nat) (listed : Array Bool) (a : Act), k + l.length = n → (∀ j, j < l.length → l[j]? = ops[k + j]?) → (∀ j, j < k → listed.getD j false = true) → listed.getD n true = false →
      lexP md ops l.length k listed = true → wpQ2 P ops C0 C1 (fun a' => R ((setN l.length k listed).setIfInBounds n true) (a'.put (some d) p)) l a → wpM P md ops C0 C1 n d p R (l.length + 1) false listed a
  | [], k, listed, a, hk, _, hlow, hun, _, h => by
   have hk' : k = n := by simpa using hk
   subst hk'
   have hrd : k ∈ Region.ready md ops listed := mem_ready.2 ⟨hun, on, hn, fun e he => by rw [haf] at he; simp at he⟩
   refine ⟨fun h0 => (by rw [h0] at hrd; cases hrd), fun j hj => ?_⟩
   have hjk := Nat.le_of_lt_succ (wait_all hwt (show k < k + 1 by omega) hun hj)
   refine ⟨hjk, .inl ?_⟩
   have hjk' : j = k := by
    rcases Nat.lt_or_ge j k with hlt | hge
    · exact (yes_no (hlow j hlt) (mem_ready.1 hj).1).elim
    · omega
   refine ⟨hjk', rfl, rfl, fun i hi => ?_, h⟩
   by_cases hik : k = i
   · subst hik
     have hsz : k < listed.size := by
      rcases Nat.lt_or_ge k listed.size with h' | h'
      · exact h'
      · simp [Array.getElem?_eq_none h'] at hun
     simp [hsz]
   · rw [getD_set_ne false hik]
     exact hlow i (by omega)
  | o :: l, k, listed, a, hk, hll, hlow, hun, hB, h => by
   have h0 : ops[k]? = some o := by simpa using (hll 0 (by simp)).symm
   simp only [List.length_cons] at hk
   simp only [List.length_cons, lexP, Bool.and_eq_true] at hB
   obtain ⟨⟨hr, hf⟩, hB'⟩ := hB
   have hr' : k ∈ Region.ready md ops listed := by simpa using hr
   obtain ⟨v, hy, hK⟩ := h
   refine M_first hwt h0 (by omega) hn hd (Region.noSelect_spec hs) (l.length + 1) false listed a (Region.free_spec h0 hf) hr' hy ?_
   refine M_lex hwt hn hd haf hs l (k + 1) _ _ (by omega) (fun j hj => by have := hll (j + 1) (by simpa using hj); simpa [Nat.add_assoc, Nat.add_comm 1 j] using this) (fun j hj => ?_) ?_ hB' hK
   · by_cases hjk : k = j
     · subst hjk
       have hsz : k < listed.size := by
        rcases Nat.lt_or_ge k listed.size with h' | h'
        · exact h'
        · have hu := (mem_ready.1 hr').1
          simp [Array.getElem?_eq_none h'] at hu
       simp [hsz]
     · rw [getD_set_ne false hjk]
       exact hlow j (by omega)
   · rw [getD_set_ne true (by omega)]
     exact hun
def ownDst : List Oper → Nat → Bool
  | [], _ => true
  | o :: l, s => (match o.dst with | some d => decide (d < s) && l.all fun o' => !(o'.dst == some d) | none => false) && ownDst l s
theorem put_size (a : Act) (x : Option Tmp) (v : Value) : (a.put x v).tmps.size = a.tmps.size := by
 cases x with
 | none => rfl
 | some d => show (a.tmps.setIfInBounds d v).size = _; simp
theorem quiet_keep {C : World → Prop} {A : Act} {d : Tmp} : ∀ (l : List Oper) (a : Act), (l.all fun o' => !(o'.dst == some d)) = true → wpQuiet P ops C (fun a' => a' = A) l a → A.tmps[d]? = a.tmps[d]?
  | [], a, _, h => by rw [show a = A from h]
  | o :: l, a, hl, h => by
   simp only [List.all_cons, Bool.and_eq_true, Bool.not_eq_true', beq_eq_false_iff_ne] at hl
   have hput : ∀ v, (a.put o.dst v).tmps[d]? = a.tmps[d]? := fun v => by
    cases ho : o.dst with
    | none => rfl
    | some e =>
     show (a.tmps.setIfInBounds e v)[d]? = _
     rw [Array.getElem?_setIfInBounds_ne]
     intro he
     exact hl.1 (by rw [ho, he])
   unfold wpQuiet at h
   split at h
   · obtain ⟨v, _, h2⟩ := h
     rw [quiet_keep l _ hl.2 h2, hput]
   · rw [quiet_keep l _ hl.2 h, hput]
theorem Q2_of_quiet {A : Act} : ∀ (l : List Oper) (a : Act), ownDst l a.tmps.size = true → wpQuiet P ops C0 (fun a' => a' = A) l a → wpQuiet P ops C1 (fun a' => a' = A) l a → wpQ2 P ops C0 C1 (fun a' => a' = A) l a
  | [], _, _, h, _ => h
  | o :: l, a, hd, h0, h1 => by
   unfold ownDst at hd
   simp only [Bool.and_eq_true] at hd
   obtain ⟨hd1, hd2⟩ := hd
   cases ho : o.dst with
   | none => rw [ho] at hd1; simp at hd1
   | some e =>
    rw [ho] at hd1
    simp only [Bool.and_eq_true, decide_eq_true_eq] at hd1
    obtain ⟨hlt, hall⟩ := hd1
    have hat : ∀ v, (a.put o.dst v).tmps[e]? = some v := fun v => by
     rw [ho]
     show (a.tmps.setIfInBounds e v)[e]? = _
     simp [hlt]
    unfold wpQuiet at h0 h1
    by_cases hw : Region.wanted o (yielded ops a.tmps) = true
    · rw [if_pos hw] at h0 h1
      obtain ⟨v, hv, h0'⟩ := h0
      obtain ⟨u, hu, h1'⟩ := h1
      have e1 := (quiet_keep l _ hall h0').trans (hat v)
      have e2 := (quiet_keep l _ hall h1').trans (hat u)
      obtain rfl : v = u := Option.some.inj (e1.symm.trans e2)
      exact ⟨v, ⟨.inl ⟨hw, hv⟩, .inl ⟨hw, hu⟩⟩, Q2_of_quiet l _ (by rw [put_size]; exact hd2) h0' h1'⟩
    · rw [if_neg hw] at h0 h1
      exact ⟨undef, ⟨.inr ⟨by simpa using hw, rfl⟩, .inr ⟨by simpa using hw, rfl⟩⟩, Q2_of_quiet l _ (by rw [put_size]; exact hd2) h0 h1⟩
theorem Q2_mono {Q1 Q2 : Act → Prop} (hq : ∀ a, Q1 a → Q2 a) : ∀ (l : List Oper) (a : Act), wpQ2 P ops C0 C1 Q1 l a → wpQ2 P ops C0 C1 Q2 l a
  | [], _, h => hq _ h
  | _ :: l, _, ⟨v, h1, h2⟩ => ⟨v, h1, Q2_mono hq l _ h2⟩
end
theorem any_alloc {P : Program} {Q : Exit → Act → World → Prop} {big : List Oper} (n f : Nat) (d : Tmp) {on : Oper} {p : Value} {a A : Act} {W W1 : World} (hlen : n < big.length) (hn : big.toArray[n]? = some on) (hd : on.dst = some d) (haf : on.after = #[]) (hs : Region.noSelect big.toArray = true)
    (hB : lexP .any big.toArray n 0 (Array.replicate big.length false) = true) (hwt : waitAll .any big.toArray (n + 1) = true) (hown : ownDst (big.take n) a.tmps.size = true)
    (hAl : ∀ a K, K (a.put (some d) p) W1 → wpOp P big.toArray Q n K a W)
    (hq : ∀ X, X = W ∨ X = W1 → wpQuiet P big.toArray (fun w' => ∃ x : Only X, w' = x.w) (fun a' => a' = A) (big.take n) a)
    (h : wpAny P .any big.toArray Q f ((setN n 0 (Array.replicate big.length false)).setIfInBounds n true) (A.put (some d) p) W1) : wpAny P .any big.toArray Q (f + (n + 1)) (Array.replicate big.length false) a W := by
  have hl : (big.take n).length = n := by rw [List.length_take]; omega
  have h2 := Q2_of_quiet (big.take n) a hown (hq W (.inl rfl)) (hq W1 (.inr rfl))
  have hm := M_lex (P := P) (md := .any) (ops := big.toArray) (C0 := fun w' => ∃ x : Only W, w' = x.w) (C1 := fun w' => ∃ x : Only W1, w' = x.w) (d := d) (p := p) (R := fun listed a => wpAny P .any big.toArray Q f listed a W1) hwt hn hd haf hs (big.take n) 0 (Array.replicate big.length false) a (by omega)
    (fun j hj => by rw [hl] at hj; simp [hj]) (fun j hj => by omega) (by simp [hlen]) (by rw [hl]; exact hB) (Q2_mono (fun a' e => by rw [e, hl]; exact h) _ _ h2)
  rw [hl] at hm
  exact any_of_M (C0 := fun w' => ∃ x : Only W, w' = x.w) (C1 := fun w' => ∃ x : Only W1, w' = x.w) (R := fun listed a => wpAny P .any big.toArray Q f listed a W1) (fun a w K ⟨x, hx⟩ hK => by rw [hx, x.eq]; exact hAl a K (hK W1 ⟨⟨W1, rfl⟩, rfl⟩)) (fun listed a w ⟨x, hx⟩ hR => by rw [hx, x.eq]; exact hR) (n + 1) false _ a W ⟨⟨W, rfl⟩, rfl⟩ hm
section
variable {P : Program} {ops : Array Oper} {md : Region.Mode} {C : World → Prop}
theorem mixA_first {N : Nat} {R : Array Bool → Act → Prop} (hRl : ∀ listed a, R listed a → ∀ j, j < N → listed.getD j false = true) (hwt : waitAll md ops N = true) {i : Nat} {oi : Oper} {v : Value} (hi : ops[i]? = some oi) (hN : i < N) (hsel : ∀ (j : Nat) (o : Oper) cs b, ops[j]? = some o → o.op ≠ .select cs b) :
    ∀ (m : Nat) (listed : Array Bool) (a : Act),
     (∀ j oj, ops[j]? = some oj → j ≠ i → listed.getD j true = false → (∀ e ∈ oj.after, Region.binds md e = true → e.on ≠ i) → oi.apart ops oj = true) →
     i ∈ Region.ready md ops listed → YieldsIn P ops C oi v a →
     wpMix P md ops C N R m (listed.setIfInBounds i true) (a.put oi.dst v) → wpMix P md ops C N R (m + 1) listed a := by
  intro m
  induction m with
  | zero =>
   intro listed a _ hr hy H
   have hun := (mem_ready.1 hr).1
   refine ⟨fun h => (by rw [h] at hr; cases hr), fun j hj => ?_⟩
   have hjN := wait_all hwt hN hun hj
   by_cases hji : j = i
   · subst hji
     exact ⟨hjN, hy.qOp hi H⟩
   · have h1 := hRl _ _ H j hjN
     rw [getD_set_ne false (Ne.symm hji)] at h1
     exact absurd (mem_ready.1 hj).1 (fun h => yes_no h1 h)
  | succ m ih =>
   intro listed a hfree hr hy H
   refine ⟨fun h => (by rw [h] at hr; cases hr), fun j hj => ?_⟩
   by_cases hji : j = i
   · subst hji
     exact ⟨hN, hy.qOp hi H⟩
   · obtain ⟨hjN, h1⟩ := H.2 j (ready_mono hj hji)
     refine ⟨hjN, ?_⟩
     obtain ⟨hjun, oj, hoj, hall⟩ := mem_ready.1 hj
     have hnot : ∀ e ∈ oj.after, Region.binds md e = true → e.on ≠ i := fun e he hb heq => by
      have k1 := hall e he hb
      rw [heq] at k1
      exact yes_no k1 (mem_ready.1 hr).1
     have h2 := qOp_put hoj (hfree j oj hoj hji hjun hnot) (fun cs b => hsel i oi cs b hi) (fun cs b => hsel j oj cs b hoj) hy h1
     have hfree' : ∀ k ok, ops[k]? = some ok → k ≠ i → (listed.setIfInBounds j true).getD k true = false → (∀ e ∈ ok.after, Region.binds md e = true → e.on ≠ i) → oi.apart ops ok = true := fun k ok hk hki hun hno => by
      refine hfree k ok hk hki ?_ hno
      by_cases hjk : j = k
      · subst hjk
        exact hjun
      · rw [getD_set_ne true hjk] at hun
        exact hun
     refine qOp_mono (fun a' h3 => ih (listed.setIfInBounds j true) a' hfree' (ready_mono hr (Ne.symm hji)) h3.1 ?_) h2
     rw [Array.setIfInBounds_comm _ _ hji]
     exact h3.2
theorem mixA_lex {N : Nat} {R : Array Bool → Act → Prop} (hRl : ∀ listed a, R listed a → ∀ j, j < N → listed.getD j false = true) (hwt : waitAll md ops N = true) (hs : Region.noSelect ops = true) : ∀ (l : List Oper) (k : Nat) (listed : Array Bool) (a : Act), k + l.length ≤ N → (∀ j, j < l.length → l[j]? = ops[k + j]?) →
    lexP md ops l.length k listed = true → wpQuiet P ops C (fun a' => R (setN l.length k listed) a') l a → wpMix P md ops C N R l.length listed a
  | [], _, _, _, _, _, _, h => h
  | o :: l, k, listed, a, hk, hll, hB, h => by
   have h0 : ops[k]? = some o := by simpa using (hll 0 (by simp)).symm
   simp only [List.length_cons] at hk
   simp only [List.length_cons, lexP, Bool.and_eq_true] at hB
   obtain ⟨⟨hr, hf⟩, hB'⟩ := hB
   have hr' : k ∈ Region.ready md ops listed := by simpa using hr
   have hst : qOp P ops C k (wpQuiet P ops C (fun a' => R (setN (o :: l).length k listed) a') l) a := by unfold qOp; simp only [h0]; exact h
   obtain ⟨v, hy, hK⟩ := yieldsIn_of_qOp h0 hst
   exact mixA_first hRl hwt h0 (by omega) (Region.noSelect_spec hs) l.length listed a (Region.free_spec h0 hf) hr' hy
     (mixA_lex hRl hwt hs l (k + 1) _ _ (by omega) (fun j hj => by have := hll (j + 1) (by simpa using hj); simpa [Nat.add_assoc, Nat.add_comm 1 j] using this) hB' hK)
end
theorem any_prefixA {P : Program} {C : World → Prop} {Q : Exit → Act → World → Prop} {big : List Oper} (n f : Nat) {a : Act} {w : World} (hn : n ≤ big.length) (hs : Region.noSelect big.toArray = true) (hB : lexP .any big.toArray n 0 (Array.replicate big.length false) = true) (hwt : waitAll .any big.toArray n = true)
    (hA : ((List.range n).all fun j => (setN n 0 (Array.replicate big.length false)).getD j false) = true) (hw : C w)
    (h : wpQuiet P big.toArray C (fun a' => ∀ w', C w' → wpAny P .any big.toArray Q f (setN n 0 (Array.replicate big.length false)) a' w') (big.take n) a) : wpAny P .any big.toArray Q (f + n) (Array.replicate big.length false) a w := by
  have hlen : (big.take n).length = n := by rw [List.length_take]; omega
  have hAll : ∀ j, j < n → (setN n 0 (Array.replicate big.length false)).getD j false = true := fun j hj => List.all_eq_true.1 hA j (List.mem_range.2 hj)
  have hm := mixA_lex (P := P) (md := .any) (ops := big.toArray) (C := C) (N := n) (R := fun listed a => (∀ j, j < n → listed.getD j false = true) ∧ ∀ w', C w' → wpAny P .any big.toArray Q f listed a w') (fun _ _ h => h.1) hwt hs (big.take n) 0 (Array.replicate big.length false) a (by omega)
    (fun j hj => by rw [hlen] at hj; simp [hj]) (by rw [hlen]; exact hB)
    (by rw [hlen]; exact wpQuiet_mono (fun a' h => ⟨hAll, h⟩) _ _ h)
  rw [hlen] at hm
  exact wpAny_of_mix (N := n) (R := fun listed a => (∀ j, j < n → listed.getD j false = true) ∧ ∀ w', C w' → wpAny P .any big.toArray Q f listed a w') (fun _ _ w h1 h2 => h2.2 w h1) n _ a w hw hm
end Go.Proofs.YtpclaceefapppaaGreatDoor.ctr
namespace Go.Proofs.YtpclaceefapppaaGreatDoor.kit
end Go.Proofs.YtpclaceefapppaaGreatDoor.kit
namespace Go.Proofs.YtpclaceefapppaaGreatDoor.ctr
open Go.RowKit
end Go.Proofs.YtpclaceefapppaaGreatDoor.ctr
