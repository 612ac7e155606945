/- Small plain laws, and the contract of the model's l01In (a ≤ x ≤ b), at every three ints; and what else the law reaches. -/
import Derived.Test.YtdmlhiailjnhcaaGreatDoorRows
import Derived.WalkKit
import Derived.WalkLawsBesides
import Derived.WalkSpells
import Derived.ProofKit
import Derived.OpenShut
import Derived.Below
import Derived.WalkSmall
import Derived.Sort.Grow
import Derived.Deep.QuietTactic
import Derived.BigQuiet
import Derived.Handy
import Derived.Deep.RegionWith
namespace Go.Proofs.YtdmlhiailjnhcaaGreatDoor.ctr
open Go.RowKit
abbrev CR (f : FuncId) (a : Array Value) (w : World) (v : Value) : Prop := Calls Tryz.prog f a w fun e w' => e = .returned v ∧ Below w.heap.size w w'
theorem ret_bool {a b : Bool} (h : a = b) : Ending.returned (.bool a) = .returned (.bool b) := by rw [h]
theorem ret_int {k : IntKind} {a b : Int} (h : a = b) : Ending.returned (.int k a) = .returned (.int k b) := by rw [h]
theorem ret_str {a b : ByteArray} (h : a = b) : Ending.returned (.string a) = .returned (.string b) := by rw [h]
theorem str_eq {a b : ByteArray} (h : (a.toList == b.toList) = true) : a = b := by
 rw [ByteArray.toList_eq, ByteArray.toList_eq, beq_iff_eq] at h
 exact WideShapes.bytes_inj h
theorem str_ne {a b : ByteArray} (h : (a.toList == b.toList) = false) : a ≠ b := by
 rintro rfl
 simp at h
theorem byte64 (c : UInt8) : wrap64 (c.toNat : Int) = (c.toNat : Int) := by
 have := c.toNat_lt
 unfold wrap64
 omega
theorem take_snoc (s : ByteArray) (k : Nat) (h : k < s.size) : s.data.toList.take (k + 1) = s.data.toList.take k ++ [s[k]] := by
 rw [List.take_succ_eq_append_getElem (by simpa using h)]; rfl
theorem below_grown (w : World) (q : Nat) (os : Array Obj) : Below w.heap.size w (Sort.grow (w.drewN q) os) := by
 refine ⟨rfl, rfl, rfl, ?_, fun k hk => ?_⟩
 · show w.heap.size ≤ (w.heap ++ os).size
   simp
 · show (w.heap ++ os)[k]? = w.heap[k]?
   rw [Array.getElem?_append_left hk]
def inB (x a b : Int) : Bool := decide (a ≤ x) && decide (x ≤ b)
theorem inB_true {x a b : Int} (h1 : a ≤ x) (h2 : x ≤ b) : inB x a b = true := by simp [inB, h1, h2]
theorem inB_false {x a b : Int} (h : x < a ∨ b < x) : inB x a b = false := by
 rcases h with h | h
 · simp [inB, show ¬ a ≤ x from by omega]
 · simp [inB, show ¬ x ≤ b from by omega]
theorem l01In (x a b : Int) (w : World) :
    Calls Tryz.prog 45 #[.int .i64 x, .int .i64 a, .int .i64 b] w fun e w' => e = .returned (.bool (inB x a b)) ∧ w' = w := by
  by_cases h1 : a ≤ x
  · by_cases h2 : x ≤ b
    · rw [inB_true h1 h2]
      go_enter Tryz.func45, Tryz.ntmps45
      go_wp2
      go_ret
      exact ⟨rfl, rfl⟩
    · rw [inB_false (.inr (by omega))]
      go_enter Tryz.func45, Tryz.ntmps45
      go_wp2
      go_ret
      exact ⟨rfl, rfl⟩
  · rw [inB_false (.inl (by omega))]
    go_enter Tryz.func45, Tryz.ntmps45
    go_wp2
    go_ret
    exact ⟨rfl, rfl⟩
theorem hideP {p : Prop} (h : p) : Hid p := h
structure Later (W : World) where
 w : World
 below : Below W.heap.size W w
instance (W : World) : Nonempty (Later W) := ⟨⟨W, Below.refl _ _⟩⟩
theorem Later.of {W w' : World} (h : Below W.heap.size W w') : ∃ x : Later W, w' = x.w := ⟨⟨w', h⟩, rfl⟩
theorem Later.on {W w' : World} (x : Later W) (h : Below x.w.heap.size x.w w') : Below W.heap.size W w' := x.below.trans (h.mono x.below.size)
theorem Later.next {W w' : World} (x : Later W) (h : Below x.w.heap.size x.w w') : ∃ y : Later W, w' = y.w := ⟨⟨w', x.on h⟩, rfl⟩
theorem Later.cell {W : World} (x : Later W) {p : Addr} (hp : p.block < W.heap.size) : x.w.cell? p = W.cell? p := x.below.cell hp
theorem Later.at {W : World} {p : Addr} {v : Value} (h : W.cell? p = some v) (x : Later W) : x.w.cell? p = some v := by
 have hp : p.block < W.heap.size := by
  unfold World.cell? at h
  by_cases hp : p.block < W.heap.size
  · exact hp
  · rw [Array.getElem?_eq_none (by omega)] at h
    simp at h
 rw [x.cell hp, h]
theorem lat {P : Program} {f : FuncId} {a : Array Value} {W : World} {x : Later W} {v : Value} {Q : Ending → World → Prop} (h : Calls P f a x.w fun e w' => e = .returned v ∧ Below x.w.heap.size x.w w') (k : ∀ y : Later W, Q (.returned v) y.w) : Calls P f a x.w Q :=
 h.mono fun _ _ ⟨he, hm⟩ => by
  subst he
  exact k ⟨_, x.on hm⟩
theorem latO {P : Program} {f : FuncId} {a : Array Value} {W : World} {v : Value} {Q : Ending → World → Prop} (h : Calls P f a W fun e w' => e = .returned v ∧ Below W.heap.size W w') (k : ∀ y : Later W, Q (.returned v) y.w) : Calls P f a W Q :=
 h.mono fun _ _ ⟨he, hm⟩ => by
  subst he
  exact k ⟨_, hm⟩
theorem calls_later {P : Program} {f : FuncId} {args : Array Value} {W : World} {x : Later W} {v : Value}
    (h : Calls P f args x.w fun e w' => e = .returned v ∧ Below x.w.heap.size x.w w') : Calls P f args x.w fun e w'' => e = .returned v ∧ ∃ y : Later W, w'' = y.w :=
  h.mono fun _ _ ⟨he, hm⟩ => ⟨he, x.next hm⟩
theorem calls_same {P : Program} {f : FuncId} {args : Array Value} {W : World} {x : Later W} {v : Value}
    (h : Calls P f args x.w fun e w' => e = .returned v ∧ w' = x.w) : Calls P f args x.w fun e w'' => e = .returned v ∧ ∃ y : Later W, w'' = y.w :=
  h.mono fun _ _ ⟨he, hm⟩ => ⟨he, x, hm⟩
theorem wp_region_later {P : Program} {id : Nat} {Q : Exit → Act → World → Prop} {a : Act} {W w : World} {l : List Oper} (hw : Below W.heap.size W w) (hm : P.follows .mixedOrders = true) (hB : Region.lexB .any l.toArray = true)
    (h : wpQuiet P l.toArray (fun w' => ∃ x : Later W, w' = x.w) (fun a' => ∀ w', (∃ x : Later W, w' = x.w) → Q .normal a' w') l a) : (Code.region id l.toArray true).wp P Q a w :=
  wp_region_quiet (C := fun w' => ∃ x : Later W, w' = x.w) hm hB (Later.of hw.drew) (by simpa using h)
theorem Below_drewN {B : Nat} {a w : World} (h : Below B a w) (n : Nat) : Below B a (w.drewN n) := ⟨h.os, h.tape, h.output, h.size, h.block⟩
theorem below_alloc {w w1 : World} {o : Obj} (h : Below (w.alloc o).heap.size (w.alloc o) w1) : Below w.heap.size w w1 :=
 ((Below.refl w.heap.size w).alloc (Nat.le_refl _) o).trans (h.mono (by rw [World.size_alloc]; omega))
theorem below_of_alloc {w w1 W0 : World} {o : Obj} (e : W0 = w.alloc o) (h : Below W0.heap.size W0 w1) : Below w.heap.size w w1 := by
 subst e
 exact below_alloc h
theorem Later.new {w W0 : World} {cs : Array Value} {t : TypeId} (e : W0 = w.alloc (.cells cs t)) (i : Nat) {v : Value} (h : cs[i]? = some v) (x : Later W0) : x.w.cell? ⟨w.heap.size, i, none⟩ = some v :=
 Later.at (by rw [e, World.cell?_alloc_at _ _ _ _ rfl]; exact h) x
def Blk (w : World) (b : Nat) (vs : Array Value) (t : TypeId) : Prop := w.heap[b]? = some (.cells vs t)
theorem Blk.cell {w : World} {b : Nat} {vs : Array Value} {t : TypeId} (h : Blk w b vs t) (i : Nat) {v : Value} (hv : vs[i]? = some v) : w.cell? ⟨b, i, none⟩ = some v := by
 unfold Blk at h
 simp [World.cell?, h, hv]
theorem Blk.thaw {w : World} {b : Nat} {vs : Array Value} {t : TypeId} (h : Blk w b vs t) (i : Nat) : w.frozen? ⟨b, i, none⟩ = false := by
 unfold Blk at h
 simp [World.frozen?, h]
theorem Blk.lt {w : World} {b : Nat} {vs : Array Value} {t : TypeId} (h : Blk w b vs t) : b < w.heap.size := by
 unfold Blk at h
 by_cases hb : b < w.heap.size
 · exact hb
 · rw [Array.getElem?_eq_none (by omega)] at h
   cases h
theorem Blk.below {B : Nat} {w w' : World} {b : Nat} {vs : Array Value} {t : TypeId} (h : Blk w b vs t) (hb : Below B w w') (hB : b < B) : Blk w' b vs t := (hb.block b hB).trans h
theorem Blk.later {W : World} {b : Nat} {vs : Array Value} {t : TypeId} (h : Blk W b vs t) (x : Later W) : Blk x.w b vs t := h.below x.below h.lt
theorem Blk.set {w : World} {b : Nat} {vs : Array Value} {t : TypeId} (h : Blk w b vs t) (i : Nat) (v : Value) : Blk (w.setCell ⟨b, i, none⟩ v) b (vs.setIfInBounds i v) t := by
 unfold Blk at *
 simp [World.setCell, Array.getElem?_modify, h]
theorem Blk.other {w : World} {b b' i : Nat} {v : Value} {vs : Array Value} {t : TypeId} (h : Blk w b vs t) (hn : b' ≠ b) : Blk (w.setCell ⟨b', i, none⟩ v) b vs t := by
 unfold Blk at *
 rw [Below.heap_setCell w ⟨b', i, none⟩ v b (fun e => hn e.symm)]
 exact h
theorem Blk.new (w : World) (vs : Array Value) (t : TypeId) : Blk (w.alloc (.cells vs t)) w.heap.size vs t := by
 show (w.heap.push (.cells vs t))[w.heap.size]? = _
 simp
theorem Later.fresh {W : World} (x : Later W) (o : Array Value) (t : TypeId) : ∃ y : Later W, x.w.alloc (.cells o t) = y.w ∧ Hid (Blk y.w x.w.heap.size o t) :=
 ⟨⟨_, x.below.alloc x.below.size _⟩, rfl, Blk.new _ _ _⟩
theorem Blk.alloc {w : World} {b : Nat} {vs : Array Value} {t : TypeId} (h : Blk w b vs t) (o : Obj) : Blk (w.alloc o) b vs t := (Below.heap_alloc w o b h.lt).trans h
theorem Blk.drew {w : World} {b : Nat} {vs : Array Value} {t : TypeId} (h : Blk w b vs t) : Blk w.drew b vs t := h
theorem Blk.drewN {w : World} {b : Nat} {vs : Array Value} {t : TypeId} (h : Blk w b vs t) (n : Nat) : Blk (w.drewN n) b vs t := h
theorem below_store {W w : World} (h : Below W.heap.size W w) {b i : Nat} (v : Value) (hb : W.heap.size ≤ b) : Below W.heap.size W (w.setCell ⟨b, i, none⟩ v) := h.setCell (p := ⟨b, i, none⟩) hb v
theorem cells2 {W : World} {b : Nat} {v0 v1 : Value} {t : TypeId} (h : ∀ x : Later W, Blk x.w b #[v0, v1] t) : (∀ x : Later W, x.w.cell? ⟨b, 0, none⟩ = some v0) ∧ (∀ x : Later W, x.w.cell? ⟨b, 1, none⟩ = some v1) :=
 ⟨fun x => (h x).cell 0 rfl, fun x => (h x).cell 1 rfl⟩
theorem Blk.cells2 {w : World} {b : Nat} {v0 v1 : Value} {t : TypeId} (h : Blk w b #[v0, v1] t) : w.cell? ⟨b, 0, none⟩ = some v0 ∧ w.cell? ⟨b, 1, none⟩ = some v1 :=
 ⟨h.cell 0 rfl, h.cell 1 rfl⟩
theorem cells4 {W : World} {b : Nat} {v0 v1 v2 v3 : Value} {t : TypeId} (h : ∀ x : Later W, Blk x.w b #[v0, v1, v2, v3] t) : (∀ x : Later W, x.w.cell? ⟨b, 0, none⟩ = some v0) ∧ (∀ x : Later W, x.w.cell? ⟨b, 1, none⟩ = some v1) ∧ (∀ x : Later W, x.w.cell? ⟨b, 2, none⟩ = some v2) ∧ (∀ x : Later W, x.w.cell? ⟨b, 3, none⟩ = some v3) :=
 ⟨fun x => (h x).cell 0 rfl, fun x => (h x).cell 1 rfl, fun x => (h x).cell 2 rfl, fun x => (h x).cell 3 rfl⟩
theorem thaws4 {W : World} {b : Nat} {vs : Array Value} {t : TypeId} (h : ∀ x : Later W, Blk x.w b vs t) : (∀ x : Later W, x.w.frozen? ⟨b, 0, none⟩ = false) ∧ (∀ x : Later W, x.w.frozen? ⟨b, 1, none⟩ = false) ∧ (∀ x : Later W, x.w.frozen? ⟨b, 2, none⟩ = false) ∧ (∀ x : Later W, x.w.frozen? ⟨b, 3, none⟩ = false) :=
 ⟨fun x => (h x).thaw 0, fun x => (h x).thaw 1, fun x => (h x).thaw 2, fun x => (h x).thaw 3⟩
theorem Blk.cells4 {w : World} {b : Nat} {v0 v1 v2 v3 : Value} {t : TypeId} (h : Blk w b #[v0, v1, v2, v3] t) : w.cell? ⟨b, 0, none⟩ = some v0 ∧ w.cell? ⟨b, 1, none⟩ = some v1 ∧ w.cell? ⟨b, 2, none⟩ = some v2 ∧ w.cell? ⟨b, 3, none⟩ = some v3 :=
 ⟨h.cell 0 rfl, h.cell 1 rfl, h.cell 2 rfl, h.cell 3 rfl⟩
theorem ret4 {P : Program} {fn : Func} {R : Ending → World → Prop} {a : Act} {V w : World} {b : Nat} {v0 v1 v2 v3 u0 u1 u2 u3 v : Value} {t : TypeId} (h : Blk w b #[u0, u1, u2, u3] t) (hb : Below V.heap.size V w) (hl : V.heap.size ≤ b) (hd : a.defers = []) (H : ∀ W, W.cell? ⟨b, 0, none⟩ = some v0 → W.cell? ⟨b, 1, none⟩ = some v1 → W.cell? ⟨b, 2, none⟩ = some v2 → W.cell? ⟨b, 3, none⟩ = some v3 → Below V.heap.size V W → (results fn a.tmps).run P W = .ok v W ∧ R (.returned v) W) : bodyPost P fn R .ret a ((((w.setCell ⟨b, 0, none⟩ v0).setCell ⟨b, 1, none⟩ v1).setCell ⟨b, 2, none⟩ v2).setCell ⟨b, 3, none⟩ v3) := by
 have a0 : Blk (w.setCell ⟨b, 0, none⟩ v0) b #[v0, u1, u2, u3] t := h.set 0 v0
 have a1 : Blk ((w.setCell ⟨b, 0, none⟩ v0).setCell ⟨b, 1, none⟩ v1) b #[v0, v1, u2, u3] t := a0.set 1 v1
 have a2 : Blk (((w.setCell ⟨b, 0, none⟩ v0).setCell ⟨b, 1, none⟩ v1).setCell ⟨b, 2, none⟩ v2) b #[v0, v1, v2, u3] t := a1.set 2 v2
 have hz : Blk ((((w.setCell ⟨b, 0, none⟩ v0).setCell ⟨b, 1, none⟩ v1).setCell ⟨b, 2, none⟩ v2).setCell ⟨b, 3, none⟩ v3) b #[v0, v1, v2, v3] t := a2.set 3 v3
 have q := H _ (hz.cell 0 rfl) (hz.cell 1 rfl) (hz.cell 2 rfl) (hz.cell 3 rfl) (below_store (below_store (below_store (below_store hb _ hl) _ hl) _ hl) _ hl)
 exact bodyPost_ret q.1 hd q.2
theorem cells5 {W : World} {b : Nat} {v0 v1 v2 v3 v4 : Value} {t : TypeId} (h : ∀ x : Later W, Blk x.w b #[v0, v1, v2, v3, v4] t) : (∀ x : Later W, x.w.cell? ⟨b, 0, none⟩ = some v0) ∧ (∀ x : Later W, x.w.cell? ⟨b, 1, none⟩ = some v1) ∧ (∀ x : Later W, x.w.cell? ⟨b, 2, none⟩ = some v2) ∧ (∀ x : Later W, x.w.cell? ⟨b, 3, none⟩ = some v3) ∧ (∀ x : Later W, x.w.cell? ⟨b, 4, none⟩ = some v4) :=
 ⟨fun x => (h x).cell 0 rfl, fun x => (h x).cell 1 rfl, fun x => (h x).cell 2 rfl, fun x => (h x).cell 3 rfl, fun x => (h x).cell 4 rfl⟩
theorem thaws5 {W : World} {b : Nat} {vs : Array Value} {t : TypeId} (h : ∀ x : Later W, Blk x.w b vs t) : (∀ x : Later W, x.w.frozen? ⟨b, 0, none⟩ = false) ∧ (∀ x : Later W, x.w.frozen? ⟨b, 1, none⟩ = false) ∧ (∀ x : Later W, x.w.frozen? ⟨b, 2, none⟩ = false) ∧ (∀ x : Later W, x.w.frozen? ⟨b, 3, none⟩ = false) ∧ (∀ x : Later W, x.w.frozen? ⟨b, 4, none⟩ = false) :=
 ⟨fun x => (h x).thaw 0, fun x => (h x).thaw 1, fun x => (h x).thaw 2, fun x => (h x).thaw 3, fun x => (h x).thaw 4⟩
theorem Blk.cells5 {w : World} {b : Nat} {v0 v1 v2 v3 v4 : Value} {t : TypeId} (h : Blk w b #[v0, v1, v2, v3, v4] t) : w.cell? ⟨b, 0, none⟩ = some v0 ∧ w.cell? ⟨b, 1, none⟩ = some v1 ∧ w.cell? ⟨b, 2, none⟩ = some v2 ∧ w.cell? ⟨b, 3, none⟩ = some v3 ∧ w.cell? ⟨b, 4, none⟩ = some v4 :=
 ⟨h.cell 0 rfl, h.cell 1 rfl, h.cell 2 rfl, h.cell 3 rfl, h.cell 4 rfl⟩
theorem ret5 {P : Program} {fn : Func} {R : Ending → World → Prop} {a : Act} {V w : World} {b : Nat} {v0 v1 v2 v3 v4 u0 u1 u2 u3 u4 v : Value} {t : TypeId} (h : Blk w b #[u0, u1, u2, u3, u4] t) (hb : Below V.heap.size V w) (hl : V.heap.size ≤ b) (hd : a.defers = []) (H : ∀ W, W.cell? ⟨b, 0, none⟩ = some v0 → W.cell? ⟨b, 1, none⟩ = some v1 → W.cell? ⟨b, 2, none⟩ = some v2 → W.cell? ⟨b, 3, none⟩ = some v3 → W.cell? ⟨b, 4, none⟩ = some v4 → Below V.heap.size V W → (results fn a.tmps).run P W = .ok v W ∧ R (.returned v) W) : bodyPost P fn R .ret a (((((w.setCell ⟨b, 0, none⟩ v0).setCell ⟨b, 1, none⟩ v1).setCell ⟨b, 2, none⟩ v2).setCell ⟨b, 3, none⟩ v3).setCell ⟨b, 4, none⟩ v4) := by
 have a0 : Blk (w.setCell ⟨b, 0, none⟩ v0) b #[v0, u1, u2, u3, u4] t := h.set 0 v0
 have a1 : Blk ((w.setCell ⟨b, 0, none⟩ v0).setCell ⟨b, 1, none⟩ v1) b #[v0, v1, u2, u3, u4] t := a0.set 1 v1
 have a2 : Blk (((w.setCell ⟨b, 0, none⟩ v0).setCell ⟨b, 1, none⟩ v1).setCell ⟨b, 2, none⟩ v2) b #[v0, v1, v2, u3, u4] t := a1.set 2 v2
 have a3 : Blk ((((w.setCell ⟨b, 0, none⟩ v0).setCell ⟨b, 1, none⟩ v1).setCell ⟨b, 2, none⟩ v2).setCell ⟨b, 3, none⟩ v3) b #[v0, v1, v2, v3, u4] t := a2.set 3 v3
 have hz : Blk (((((w.setCell ⟨b, 0, none⟩ v0).setCell ⟨b, 1, none⟩ v1).setCell ⟨b, 2, none⟩ v2).setCell ⟨b, 3, none⟩ v3).setCell ⟨b, 4, none⟩ v4) b #[v0, v1, v2, v3, v4] t := a3.set 4 v4
 have q := H _ (hz.cell 0 rfl) (hz.cell 1 rfl) (hz.cell 2 rfl) (hz.cell 3 rfl) (hz.cell 4 rfl) (below_store (below_store (below_store (below_store (below_store hb _ hl) _ hl) _ hl) _ hl) _ hl)
 exact bodyPost_ret q.1 hd q.2
theorem cells6 {W : World} {b : Nat} {v0 v1 v2 v3 v4 v5 : Value} {t : TypeId} (h : ∀ x : Later W, Blk x.w b #[v0, v1, v2, v3, v4, v5] t) : (∀ x : Later W, x.w.cell? ⟨b, 0, none⟩ = some v0) ∧ (∀ x : Later W, x.w.cell? ⟨b, 1, none⟩ = some v1) ∧ (∀ x : Later W, x.w.cell? ⟨b, 2, none⟩ = some v2) ∧ (∀ x : Later W, x.w.cell? ⟨b, 3, none⟩ = some v3) ∧ (∀ x : Later W, x.w.cell? ⟨b, 4, none⟩ = some v4) ∧ (∀ x : Later W, x.w.cell? ⟨b, 5, none⟩ = some v5) :=
 ⟨fun x => (h x).cell 0 rfl, fun x => (h x).cell 1 rfl, fun x => (h x).cell 2 rfl, fun x => (h x).cell 3 rfl, fun x => (h x).cell 4 rfl, fun x => (h x).cell 5 rfl⟩
theorem Blk.cells6 {w : World} {b : Nat} {v0 v1 v2 v3 v4 v5 : Value} {t : TypeId} (h : Blk w b #[v0, v1, v2, v3, v4, v5] t) : w.cell? ⟨b, 0, none⟩ = some v0 ∧ w.cell? ⟨b, 1, none⟩ = some v1 ∧ w.cell? ⟨b, 2, none⟩ = some v2 ∧ w.cell? ⟨b, 3, none⟩ = some v3 ∧ w.cell? ⟨b, 4, none⟩ = some v4 ∧ w.cell? ⟨b, 5, none⟩ = some v5 :=
 ⟨h.cell 0 rfl, h.cell 1 rfl, h.cell 2 rfl, h.cell 3 rfl, h.cell 4 rfl, h.cell 5 rfl⟩
theorem cells7 {W : World} {b : Nat} {v0 v1 v2 v3 v4 v5 v6 : Value} {t : TypeId} (h : ∀ x : Later W, Blk x.w b #[v0, v1, v2, v3, v4, v5, v6] t) : (∀ x : Later W, x.w.cell? ⟨b, 0, none⟩ = some v0) ∧ (∀ x : Later W, x.w.cell? ⟨b, 1, none⟩ = some v1) ∧ (∀ x : Later W, x.w.cell? ⟨b, 2, none⟩ = some v2) ∧ (∀ x : Later W, x.w.cell? ⟨b, 3, none⟩ = some v3) ∧ (∀ x : Later W, x.w.cell? ⟨b, 4, none⟩ = some v4) ∧ (∀ x : Later W, x.w.cell? ⟨b, 5, none⟩ = some v5) ∧ (∀ x : Later W, x.w.cell? ⟨b, 6, none⟩ = some v6) :=
 ⟨fun x => (h x).cell 0 rfl, fun x => (h x).cell 1 rfl, fun x => (h x).cell 2 rfl, fun x => (h x).cell 3 rfl, fun x => (h x).cell 4 rfl, fun x => (h x).cell 5 rfl, fun x => (h x).cell 6 rfl⟩
theorem Blk.cells7 {w : World} {b : Nat} {v0 v1 v2 v3 v4 v5 v6 : Value} {t : TypeId} (h : Blk w b #[v0, v1, v2, v3, v4, v5, v6] t) : w.cell? ⟨b, 0, none⟩ = some v0 ∧ w.cell? ⟨b, 1, none⟩ = some v1 ∧ w.cell? ⟨b, 2, none⟩ = some v2 ∧ w.cell? ⟨b, 3, none⟩ = some v3 ∧ w.cell? ⟨b, 4, none⟩ = some v4 ∧ w.cell? ⟨b, 5, none⟩ = some v5 ∧ w.cell? ⟨b, 6, none⟩ = some v6 :=
 ⟨h.cell 0 rfl, h.cell 1 rfl, h.cell 2 rfl, h.cell 3 rfl, h.cell 4 rfl, h.cell 5 rfl, h.cell 6 rfl⟩
theorem cells9 {W : World} {b : Nat} {v0 v1 v2 v3 v4 v5 v6 v7 v8 : Value} {t : TypeId} (h : ∀ x : Later W, Blk x.w b #[v0, v1, v2, v3, v4, v5, v6, v7, v8] t) : (∀ x : Later W, x.w.cell? ⟨b, 0, none⟩ = some v0) ∧ (∀ x : Later W, x.w.cell? ⟨b, 1, none⟩ = some v1) ∧ (∀ x : Later W, x.w.cell? ⟨b, 2, none⟩ = some v2) ∧ (∀ x : Later W, x.w.cell? ⟨b, 3, none⟩ = some v3) ∧ (∀ x : Later W, x.w.cell? ⟨b, 4, none⟩ = some v4) ∧ (∀ x : Later W, x.w.cell? ⟨b, 5, none⟩ = some v5) ∧ (∀ x : Later W, x.w.cell? ⟨b, 6, none⟩ = some v6) ∧ (∀ x : Later W, x.w.cell? ⟨b, 7, none⟩ = some v7) ∧ (∀ x : Later W, x.w.cell? ⟨b, 8, none⟩ = some v8) :=
 ⟨fun x => (h x).cell 0 rfl, fun x => (h x).cell 1 rfl, fun x => (h x).cell 2 rfl, fun x => (h x).cell 3 rfl, fun x => (h x).cell 4 rfl, fun x => (h x).cell 5 rfl, fun x => (h x).cell 6 rfl, fun x => (h x).cell 7 rfl, fun x => (h x).cell 8 rfl⟩
theorem Blk.cells9 {w : World} {b : Nat} {v0 v1 v2 v3 v4 v5 v6 v7 v8 : Value} {t : TypeId} (h : Blk w b #[v0, v1, v2, v3, v4, v5, v6, v7, v8] t) : w.cell? ⟨b, 0, none⟩ = some v0 ∧ w.cell? ⟨b, 1, none⟩ = some v1 ∧ w.cell? ⟨b, 2, none⟩ = some v2 ∧ w.cell? ⟨b, 3, none⟩ = some v3 ∧ w.cell? ⟨b, 4, none⟩ = some v4 ∧ w.cell? ⟨b, 5, none⟩ = some v5 ∧ w.cell? ⟨b, 6, none⟩ = some v6 ∧ w.cell? ⟨b, 7, none⟩ = some v7 ∧ w.cell? ⟨b, 8, none⟩ = some v8 :=
 ⟨h.cell 0 rfl, h.cell 1 rfl, h.cell 2 rfl, h.cell 3 rfl, h.cell 4 rfl, h.cell 5 rfl, h.cell 6 rfl, h.cell 7 rfl, h.cell 8 rfl⟩
theorem ret9 {P : Program} {fn : Func} {R : Ending → World → Prop} {a : Act} {V w : World} {b : Nat} {v0 v1 v2 v3 v4 v5 v6 v7 v8 u0 u1 u2 u3 u4 u5 u6 u7 u8 v : Value} {t : TypeId} (h : Blk w b #[u0, u1, u2, u3, u4, u5, u6, u7, u8] t) (hb : Below V.heap.size V w) (hl : V.heap.size ≤ b) (hd : a.defers = []) (H : ∀ W, W.cell? ⟨b, 0, none⟩ = some v0 → W.cell? ⟨b, 1, none⟩ = some v1 → W.cell? ⟨b, 2, none⟩ = some v2 → W.cell? ⟨b, 3, none⟩ = some v3 → W.cell? ⟨b, 4, none⟩ = some v4 → W.cell? ⟨b, 5, none⟩ = some v5 → W.cell? ⟨b, 6, none⟩ = some v6 → W.cell? ⟨b, 7, none⟩ = some v7 → W.cell? ⟨b, 8, none⟩ = some v8 → Below V.heap.size V W → (results fn a.tmps).run P W = .ok v W ∧ R (.returned v) W) : bodyPost P fn R .ret a (((((((((w.setCell ⟨b, 0, none⟩ v0).setCell ⟨b, 1, none⟩ v1).setCell ⟨b, 2, none⟩ v2).setCell ⟨b, 3, none⟩ v3).setCell ⟨b, 4, none⟩ v4).setCell ⟨b, 5, none⟩ v5).setCell ⟨b, 6, none⟩ v6).setCell ⟨b, 7, none⟩ v7).setCell ⟨b, 8, none⟩ v8) := by
 have a0 : Blk (w.setCell ⟨b, 0, none⟩ v0) b #[v0, u1, u2, u3, u4, u5, u6, u7, u8] t := h.set 0 v0
 have a1 : Blk ((w.setCell ⟨b, 0, none⟩ v0).setCell ⟨b, 1, none⟩ v1) b #[v0, v1, u2, u3, u4, u5, u6, u7, u8] t := a0.set 1 v1
 have a2 : Blk (((w.setCell ⟨b, 0, none⟩ v0).setCell ⟨b, 1, none⟩ v1).setCell ⟨b, 2, none⟩ v2) b #[v0, v1, v2, u3, u4, u5, u6, u7, u8] t := a1.set 2 v2
 have a3 : Blk ((((w.setCell ⟨b, 0, none⟩ v0).setCell ⟨b, 1, none⟩ v1).setCell ⟨b, 2, none⟩ v2).setCell ⟨b, 3, none⟩ v3) b #[v0, v1, v2, v3, u4, u5, u6, u7, u8] t := a2.set 3 v3
 have a4 : Blk (((((w.setCell ⟨b, 0, none⟩ v0).setCell ⟨b, 1, none⟩ v1).setCell ⟨b, 2, none⟩ v2).setCell ⟨b, 3, none⟩ v3).setCell ⟨b, 4, none⟩ v4) b #[v0, v1, v2, v3, v4, u5, u6, u7, u8] t := a3.set 4 v4
 have a5 : Blk ((((((w.setCell ⟨b, 0, none⟩ v0).setCell ⟨b, 1, none⟩ v1).setCell ⟨b, 2, none⟩ v2).setCell ⟨b, 3, none⟩ v3).setCell ⟨b, 4, none⟩ v4).setCell ⟨b, 5, none⟩ v5) b #[v0, v1, v2, v3, v4, v5, u6, u7, u8] t := a4.set 5 v5
 have a6 : Blk (((((((w.setCell ⟨b, 0, none⟩ v0).setCell ⟨b, 1, none⟩ v1).setCell ⟨b, 2, none⟩ v2).setCell ⟨b, 3, none⟩ v3).setCell ⟨b, 4, none⟩ v4).setCell ⟨b, 5, none⟩ v5).setCell ⟨b, 6, none⟩ v6) b #[v0, v1, v2, v3, v4, v5, v6, u7, u8] t := a5.set 6 v6
 have a7 : Blk ((((((((w.setCell ⟨b, 0, none⟩ v0).setCell ⟨b, 1, none⟩ v1).setCell ⟨b, 2, none⟩ v2).setCell ⟨b, 3, none⟩ v3).setCell ⟨b, 4, none⟩ v4).setCell ⟨b, 5, none⟩ v5).setCell ⟨b, 6, none⟩ v6).setCell ⟨b, 7, none⟩ v7) b #[v0, v1, v2, v3, v4, v5, v6, v7, u8] t := a6.set 7 v7
 have hz : Blk (((((((((w.setCell ⟨b, 0, none⟩ v0).setCell ⟨b, 1, none⟩ v1).setCell ⟨b, 2, none⟩ v2).setCell ⟨b, 3, none⟩ v3).setCell ⟨b, 4, none⟩ v4).setCell ⟨b, 5, none⟩ v5).setCell ⟨b, 6, none⟩ v6).setCell ⟨b, 7, none⟩ v7).setCell ⟨b, 8, none⟩ v8) b #[v0, v1, v2, v3, v4, v5, v6, v7, v8] t := a7.set 8 v8
 have q := H _ (hz.cell 0 rfl) (hz.cell 1 rfl) (hz.cell 2 rfl) (hz.cell 3 rfl) (hz.cell 4 rfl) (hz.cell 5 rfl) (hz.cell 6 rfl) (hz.cell 7 rfl) (hz.cell 8 rfl) (below_store (below_store (below_store (below_store (below_store (below_store (below_store (below_store (below_store hb _ hl) _ hl) _ hl) _ hl) _ hl) _ hl) _ hl) _ hl) _ hl)
 exact bodyPost_ret q.1 hd q.2
theorem cells12 {W : World} {b : Nat} {v0 v1 v2 v3 v4 v5 v6 v7 v8 v9 v10 v11 : Value} {t : TypeId} (h : ∀ x : Later W, Blk x.w b #[v0, v1, v2, v3, v4, v5, v6, v7, v8, v9, v10, v11] t) : (∀ x : Later W, x.w.cell? ⟨b, 0, none⟩ = some v0) ∧ (∀ x : Later W, x.w.cell? ⟨b, 1, none⟩ = some v1) ∧ (∀ x : Later W, x.w.cell? ⟨b, 2, none⟩ = some v2) ∧ (∀ x : Later W, x.w.cell? ⟨b, 3, none⟩ = some v3) ∧ (∀ x : Later W, x.w.cell? ⟨b, 4, none⟩ = some v4) ∧ (∀ x : Later W, x.w.cell? ⟨b, 5, none⟩ = some v5) ∧ (∀ x : Later W, x.w.cell? ⟨b, 6, none⟩ = some v6) ∧ (∀ x : Later W, x.w.cell? ⟨b, 7, none⟩ = some v7) ∧ (∀ x : Later W, x.w.cell? ⟨b, 8, none⟩ = some v8) ∧ (∀ x : Later W, x.w.cell? ⟨b, 9, none⟩ = some v9) ∧ (∀ x : Later W, x.w.cell? ⟨b, 10, none⟩ = some v10) ∧ (∀ x : Later W, x.w.cell? ⟨b, 11, none⟩ = some v11) :=
 ⟨fun x => (h x).cell 0 rfl, fun x => (h x).cell 1 rfl, fun x => (h x).cell 2 rfl, fun x => (h x).cell 3 rfl, fun x => (h x).cell 4 rfl, fun x => (h x).cell 5 rfl, fun x => (h x).cell 6 rfl, fun x => (h x).cell 7 rfl, fun x => (h x).cell 8 rfl, fun x => (h x).cell 9 rfl, fun x => (h x).cell 10 rfl, fun x => (h x).cell 11 rfl⟩
theorem Blk.cells12 {w : World} {b : Nat} {v0 v1 v2 v3 v4 v5 v6 v7 v8 v9 v10 v11 : Value} {t : TypeId} (h : Blk w b #[v0, v1, v2, v3, v4, v5, v6, v7, v8, v9, v10, v11] t) : w.cell? ⟨b, 0, none⟩ = some v0 ∧ w.cell? ⟨b, 1, none⟩ = some v1 ∧ w.cell? ⟨b, 2, none⟩ = some v2 ∧ w.cell? ⟨b, 3, none⟩ = some v3 ∧ w.cell? ⟨b, 4, none⟩ = some v4 ∧ w.cell? ⟨b, 5, none⟩ = some v5 ∧ w.cell? ⟨b, 6, none⟩ = some v6 ∧ w.cell? ⟨b, 7, none⟩ = some v7 ∧ w.cell? ⟨b, 8, none⟩ = some v8 ∧ w.cell? ⟨b, 9, none⟩ = some v9 ∧ w.cell? ⟨b, 10, none⟩ = some v10 ∧ w.cell? ⟨b, 11, none⟩ = some v11 :=
 ⟨h.cell 0 rfl, h.cell 1 rfl, h.cell 2 rfl, h.cell 3 rfl, h.cell 4 rfl, h.cell 5 rfl, h.cell 6 rfl, h.cell 7 rfl, h.cell 8 rfl, h.cell 9 rfl, h.cell 10 rfl, h.cell 11 rfl⟩
theorem ret12 {P : Program} {fn : Func} {R : Ending → World → Prop} {a : Act} {V w : World} {b : Nat} {v0 v1 v2 v3 v4 v5 v6 v7 v8 v9 v10 v11 u0 u1 u2 u3 u4 u5 u6 u7 u8 u9 u10 u11 v : Value} {t : TypeId} (h : Blk w b #[u0, u1, u2, u3, u4, u5, u6, u7, u8, u9, u10, u11] t) (hb : Below V.heap.size V w) (hl : V.heap.size ≤ b) (hd : a.defers = []) (H : ∀ W, W.cell? ⟨b, 0, none⟩ = some v0 → W.cell? ⟨b, 1, none⟩ = some v1 → W.cell? ⟨b, 2, none⟩ = some v2 → W.cell? ⟨b, 3, none⟩ = some v3 → W.cell? ⟨b, 4, none⟩ = some v4 → W.cell? ⟨b, 5, none⟩ = some v5 → W.cell? ⟨b, 6, none⟩ = some v6 → W.cell? ⟨b, 7, none⟩ = some v7 → W.cell? ⟨b, 8, none⟩ = some v8 → W.cell? ⟨b, 9, none⟩ = some v9 → W.cell? ⟨b, 10, none⟩ = some v10 → W.cell? ⟨b, 11, none⟩ = some v11 → Below V.heap.size V W → (results fn a.tmps).run P W = .ok v W ∧ R (.returned v) W) : bodyPost P fn R .ret a ((((((((((((w.setCell ⟨b, 0, none⟩ v0).setCell ⟨b, 1, none⟩ v1).setCell ⟨b, 2, none⟩ v2).setCell ⟨b, 3, none⟩ v3).setCell ⟨b, 4, none⟩ v4).setCell ⟨b, 5, none⟩ v5).setCell ⟨b, 6, none⟩ v6).setCell ⟨b, 7, none⟩ v7).setCell ⟨b, 8, none⟩ v8).setCell ⟨b, 9, none⟩ v9).setCell ⟨b, 10, none⟩ v10).setCell ⟨b, 11, none⟩ v11) := by
 have a0 : Blk (w.setCell ⟨b, 0, none⟩ v0) b #[v0, u1, u2, u3, u4, u5, u6, u7, u8, u9, u10, u11] t := h.set 0 v0
 have a1 : Blk ((w.setCell ⟨b, 0, none⟩ v0).setCell ⟨b, 1, none⟩ v1) b #[v0, v1, u2, u3, u4, u5, u6, u7, u8, u9, u10, u11] t := a0.set 1 v1
 have a2 : Blk (((w.setCell ⟨b, 0, none⟩ v0).setCell ⟨b, 1, none⟩ v1).setCell ⟨b, 2, none⟩ v2) b #[v0, v1, v2, u3, u4, u5, u6, u7, u8, u9, u10, u11] t := a1.set 2 v2
 have a3 : Blk ((((w.setCell ⟨b, 0, none⟩ v0).setCell ⟨b, 1, none⟩ v1).setCell ⟨b, 2, none⟩ v2).setCell ⟨b, 3, none⟩ v3) b #[v0, v1, v2, v3, u4, u5, u6, u7, u8, u9, u10, u11] t := a2.set 3 v3
 have a4 : Blk (((((w.setCell ⟨b, 0, none⟩ v0).setCell ⟨b, 1, none⟩ v1).setCell ⟨b, 2, none⟩ v2).setCell ⟨b, 3, none⟩ v3).setCell ⟨b, 4, none⟩ v4) b #[v0, v1, v2, v3, v4, u5, u6, u7, u8, u9, u10, u11] t := a3.set 4 v4
 have a5 : Blk ((((((w.setCell ⟨b, 0, none⟩ v0).setCell ⟨b, 1, none⟩ v1).setCell ⟨b, 2, none⟩ v2).setCell ⟨b, 3, none⟩ v3).setCell ⟨b, 4, none⟩ v4).setCell ⟨b, 5, none⟩ v5) b #[v0, v1, v2, v3, v4, v5, u6, u7, u8, u9, u10, u11] t := a4.set 5 v5
 have a6 : Blk (((((((w.setCell ⟨b, 0, none⟩ v0).setCell ⟨b, 1, none⟩ v1).setCell ⟨b, 2, none⟩ v2).setCell ⟨b, 3, none⟩ v3).setCell ⟨b, 4, none⟩ v4).setCell ⟨b, 5, none⟩ v5).setCell ⟨b, 6, none⟩ v6) b #[v0, v1, v2, v3, v4, v5, v6, u7, u8, u9, u10, u11] t := a5.set 6 v6
 have a7 : Blk ((((((((w.setCell ⟨b, 0, none⟩ v0).setCell ⟨b, 1, none⟩ v1).setCell ⟨b, 2, none⟩ v2).setCell ⟨b, 3, none⟩ v3).setCell ⟨b, 4, none⟩ v4).setCell ⟨b, 5, none⟩ v5).setCell ⟨b, 6, none⟩ v6).setCell ⟨b, 7, none⟩ v7) b #[v0, v1, v2, v3, v4, v5, v6, v7, u8, u9, u10, u11] t := a6.set 7 v7
 have a8 : Blk (((((((((w.setCell ⟨b, 0, none⟩ v0).setCell ⟨b, 1, none⟩ v1).setCell ⟨b, 2, none⟩ v2).setCell ⟨b, 3, none⟩ v3).setCell ⟨b, 4, none⟩ v4).setCell ⟨b, 5, none⟩ v5).setCell ⟨b, 6, none⟩ v6).setCell ⟨b, 7, none⟩ v7).setCell ⟨b, 8, none⟩ v8) b #[v0, v1, v2, v3, v4, v5, v6, v7, v8, u9, u10, u11] t := a7.set 8 v8
 have a9 : Blk ((((((((((w.setCell ⟨b, 0, none⟩ v0).setCell ⟨b, 1, none⟩ v1).setCell ⟨b, 2, none⟩ v2).setCell ⟨b, 3, none⟩ v3).setCell ⟨b, 4, none⟩ v4).setCell ⟨b, 5, none⟩ v5).setCell ⟨b, 6, none⟩ v6).setCell ⟨b, 7, none⟩ v7).setCell ⟨b, 8, none⟩ v8).setCell ⟨b, 9, none⟩ v9) b #[v0, v1, v2, v3, v4, v5, v6, v7, v8, v9, u10, u11] t := a8.set 9 v9
 have a10 : Blk (((((((((((w.setCell ⟨b, 0, none⟩ v0).setCell ⟨b, 1, none⟩ v1).setCell ⟨b, 2, none⟩ v2).setCell ⟨b, 3, none⟩ v3).setCell ⟨b, 4, none⟩ v4).setCell ⟨b, 5, none⟩ v5).setCell ⟨b, 6, none⟩ v6).setCell ⟨b, 7, none⟩ v7).setCell ⟨b, 8, none⟩ v8).setCell ⟨b, 9, none⟩ v9).setCell ⟨b, 10, none⟩ v10) b #[v0, v1, v2, v3, v4, v5, v6, v7, v8, v9, v10, u11] t := a9.set 10 v10
 have hz : Blk ((((((((((((w.setCell ⟨b, 0, none⟩ v0).setCell ⟨b, 1, none⟩ v1).setCell ⟨b, 2, none⟩ v2).setCell ⟨b, 3, none⟩ v3).setCell ⟨b, 4, none⟩ v4).setCell ⟨b, 5, none⟩ v5).setCell ⟨b, 6, none⟩ v6).setCell ⟨b, 7, none⟩ v7).setCell ⟨b, 8, none⟩ v8).setCell ⟨b, 9, none⟩ v9).setCell ⟨b, 10, none⟩ v10).setCell ⟨b, 11, none⟩ v11) b #[v0, v1, v2, v3, v4, v5, v6, v7, v8, v9, v10, v11] t := a10.set 11 v11
 have q := H _ (hz.cell 0 rfl) (hz.cell 1 rfl) (hz.cell 2 rfl) (hz.cell 3 rfl) (hz.cell 4 rfl) (hz.cell 5 rfl) (hz.cell 6 rfl) (hz.cell 7 rfl) (hz.cell 8 rfl) (hz.cell 9 rfl) (hz.cell 10 rfl) (hz.cell 11 rfl) (below_store (below_store (below_store (below_store (below_store (below_store (below_store (below_store (below_store (below_store (below_store (below_store hb _ hl) _ hl) _ hl) _ hl) _ hl) _ hl) _ hl) _ hl) _ hl) _ hl) _ hl) _ hl)
 exact bodyPost_ret q.1 hd q.2
theorem cells14 {W : World} {b : Nat} {v0 v1 v2 v3 v4 v5 v6 v7 v8 v9 v10 v11 v12 v13 : Value} {t : TypeId} (h : ∀ x : Later W, Blk x.w b #[v0, v1, v2, v3, v4, v5, v6, v7, v8, v9, v10, v11, v12, v13] t) : (∀ x : Later W, x.w.cell? ⟨b, 0, none⟩ = some v0) ∧ (∀ x : Later W, x.w.cell? ⟨b, 1, none⟩ = some v1) ∧ (∀ x : Later W, x.w.cell? ⟨b, 2, none⟩ = some v2) ∧ (∀ x : Later W, x.w.cell? ⟨b, 3, none⟩ = some v3) ∧ (∀ x : Later W, x.w.cell? ⟨b, 4, none⟩ = some v4) ∧ (∀ x : Later W, x.w.cell? ⟨b, 5, none⟩ = some v5) ∧ (∀ x : Later W, x.w.cell? ⟨b, 6, none⟩ = some v6) ∧ (∀ x : Later W, x.w.cell? ⟨b, 7, none⟩ = some v7) ∧ (∀ x : Later W, x.w.cell? ⟨b, 8, none⟩ = some v8) ∧ (∀ x : Later W, x.w.cell? ⟨b, 9, none⟩ = some v9) ∧ (∀ x : Later W, x.w.cell? ⟨b, 10, none⟩ = some v10) ∧ (∀ x : Later W, x.w.cell? ⟨b, 11, none⟩ = some v11) ∧ (∀ x : Later W, x.w.cell? ⟨b, 12, none⟩ = some v12) ∧ (∀ x : Later W, x.w.cell? ⟨b, 13, none⟩ = some v13) :=
 ⟨fun x => (h x).cell 0 rfl, fun x => (h x).cell 1 rfl, fun x => (h x).cell 2 rfl, fun x => (h x).cell 3 rfl, fun x => (h x).cell 4 rfl, fun x => (h x).cell 5 rfl, fun x => (h x).cell 6 rfl, fun x => (h x).cell 7 rfl, fun x => (h x).cell 8 rfl, fun x => (h x).cell 9 rfl, fun x => (h x).cell 10 rfl, fun x => (h x).cell 11 rfl, fun x => (h x).cell 12 rfl, fun x => (h x).cell 13 rfl⟩
theorem Blk.cells14 {w : World} {b : Nat} {v0 v1 v2 v3 v4 v5 v6 v7 v8 v9 v10 v11 v12 v13 : Value} {t : TypeId} (h : Blk w b #[v0, v1, v2, v3, v4, v5, v6, v7, v8, v9, v10, v11, v12, v13] t) : w.cell? ⟨b, 0, none⟩ = some v0 ∧ w.cell? ⟨b, 1, none⟩ = some v1 ∧ w.cell? ⟨b, 2, none⟩ = some v2 ∧ w.cell? ⟨b, 3, none⟩ = some v3 ∧ w.cell? ⟨b, 4, none⟩ = some v4 ∧ w.cell? ⟨b, 5, none⟩ = some v5 ∧ w.cell? ⟨b, 6, none⟩ = some v6 ∧ w.cell? ⟨b, 7, none⟩ = some v7 ∧ w.cell? ⟨b, 8, none⟩ = some v8 ∧ w.cell? ⟨b, 9, none⟩ = some v9 ∧ w.cell? ⟨b, 10, none⟩ = some v10 ∧ w.cell? ⟨b, 11, none⟩ = some v11 ∧ w.cell? ⟨b, 12, none⟩ = some v12 ∧ w.cell? ⟨b, 13, none⟩ = some v13 :=
 ⟨h.cell 0 rfl, h.cell 1 rfl, h.cell 2 rfl, h.cell 3 rfl, h.cell 4 rfl, h.cell 5 rfl, h.cell 6 rfl, h.cell 7 rfl, h.cell 8 rfl, h.cell 9 rfl, h.cell 10 rfl, h.cell 11 rfl, h.cell 12 rfl, h.cell 13 rfl⟩
theorem ret14 {P : Program} {fn : Func} {R : Ending → World → Prop} {a : Act} {V w : World} {b : Nat} {v0 v1 v2 v3 v4 v5 v6 v7 v8 v9 v10 v11 v12 v13 u0 u1 u2 u3 u4 u5 u6 u7 u8 u9 u10 u11 u12 u13 v : Value} {t : TypeId} (h : Blk w b #[u0, u1, u2, u3, u4, u5, u6, u7, u8, u9, u10, u11, u12, u13] t) (hb : Below V.heap.size V w) (hl : V.heap.size ≤ b) (hd : a.defers = []) (H : ∀ W, W.cell? ⟨b, 0, none⟩ = some v0 → W.cell? ⟨b, 1, none⟩ = some v1 → W.cell? ⟨b, 2, none⟩ = some v2 → W.cell? ⟨b, 3, none⟩ = some v3 → W.cell? ⟨b, 4, none⟩ = some v4 → W.cell? ⟨b, 5, none⟩ = some v5 → W.cell? ⟨b, 6, none⟩ = some v6 → W.cell? ⟨b, 7, none⟩ = some v7 → W.cell? ⟨b, 8, none⟩ = some v8 → W.cell? ⟨b, 9, none⟩ = some v9 → W.cell? ⟨b, 10, none⟩ = some v10 → W.cell? ⟨b, 11, none⟩ = some v11 → W.cell? ⟨b, 12, none⟩ = some v12 → W.cell? ⟨b, 13, none⟩ = some v13 → Below V.heap.size V W → (results fn a.tmps).run P W = .ok v W ∧ R (.returned v) W) : bodyPost P fn R .ret a ((((((((((((((w.setCell ⟨b, 0, none⟩ v0).setCell ⟨b, 1, none⟩ v1).setCell ⟨b, 2, none⟩ v2).setCell ⟨b, 3, none⟩ v3).setCell ⟨b, 4, none⟩ v4).setCell ⟨b, 5, none⟩ v5).setCell ⟨b, 6, none⟩ v6).setCell ⟨b, 7, none⟩ v7).setCell ⟨b, 8, none⟩ v8).setCell ⟨b, 9, none⟩ v9).setCell ⟨b, 10, none⟩ v10).setCell ⟨b, 11, none⟩ v11).setCell ⟨b, 12, none⟩ v12).setCell ⟨b, 13, none⟩ v13) := by
 have a0 : Blk (w.setCell ⟨b, 0, none⟩ v0) b #[v0, u1, u2, u3, u4, u5, u6, u7, u8, u9, u10, u11, u12, u13] t := h.set 0 v0
 have a1 : Blk ((w.setCell ⟨b, 0, none⟩ v0).setCell ⟨b, 1, none⟩ v1) b #[v0, v1, u2, u3, u4, u5, u6, u7, u8, u9, u10, u11, u12, u13] t := a0.set 1 v1
 have a2 : Blk (((w.setCell ⟨b, 0, none⟩ v0).setCell ⟨b, 1, none⟩ v1).setCell ⟨b, 2, none⟩ v2) b #[v0, v1, v2, u3, u4, u5, u6, u7, u8, u9, u10, u11, u12, u13] t := a1.set 2 v2
 have a3 : Blk ((((w.setCell ⟨b, 0, none⟩ v0).setCell ⟨b, 1, none⟩ v1).setCell ⟨b, 2, none⟩ v2).setCell ⟨b, 3, none⟩ v3) b #[v0, v1, v2, v3, u4, u5, u6, u7, u8, u9, u10, u11, u12, u13] t := a2.set 3 v3
 have a4 : Blk (((((w.setCell ⟨b, 0, none⟩ v0).setCell ⟨b, 1, none⟩ v1).setCell ⟨b, 2, none⟩ v2).setCell ⟨b, 3, none⟩ v3).setCell ⟨b, 4, none⟩ v4) b #[v0, v1, v2, v3, v4, u5, u6, u7, u8, u9, u10, u11, u12, u13] t := a3.set 4 v4
 have a5 : Blk ((((((w.setCell ⟨b, 0, none⟩ v0).setCell ⟨b, 1, none⟩ v1).setCell ⟨b, 2, none⟩ v2).setCell ⟨b, 3, none⟩ v3).setCell ⟨b, 4, none⟩ v4).setCell ⟨b, 5, none⟩ v5) b #[v0, v1, v2, v3, v4, v5, u6, u7, u8, u9, u10, u11, u12, u13] t := a4.set 5 v5
 have a6 : Blk (((((((w.setCell ⟨b, 0, none⟩ v0).setCell ⟨b, 1, none⟩ v1).setCell ⟨b, 2, none⟩ v2).setCell ⟨b, 3, none⟩ v3).setCell ⟨b, 4, none⟩ v4).setCell ⟨b, 5, none⟩ v5).setCell ⟨b, 6, none⟩ v6) b #[v0, v1, v2, v3, v4, v5, v6, u7, u8, u9, u10, u11, u12, u13] t := a5.set 6 v6
 have a7 : Blk ((((((((w.setCell ⟨b, 0, none⟩ v0).setCell ⟨b, 1, none⟩ v1).setCell ⟨b, 2, none⟩ v2).setCell ⟨b, 3, none⟩ v3).setCell ⟨b, 4, none⟩ v4).setCell ⟨b, 5, none⟩ v5).setCell ⟨b, 6, none⟩ v6).setCell ⟨b, 7, none⟩ v7) b #[v0, v1, v2, v3, v4, v5, v6, v7, u8, u9, u10, u11, u12, u13] t := a6.set 7 v7
 have a8 : Blk (((((((((w.setCell ⟨b, 0, none⟩ v0).setCell ⟨b, 1, none⟩ v1).setCell ⟨b, 2, none⟩ v2).setCell ⟨b, 3, none⟩ v3).setCell ⟨b, 4, none⟩ v4).setCell ⟨b, 5, none⟩ v5).setCell ⟨b, 6, none⟩ v6).setCell ⟨b, 7, none⟩ v7).setCell ⟨b, 8, none⟩ v8) b #[v0, v1, v2, v3, v4, v5, v6, v7, v8, u9, u10, u11, u12, u13] t := a7.set 8 v8
 have a9 : Blk ((((((((((w.setCell ⟨b, 0, none⟩ v0).setCell ⟨b, 1, none⟩ v1).setCell ⟨b, 2, none⟩ v2).setCell ⟨b, 3, none⟩ v3).setCell ⟨b, 4, none⟩ v4).setCell ⟨b, 5, none⟩ v5).setCell ⟨b, 6, none⟩ v6).setCell ⟨b, 7, none⟩ v7).setCell ⟨b, 8, none⟩ v8).setCell ⟨b, 9, none⟩ v9) b #[v0, v1, v2, v3, v4, v5, v6, v7, v8, v9, u10, u11, u12, u13] t := a8.set 9 v9
 have a10 : Blk (((((((((((w.setCell ⟨b, 0, none⟩ v0).setCell ⟨b, 1, none⟩ v1).setCell ⟨b, 2, none⟩ v2).setCell ⟨b, 3, none⟩ v3).setCell ⟨b, 4, none⟩ v4).setCell ⟨b, 5, none⟩ v5).setCell ⟨b, 6, none⟩ v6).setCell ⟨b, 7, none⟩ v7).setCell ⟨b, 8, none⟩ v8).setCell ⟨b, 9, none⟩ v9).setCell ⟨b, 10, none⟩ v10) b #[v0, v1, v2, v3, v4, v5, v6, v7, v8, v9, v10, u11, u12, u13] t := a9.set 10 v10
 have a11 : Blk ((((((((((((w.setCell ⟨b, 0, none⟩ v0).setCell ⟨b, 1, none⟩ v1).setCell ⟨b, 2, none⟩ v2).setCell ⟨b, 3, none⟩ v3).setCell ⟨b, 4, none⟩ v4).setCell ⟨b, 5, none⟩ v5).setCell ⟨b, 6, none⟩ v6).setCell ⟨b, 7, none⟩ v7).setCell ⟨b, 8, none⟩ v8).setCell ⟨b, 9, none⟩ v9).setCell ⟨b, 10, none⟩ v10).setCell ⟨b, 11, none⟩ v11) b #[v0, v1, v2, v3, v4, v5, v6, v7, v8, v9, v10, v11, u12, u13] t := a10.set 11 v11
 have a12 : Blk (((((((((((((w.setCell ⟨b, 0, none⟩ v0).setCell ⟨b, 1, none⟩ v1).setCell ⟨b, 2, none⟩ v2).setCell ⟨b, 3, none⟩ v3).setCell ⟨b, 4, none⟩ v4).setCell ⟨b, 5, none⟩ v5).setCell ⟨b, 6, none⟩ v6).setCell ⟨b, 7, none⟩ v7).setCell ⟨b, 8, none⟩ v8).setCell ⟨b, 9, none⟩ v9).setCell ⟨b, 10, none⟩ v10).setCell ⟨b, 11, none⟩ v11).setCell ⟨b, 12, none⟩ v12) b #[v0, v1, v2, v3, v4, v5, v6, v7, v8, v9, v10, v11, v12, u13] t := a11.set 12 v12
 have hz : Blk ((((((((((((((w.setCell ⟨b, 0, none⟩ v0).setCell ⟨b, 1, none⟩ v1).setCell ⟨b, 2, none⟩ v2).setCell ⟨b, 3, none⟩ v3).setCell ⟨b, 4, none⟩ v4).setCell ⟨b, 5, none⟩ v5).setCell ⟨b, 6, none⟩ v6).setCell ⟨b, 7, none⟩ v7).setCell ⟨b, 8, none⟩ v8).setCell ⟨b, 9, none⟩ v9).setCell ⟨b, 10, none⟩ v10).setCell ⟨b, 11, none⟩ v11).setCell ⟨b, 12, none⟩ v12).setCell ⟨b, 13, none⟩ v13) b #[v0, v1, v2, v3, v4, v5, v6, v7, v8, v9, v10, v11, v12, v13] t := a12.set 13 v13
 have q := H _ (hz.cell 0 rfl) (hz.cell 1 rfl) (hz.cell 2 rfl) (hz.cell 3 rfl) (hz.cell 4 rfl) (hz.cell 5 rfl) (hz.cell 6 rfl) (hz.cell 7 rfl) (hz.cell 8 rfl) (hz.cell 9 rfl) (hz.cell 10 rfl) (hz.cell 11 rfl) (hz.cell 12 rfl) (hz.cell 13 rfl) (below_store (below_store (below_store (below_store (below_store (below_store (below_store (below_store (below_store (below_store (below_store (below_store (below_store (below_store hb _ hl) _ hl) _ hl) _ hl) _ hl) _ hl) _ hl) _ hl) _ hl) _ hl) _ hl) _ hl) _ hl) _ hl)
 exact bodyPost_ret q.1 hd q.2
section
variable {P : Program} {ops : Array Oper} {md : Region.Mode} {C : World → Prop}
theorem wpQuiet_mono {Q1 Q2 : Act → Prop} (hQ : ∀ a, Q1 a → Q2 a) : ∀ (l : List Oper) (a : Act), wpQuiet P ops C Q1 l a → wpQuiet P ops C Q2 l a
  | [], a, h => hQ a h
  | o :: l, a, h => by
   unfold wpQuiet at h ⊢
   split
   · rename_i hw
     rw [if_pos hw] at h
     exact Oper.quiet_mono (fun a' => wpQuiet_mono hQ l a') h
   · rename_i hw
     rw [if_neg hw] at h
     exact wpQuiet_mono hQ l _ h
def wpMix (P : Program) (md : Region.Mode) (ops : Array Oper) (C : World → Prop) (N : Nat) (R : Array Bool → Act → Prop) : Nat → Array Bool → Act → Prop
  | 0, listed, a => R listed a
  | m + 1, listed, a => Region.ready md ops listed ≠ [] ∧ ∀ i ∈ Region.ready md ops listed, i < N ∧ qOp P ops C i (wpMix P md ops C N R m (listed.setIfInBounds i true)) a
def lexP (md : Region.Mode) (ops : Array Oper) : Nat → Nat → Array Bool → Bool
  | 0, _, _ => true
  | n + 1, k, listed => (Region.ready md ops listed).contains k && Region.free md ops listed k && lexP md ops n (k + 1) (listed.setIfInBounds k true)
def setN : Nat → Nat → Array Bool → Array Bool
  | 0, _, l => l
  | n + 1, k, l => setN n (k + 1) (l.setIfInBounds k true)
def linkB (md : Region.Mode) (ops : Array Oper) (N : Nat) : Bool := (List.range (N - 1)).all fun i => (List.range N).any fun k => decide (i < k) && ((ops[k]?).map fun o => o.after.any fun e => Region.binds md e && e.on == i).getD false
def waitB (md : Region.Mode) (ops : Array Oper) (N : Nat) : Bool := (List.range ops.size).all fun j => decide (j < N) || ((ops[j]?).map fun o => o.after.any fun e => Region.binds md e && (e.on == N - 1 || (decide (N ≤ e.on) && decide (e.on < ops.size)))).getD false
def Closed (md : Region.Mode) (ops : Array Oper) (listed : Array Bool) : Prop := ∀ j o, ops[j]? = some o → listed.getD j false = true → ∀ e ∈ o.after, Region.binds md e = true → listed.getD e.on false = true
def Above (ops : Array Oper) (N : Nat) (listed : Array Bool) : Prop := ∀ j, N ≤ j → j < ops.size → listed.getD j true = false
theorem yes_no {listed : Array Bool} {i : Nat} (h : listed.getD i false = true) (h' : listed.getD i true = false) : False := by
 rcases Nat.lt_or_ge i listed.size with k | k
 · simp [k] at h h'
   rw [h] at h'
   cases h'
 · simp [Array.getElem?_eq_none k] at h
theorem closed_set {listed : Array Bool} (h : Closed md ops listed) {j : Nat} (hj : j ∈ Region.ready md ops listed) : Closed md ops (listed.setIfInBounds j true) := fun k o ho hk e he hb => by
 by_cases hkj : j = k
 · subst hkj
   obtain ⟨_, o', ho', hall⟩ := mem_ready.1 hj
   obtain rfl := Option.some.inj (ho.symm.trans ho')
   exact getD_set_true (hall e he hb)
 · rw [getD_set_ne false hkj] at hk
   exact getD_set_true (h k o ho hk e he hb)
theorem above_set {listed : Array Bool} {N : Nat} (h : Above ops N listed) {j : Nat} (hj : j < N) : Above ops N (listed.setIfInBounds j true) := fun k hk hs => by
 rw [getD_set_ne true (by omega)]
 exact h k hk hs
theorem all_below {listed : Array Bool} {N : Nat} (hc : Closed md ops listed) (hl : linkB md ops N = true) (hN : listed.getD (N - 1) false = true) : ∀ (d i : Nat), i + d = N - 1 → i < N → listed.getD i false = true := by
 intro d
 induction d using Nat.strongRecOn with
 | ind d ih =>
  intro i hid hi
  by_cases hd : d = 0
  · rw [show i = N - 1 by omega]
    exact hN
  · have h1 := List.all_eq_true.1 hl i (List.mem_range.2 (by omega))
    obtain ⟨k, hk, h2⟩ := List.any_eq_true.1 h1
    have hkN := List.mem_range.1 hk
    simp only [Bool.and_eq_true, decide_eq_true_eq] at h2
    obtain ⟨hik, h3⟩ := h2
    cases ho : ops[k]? with
    | none => simp [ho] at h3
    | some o =>
     simp only [ho, Option.map_some, Option.getD_some] at h3
     obtain ⟨x, hx, hxe⟩ := Array.any_eq_true'.1 h3
     simp only [Bool.and_eq_true, beq_iff_eq] at hxe
     have hkl := ih (N - 1 - k) (by omega) k (by omega) hkN
     have := hc k o ho hkl x hx hxe.1
     rw [hxe.2] at this
     exact this
theorem wait_for {listed : Array Bool} {N : Nat} (hc : Closed md ops listed) (ha : Above ops N listed) (hl : linkB md ops N = true) (hw : waitB md ops N = true) {i j : Nat} (hi : i < N) (hun : listed.getD i true = false) (hj : j ∈ Region.ready md ops listed) : j < N := by
 rcases Nat.lt_or_ge j N with h | h
 · exact h
 · exfalso
   obtain ⟨_, o, ho, hall⟩ := mem_ready.1 hj
   have hsz : j < ops.size := (Array.getElem?_eq_some_iff.1 ho).1
   have h1 := List.all_eq_true.1 hw j (List.mem_range.2 hsz)
   simp only [ho, Option.map_some, Option.getD_some, Bool.or_eq_true, decide_eq_true_eq] at h1
   rcases h1 with h1 | h1
   · omega
   · obtain ⟨x, hx, hxe⟩ := Array.any_eq_true'.1 h1
     simp only [Bool.and_eq_true, Bool.or_eq_true, beq_iff_eq, decide_eq_true_eq] at hxe
     have hlx := hall x hx hxe.1
     rcases hxe.2 with e | ⟨e1, e2⟩
     · rw [e] at hlx
       exact yes_no (all_below hc hl hlx (N - 1 - i) i (by omega) hi) hun
     · exact yes_no hlx (ha x.on e1 e2)
theorem wpAny_of_mix {N : Nat} {R : Array Bool → Act → Prop} {Q' : Exit → Act → World → Prop} {f : Nat} (hR : ∀ listed a w, C w → R listed a → wpAny P md ops Q' f listed a w) :
    ∀ (m : Nat) (listed : Array Bool) (a : Act) (w : World), C w → wpMix P md ops C N R m listed a → wpAny P md ops Q' (f + m) listed a w
  | 0, _, _, _, hw, h => hR _ _ _ hw h
  | m + 1, _, _, _, hw, h => ⟨fun h0 => absurd h0 h.1, fun i hi => wpOp_of_qOp hw (fun a' w' hw' k => wpAny_of_mix hR m _ a' w' hw' k) (h.2 i hi).2⟩
theorem mix_first {N : Nat} {R : Array Bool → Act → Prop} (hRl : ∀ listed a, R listed a → ∀ j, j < N → listed.getD j false = true) (hl : linkB md ops N = true) (hwt : waitB md ops N = true) {i : Nat} {oi : Oper} {v : Value} (hi : ops[i]? = some oi) (hN : i < N) (hsel : ∀ (j : Nat) (o : Oper) cs b, ops[j]? = some o → o.op ≠ .select cs b) :
    ∀ (m : Nat) (listed : Array Bool) (a : Act), Closed md ops listed → Above ops N listed →
      (∀ j oj, ops[j]? = some oj → j ≠ i → listed.getD j true = false → (∀ e ∈ oj.after, Region.binds md e = true → e.on ≠ i) → oi.apart ops oj = true) →
      i ∈ Region.ready md ops listed → YieldsIn P ops C oi v a →
      wpMix P md ops C N R m (listed.setIfInBounds i true) (a.put oi.dst v) → wpMix P md ops C N R (m + 1) listed a := by
  intro m
  induction m with
  | zero =>
   intro listed a hc ha _ hr hy H
   refine ⟨fun h => (by rw [h] at hr; cases hr), fun j hj => ?_⟩
   have hjN := wait_for hc ha hl hwt hN (mem_ready.1 hr).1 hj
   by_cases hji : j = i
   · subst hji
     exact ⟨hjN, hy.qOp hi H⟩
   · have h1 := hRl _ _ H j hjN
     rw [getD_set_ne false (Ne.symm hji)] at h1
     exact absurd (mem_ready.1 hj).1 (fun h => yes_no h1 h)
  | succ m ih =>
   intro listed a hc ha hfree hr hy H
   refine ⟨fun h => (by rw [h] at hr; cases hr), fun j hj => ?_⟩
   by_cases hji : j = i
   · subst hji
     exact ⟨hN, hy.qOp hi H⟩
   · obtain ⟨hjN, h1⟩ := H.2 j (ready_mono hj hji)
     refine ⟨hjN, ?_⟩
     obtain ⟨hjun, oj, hoj, hall⟩ := mem_ready.1 hj
     have hnot : ∀ e ∈ oj.after, Region.binds md e = true → e.on ≠ i := fun e he hb heq => by
      have k1 := hall e he hb
      rw [heq] at k1
      exact yes_no k1 (mem_ready.1 hr).1
     have h2 := qOp_put hoj (hfree j oj hoj hji hjun hnot) (fun cs b => hsel i oi cs b hi) (fun cs b => hsel j oj cs b hoj) hy h1
     have hfree' : ∀ k ok, ops[k]? = some ok → k ≠ i → (listed.setIfInBounds j true).getD k true = false → (∀ e ∈ ok.after, Region.binds md e = true → e.on ≠ i) → oi.apart ops ok = true := fun k ok hk hki hun hno => by
      refine hfree k ok hk hki ?_ hno
      by_cases hjk : j = k
      · subst hjk
        exact hjun
      · rw [getD_set_ne true hjk] at hun
        exact hun
     refine qOp_mono (fun a' h3 => ih (listed.setIfInBounds j true) a' (closed_set hc hj) (above_set ha hjN) hfree' (ready_mono hr (Ne.symm hji)) h3.1 ?_) h2
     rw [Array.setIfInBounds_comm _ _ hji]
     exact h3.2
theorem mix_lex {N : Nat} {R : Array Bool → Act → Prop} (hRl : ∀ listed a, R listed a → ∀ j, j < N → listed.getD j false = true) (hl : linkB md ops N = true) (hwt : waitB md ops N = true) (hs : Region.noSelect ops = true) : ∀ (l : List Oper) (k : Nat) (listed : Array Bool) (a : Act), k + l.length ≤ N → (∀ j, j < l.length → l[j]? = ops[k + j]?) →
    lexP md ops l.length k listed = true → Closed md ops listed → Above ops N listed → wpQuiet P ops C (fun a' => R (setN l.length k listed) a') l a → wpMix P md ops C N R l.length listed a
  | [], _, _, _, _, _, _, _, _, h => h
  | o :: l, k, listed, a, hk, hll, hB, hc, ha, h => by
   have h0 : ops[k]? = some o := by simpa using (hll 0 (by simp)).symm
   simp only [List.length_cons] at hk
   simp only [List.length_cons, lexP, Bool.and_eq_true] at hB
   obtain ⟨⟨hr, hf⟩, hB'⟩ := hB
   have hr' : k ∈ Region.ready md ops listed := by simpa using hr
   have hst : qOp P ops C k (wpQuiet P ops C (fun a' => R (setN (o :: l).length k listed) a') l) a := by unfold qOp; simp only [h0]; exact h
   obtain ⟨v, hy, hK⟩ := yieldsIn_of_qOp h0 hst
   exact mix_first hRl hl hwt h0 (by omega) (Region.noSelect_spec hs) l.length listed a hc ha (Region.free_spec h0 hf) hr' hy
     (mix_lex hRl hl hwt hs l (k + 1) _ _ (by omega) (fun j hj => by have := hll (j + 1) (by simpa using hj); simpa [Nat.add_assoc, Nat.add_comm 1 j] using this) hB' (closed_set hc hr') (above_set ha (by omega)) hK)
end
theorem any_prefix {P : Program} {C : World → Prop} {Q : Exit → Act → World → Prop} {big : List Oper} (n f : Nat) {a : Act} {w : World} (hn : n ≤ big.length) (hs : Region.noSelect big.toArray = true) (hB : lexP .any big.toArray n 0 (Array.replicate big.length false) = true) (hl : linkB .any big.toArray n = true) (hwt : waitB .any big.toArray n = true)
    (hA : ((List.range n).all fun j => (setN n 0 (Array.replicate big.length false)).getD j false) = true) (hw : C w)
    (h : wpQuiet P big.toArray C (fun a' => ∀ w', C w' → wpAny P .any big.toArray Q f (setN n 0 (Array.replicate big.length false)) a' w') (big.take n) a) : wpAny P .any big.toArray Q (f + n) (Array.replicate big.length false) a w := by
  have hlen : (big.take n).length = n := by rw [List.length_take]; omega
  have hAll : ∀ j, j < n → (setN n 0 (Array.replicate big.length false)).getD j false = true := fun j hj => List.all_eq_true.1 hA j (List.mem_range.2 hj)
  have hm := mix_lex (P := P) (md := .any) (ops := big.toArray) (C := C) (N := n) (R := fun listed a => (∀ j, j < n → listed.getD j false = true) ∧ ∀ w', C w' → wpAny P .any big.toArray Q f listed a w') (fun _ _ h => h.1) hl hwt hs (big.take n) 0 (Array.replicate big.length false) a (by omega)
    (fun j hj => by rw [hlen] at hj; simp [hj]) (by rw [hlen]; exact hB)
    (fun j o _ hj => by
     exfalso
     by_cases hjl : j < big.length
     · simp [hjl] at hj
     · simp [Array.getElem?_eq_none (show (Array.replicate big.length false).size ≤ j by simp; omega)] at hj)
    (fun j _ hj => by
     have hj' : j < big.length := by simpa using hj
     simp [hj'])
    (by rw [hlen]; exact wpQuiet_mono (fun a' h => ⟨hAll, h⟩) _ _ h)
  rw [hlen] at hm
  exact wpAny_of_mix (N := n) (R := fun listed a => (∀ j, j < n → listed.getD j false = true) ∧ ∀ w', C w' → wpAny P .any big.toArray Q f listed a w') (fun _ _ w h1 h2 => h2.2 w h1) n _ a w hw hm
section
variable {P : Program} {ops : Array Oper} {Q : Exit → Act → World → Prop} {md : Region.Mode}
theorem op_call {i : Nat} {o : Oper} {g : FuncId} {xs : Array Operand} {ats : Array TypeId} {d : Tmp} {args : Array Value} {T : Value → World → Prop} {K : Act → World → Prop} {a : Act} {w : World} (hi : ops[i]? = some o) (ho : o.op = .call { callee := .value (.func g), args := xs, argTypes := ats }) (hd : o.dst = some d) (hw : Region.wanted o (yielded ops a.tmps) = true)
    (ha : xs.map a.eval = args) (he : ∀ args w, (callFunc g args).run P w = .ok (.enter g args) w) (hc : Calls P g args w fun e w' => ∃ u, e = .returned u ∧ T u w') (h : ∀ u w', T u w' → K (a.put (some d) u) w') : wpOp P ops Q i K a w := by
  unfold wpOp
  simp only [hi, hw, if_true]
  left
  unfold Oper.wp
  have hx : execOp a.eval o = callFunc g args := by
   rw [← ha]
   simp [execOp, ho, resolve, invoke, Act.eval, Deferred.ofValue]
  rw [hx, he]
  refine hc.mono ?_
  rintro e w' ⟨u, rfl, hT⟩
  rw [hd]
  exact h u w' hT
end
def floorDiv (a b : Int) : Int := if b ≤ 0 then 0 else if a.tmod b < 0 then wrap64 (wrap64 (a.tdiv b) - 1) else wrap64 (a.tdiv b)
def floorMod (a b : Int) : Int := if b ≤ 0 then 0 else if a.tmod b < 0 then wrap64 (a.tmod b + b) else a.tmod b
theorem in_range (n : Int) (h : -9223372036854775808 ≤ n ∧ n ≤ 9223372036854775807) : wrap64 n = n := by unfold wrap64; omega
set_option maxHeartbeats 400000 in
theorem specFloorDiv (a b : Int) (w : World) :
    Calls Tryz.prog 158 #[.int .i64 a, .int .i64 b] w fun e w' => e = .returned (.int .i64 (floorDiv a b)) ∧ w' = w := by
  by_cases c1 : b ≤ 0
  · have HF : Hid (floorDiv a b = 0) := by unfold Hid floorDiv; rw [if_pos c1]
    go_enter Tryz.func158, Tryz.ntmps158
    go_wp2
    go_ret
    exact ⟨ret_int HF.out.symm, rfl⟩
  by_cases c2 : a.tmod b < 0
  · have HF : Hid (floorDiv a b = wrap64 (wrap64 (a.tdiv b) - 1)) := by unfold Hid floorDiv; rw [if_neg c1, if_pos c2]
    go_enter Tryz.func158, Tryz.ntmps158
    go_wp2
    go_ret
    exact ⟨ret_int HF.out.symm, rfl⟩
  · have HF : Hid (floorDiv a b = wrap64 (a.tdiv b)) := by unfold Hid floorDiv; rw [if_neg c1, if_neg c2]
    go_enter Tryz.func158, Tryz.ntmps158
    go_wp2
    go_ret
    exact ⟨ret_int HF.out.symm, rfl⟩
set_option maxHeartbeats 400000 in
theorem implFloorDiv (a b : Int) (w : World) :
    Calls Tryz.prog 224 #[.int .i64 a, .int .i64 b] w fun e w' => e = .returned (.int .i64 (floorDiv a b)) ∧ w' = w := by
  by_cases c1 : b ≤ 0
  · have HF : Hid (floorDiv a b = 0) := by unfold Hid floorDiv; rw [if_pos c1]
    go_enter Tryz.func224, Tryz.ntmps224
    go_wp2
    go_ret
    exact ⟨ret_int HF.out.symm, rfl⟩
  by_cases c2 : a.tmod b < 0
  · have HF : Hid (floorDiv a b = wrap64 (wrap64 (a.tdiv b) - 1)) := by unfold Hid floorDiv; rw [if_neg c1, if_pos c2]
    go_enter Tryz.func224, Tryz.ntmps224
    go_wp2
    go_ret
    exact ⟨ret_int HF.out.symm, rfl⟩
  · have HF : Hid (floorDiv a b = wrap64 (a.tdiv b)) := by unfold Hid floorDiv; rw [if_neg c1, if_neg c2]
    go_enter Tryz.func224, Tryz.ntmps224
    go_wp2
    go_ret
    exact ⟨ret_int HF.out.symm, rfl⟩
def calB (c : Int) : Bool := decide (c = 0) || decide (c = 1)
theorem calB_iff {c : Int} : calB c = true ↔ c = 0 ∨ c = 1 := by simp [calB]
theorem calB_no {c : Int} (h : ¬ (c = 0 ∨ c = 1)) : calB c = false := by
 simp only [not_or] at h
 simp [calB, h.1, h.2]
def leapP (c y : Int) : Prop := (c = 0 ∧ y.tmod 4 = 0) ∨ (c = 1 ∧ ((y.tmod 4 = 0 ∧ ¬ y.tmod 100 = 0) ∨ y.tmod 400 = 0))
instance (c y : Int) : Decidable (leapP c y) := by unfold leapP; infer_instance
def leapB (c y : Int) : Bool := decide (leapP c y)
theorem tmod0 (y : Int) (k : Int) : y.tmod k = 0 ↔ y % k = 0 := by
 rw [← Int.dvd_iff_tmod_eq_zero, ← Int.dvd_iff_emod_eq_zero]
theorem tmod_four {y : Int} (h : y.tmod 400 = 0) : y.tmod 4 = 0 := by
 rw [tmod0] at *
 omega
theorem leap_jul {y : Int} : leapP 0 y ↔ y % 4 = 0 := by
 unfold leapP
 rw [tmod0]
 omega
theorem leap_gre {y : Int} : leapP 1 y ↔ (y % 4 = 0 ∧ ¬ y % 100 = 0) ∨ y % 400 = 0 := by
 unfold leapP
 rw [tmod0, tmod0, tmod0]
 omega
def tab12 : List Int := [31, 28, 31, 30, 31, 30, 31, 31, 30, 31, 30, 31]
def monthDays (c y m : Int) : Int :=
 if (c = 0 ∨ c = 1) ∧ 1 ≤ m ∧ m ≤ 12 then (if m = 2 ∧ leapP c y then 29 else tab12.getD (m - 1).toNat 0) else 0
theorem monthDays_no {c y m : Int} (h : ¬ ((c = 0 ∨ c = 1) ∧ 1 ≤ m ∧ m ≤ 12)) : monthDays c y m = 0 := by unfold monthDays; rw [if_neg h]
theorem month_cases {m : Int} (h1 : 1 ≤ m) (h2 : m ≤ 12) : m = 1 ∨ m = 2 ∨ m = 3 ∨ m = 4 ∨ m = 5 ∨ m = 6 ∨ m = 7 ∨ m = 8 ∨ m = 9 ∨ m = 10 ∨ m = 11 ∨ m = 12 := by omega
theorem monthDays_le (c y m : Int) : 0 ≤ monthDays c y m ∧ monthDays c y m ≤ 31 := by
 unfold monthDays
 split
 · rename_i h
   split
   · omega
   · rcases month_cases h.2.1 h.2.2 with rfl | rfl | rfl | rfl | rfl | rfl | rfl | rfl | rfl | rfl | rfl | rfl <;> decide
 · omega
theorem monthDays_ge {c y m : Int} (hc : c = 0 ∨ c = 1) (h1 : 1 ≤ m) (h2 : m ≤ 12) : 28 ≤ monthDays c y m := by
 unfold monthDays
 rw [if_pos ⟨hc, h1, h2⟩]
 split
 · omega
 · rcases month_cases h1 h2 with rfl | rfl | rfl | rfl | rfl | rfl | rfl | rfl | rfl | rfl | rfl | rfl <;> decide
theorem monthDays_plain {c y m : Int} (hc : c = 0 ∨ c = 1) (h1 : 1 ≤ m) (h2 : m ≤ 12) (hn : ¬ (m = 2 ∧ leapP c y)) : monthDays c y m = tab12.getD (m - 1).toNat 0 := by
 unfold monthDays
 rw [if_pos ⟨hc, h1, h2⟩, if_neg hn]
theorem monthDays_leap {c y : Int} (hc : c = 0 ∨ c = 1) (hl : leapP c y) : monthDays c y 2 = 29 := by
 unfold monthDays
 rw [if_pos ⟨hc, by omega, by omega⟩, if_pos ⟨rfl, hl⟩]
def dateP (c y m d : Int) : Prop := (c = 0 ∨ c = 1) ∧ 1 ≤ y ∧ y ≤ 3000 ∧ 1 ≤ d ∧ d ≤ monthDays c y m
instance (c y m d : Int) : Decidable (dateP c y m d) := by unfold dateP; infer_instance
def dateOk (c y m d : Int) : Bool := decide (dateP c y m d)
theorem dateP_month {c y m d : Int} (h : dateP c y m d) : 1 ≤ m ∧ m ≤ 12 := by
 obtain ⟨h1, h2, h3, h4, h5⟩ := h
 by_cases hm : 1 ≤ m ∧ m ≤ 12
 · exact hm
 · rw [monthDays_no (fun h => hm h.2)] at h5
   omega
theorem dateP_day {c y m d : Int} (h : dateP c y m d) : 1 ≤ d ∧ d ≤ 31 := by
 obtain ⟨h1, h2, h3, h4, h5⟩ := h
 have := monthDays_le c y m
 omega
def before (c y : Int) : Nat → Int
  | 0 => 0
  | k + 1 => before c y k + monthDays c y (k + 1 : Nat)
theorem before_bound (c y : Int) (k : Nat) : 0 ≤ before c y k ∧ before c y k ≤ 31 * k := by
 induction k with
 | zero => simp [before]
 | succ k ih =>
  have := monthDays_le c y (k + 1 : Nat)
  simp only [before]
  omega
theorem before_mono (c y : Int) (k j : Nat) : before c y k ≤ before c y (k + j) := by
 induction j with
 | zero => simp
 | succ j ih =>
  have := monthDays_le c y (k + j + 1 : Nat)
  show _ ≤ before c y (k + j) + monthDays c y (k + j + 1 : Nat)
  omega
theorem before_12 {c y : Int} (hc : c = 0 ∨ c = 1) : before c y 12 = 365 + (if leapP c y then 1 else 0) := by
 have m1 := monthDays_plain (y := y) hc (m := 1) (by omega) (by omega) (by omega)
 have m3 := monthDays_plain (y := y) hc (m := 3) (by omega) (by omega) (by omega)
 have m4 := monthDays_plain (y := y) hc (m := 4) (by omega) (by omega) (by omega)
 have m5 := monthDays_plain (y := y) hc (m := 5) (by omega) (by omega) (by omega)
 have m6 := monthDays_plain (y := y) hc (m := 6) (by omega) (by omega) (by omega)
 have m7 := monthDays_plain (y := y) hc (m := 7) (by omega) (by omega) (by omega)
 have m8 := monthDays_plain (y := y) hc (m := 8) (by omega) (by omega) (by omega)
 have m9 := monthDays_plain (y := y) hc (m := 9) (by omega) (by omega) (by omega)
 have m10 := monthDays_plain (y := y) hc (m := 10) (by omega) (by omega) (by omega)
 have m11 := monthDays_plain (y := y) hc (m := 11) (by omega) (by omega) (by omega)
 have m12 := monthDays_plain (y := y) hc (m := 12) (by omega) (by omega) (by omega)
 by_cases hl : leapP c y
 · have m2 := monthDays_leap hc hl
   simp [before, m1, m2, m3, m4, m5, m6, m7, m8, m9, m10, m11, m12, hl, tab12]
 · have m2 := monthDays_plain (y := y) hc (m := 2) (by omega) (by omega) (fun h => hl h.2)
   simp [before, m1, m2, m3, m4, m5, m6, m7, m8, m9, m10, m11, m12, hl, tab12]
def first (c y : Int) : Int := 365 * (y - 1) + (y - 1) / 4 + (if c = 0 then -1 else (y - 1) / 400 - (y - 1) / 100 + 1)
theorem first_jul (y : Int) : first 0 y = 365 * (y - 1) + (y - 1) / 4 - 1 := by unfold first; rw [if_pos rfl]; omega
theorem first_gre (y : Int) : first 1 y = 365 * (y - 1) + (y - 1) / 4 - (y - 1) / 100 + (y - 1) / 400 + 1 := by unfold first; rw [if_neg (by omega)]; omega
theorem first_step {c : Int} (hc : c = 0 ∨ c = 1) (y : Int) : first c (y + 1) = first c y + before c y 12 := by
 rw [before_12 hc]
 rcases hc with rfl | rfl
 · rw [first_jul, first_jul]
   by_cases h : leapP 0 y
   · rw [if_pos h]; rw [leap_jul] at h; omega
   · rw [if_neg h]; rw [leap_jul] at h; omega
 · rw [first_gre, first_gre]
   by_cases h : leapP 1 y
   · rw [if_pos h]; rw [leap_gre] at h; omega
   · rw [if_neg h]; rw [leap_gre] at h; omega
theorem first_lt {c y z : Int} (hc : c = 0 ∨ c = 1) (h : y < z) : first c y < first c z := by
 rcases hc with rfl | rfl
 · rw [first_jul, first_jul]; omega
 · rw [first_gre, first_gre]; omega
theorem year_one {c y z n : Int} (hc : c = 0 ∨ c = 1) (h1 : first c y ≤ n) (h2 : n < first c (y + 1)) (h3 : first c z ≤ n) (h4 : n < first c (z + 1)) : y = z := by
 by_cases h : y < z
 · by_cases h' : y + 1 = z
   · subst h'; omega
   · have := first_lt hc (show y + 1 < z by omega); omega
 · by_cases h' : z < y
   · by_cases h'' : z + 1 = y
     · subst h''; omega
     · have := first_lt hc (show z + 1 < y by omega); omega
   · omega
noncomputable def yearOf (c n : Int) : Int := Classical.epsilon fun y => first c y ≤ n ∧ n < first c (y + 1)
theorem yearOf_eq {c y n : Int} (hc : c = 0 ∨ c = 1) (h1 : first c y ≤ n) (h2 : n < first c (y + 1)) : yearOf c n = y := by
 have h := Classical.epsilon_spec (p := fun y => first c y ≤ n ∧ n < first c (y + 1)) ⟨y, h1, h2⟩
 exact year_one hc h.1 h.2 h1 h2
theorem month_one {c y n : Int} {k j : Nat} (h1 : before c y k ≤ n) (h2 : n < before c y (k + 1)) (h3 : before c y j ≤ n) (h4 : n < before c y (j + 1)) : k = j := by
 by_cases h : k < j
 · have := before_mono c y (k + 1) (j - (k + 1))
   rw [show k + 1 + (j - (k + 1)) = j from by omega] at this
   omega
 · by_cases h' : j < k
   · have := before_mono c y (j + 1) (k - (j + 1))
     rw [show j + 1 + (k - (j + 1)) = k from by omega] at this
     omega
   · omega
noncomputable def monthOf (c y n : Int) : Nat := Classical.epsilon fun k => before c y k ≤ n ∧ n < before c y (k + 1)
theorem monthOf_eq {c y n : Int} {k : Nat} (h1 : before c y k ≤ n) (h2 : n < before c y (k + 1)) : monthOf c y n = k := by
 have h := Classical.epsilon_spec (p := fun k => before c y k ≤ n ∧ n < before c y (k + 1)) ⟨k, h1, h2⟩
 exact month_one h.1 h.2 h1 h2
def dayOf (c y m d : Int) : Int := if dateP c y m d then first c y + before c y (m - 1).toNat + d - 1 else 0
theorem first_bound {c y : Int} (hc : c = 0 ∨ c = 1) (h1 : -5 ≤ y) (h2 : y ≤ 4000) : -2800 ≤ first c y ∧ first c y ≤ 1470000 := by
 rcases hc with rfl | rfl
 · rw [first_jul]; omega
 · rw [first_gre]; omega
theorem dayOf_bound (c y m d : Int) : -2800 ≤ dayOf c y m d ∧ dayOf c y m d ≤ 1500000 := by
 unfold dayOf
 split
 · rename_i h
   have h1 := first_bound h.1 (show -5 ≤ y by have := h.2.1; omega) (show y ≤ 4000 by have := h.2.2.1; omega)
   have h2 := before_bound c y (m - 1).toNat
   have h3 := dateP_month h
   have h4 := dateP_day h
   omega
 · omega
noncomputable def dateOf (c n : Int) : Int × Int × Int × Int × Bool :=
 if (c = 0 ∨ c = 1) ∧ 1 ≤ yearOf c n ∧ yearOf c n ≤ 3000 ∧ -1000 ≤ n ∧ n ≤ 1200000 then
  (c, yearOf c n, (monthOf c (yearOf c n) (n - first c (yearOf c n)) : Int) + 1, n - first c (yearOf c n) - before c (yearOf c n) (monthOf c (yearOf c n) (n - first c (yearOf c n))) + 1, true)
 else (0, 0, 0, 0, false)
theorem floorDiv_small {a b : Int} (hb : 0 < b) (h1 : -4611686018427387904 ≤ a) (h2 : a ≤ 4611686018427387904) : floorDiv a b = a / b := by
 have hd := Int.mul_tdiv_add_tmod a b
 have he := Int.mul_ediv_add_emod a b
 have he1 := Int.emod_nonneg a (show b ≠ 0 by omega)
 have he2 := Int.emod_lt_of_pos a hb
 have hq : (a.tdiv b).natAbs ≤ a.natAbs := by rw [Int.natAbs_tdiv]; exact Nat.div_le_self _ _
 have hr : a.tmod b < b := Int.tmod_lt_of_pos a hb
 have hl : -b < a.tmod b := by
  have := Int.tmod_lt_of_pos (-a) hb
  rw [Int.neg_tmod] at this
  omega
 unfold floorDiv
 rw [if_neg (by omega), in_range (a.tdiv b) (by omega)]
 by_cases h : a.tmod b < 0
 · rw [if_pos h, in_range _ (by omega)]
   apply Int.le_antisymm
   · rw [Int.le_ediv_iff_mul_le hb, Int.sub_mul, Int.mul_comm]; omega
   · have : a / b < a.tdiv b - 1 + 1 := by
      apply Int.ediv_lt_of_lt_mul hb
      rw [show a.tdiv b - 1 + 1 = a.tdiv b by omega, Int.mul_comm]; omega
     omega
 · rw [if_neg h]
   apply Int.le_antisymm
   · rw [Int.le_ediv_iff_mul_le hb, Int.mul_comm]; omega
   · have : a / b < a.tdiv b + 1 := by
      apply Int.ediv_lt_of_lt_mul hb
      rw [Int.add_mul, Int.mul_comm]; omega
     omega
theorem specCal (c : Int) (w : World) : Calls Tryz.prog 111 #[.int .i64 c] w fun e w' => e = .returned (.bool (calB c)) ∧ w' = w := by
 by_cases h0 : c = 0
 · subst h0
   go_enter Tryz.func111, Tryz.ntmps111
   go_wp2
   go_ret
   exact ⟨by first | rfl | exact ret_bool (by simp [*]), rfl⟩
 by_cases h1 : c = 1
 · subst h1
   go_enter Tryz.func111, Tryz.ntmps111
   go_wp2
   go_ret
   exact ⟨by first | rfl | exact ret_bool (by simp [*]), rfl⟩
 rw [calB_no (by omega)]
 go_enter Tryz.func111, Tryz.ntmps111
 go_wp2
 go_ret
 exact ⟨by first | rfl | exact ret_bool (by simp [*]), rfl⟩
theorem leapB_true {c y : Int} (h : leapP c y) : leapB c y = true := decide_eq_true h
theorem leapB_false {c y : Int} (h : ¬ leapP c y) : leapB c y = false := decide_eq_false h
theorem specLeap (c y : Int) (w : World) : Calls Tryz.prog 118 #[.int .i64 c, .int .i64 y] w fun e w' => e = .returned (.bool (leapB c y)) ∧ w' = w := by
 by_cases h0 : c = 0
 · subst h0
   by_cases h4 : y.tmod 4 = 0
   · rw [leapB_true (.inl ⟨rfl, h4⟩)]
     go_enter Tryz.func118, Tryz.ntmps118
     go_wp2
     go_ret
     exact ⟨by first | rfl | exact ret_bool (by simp [*]), rfl⟩
   · rw [leapB_false (by unfold leapP; omega)]
     go_enter Tryz.func118, Tryz.ntmps118
     go_wp2
     go_ret
     exact ⟨by first | rfl | exact ret_bool (by simp [*]), rfl⟩
 by_cases h1 : c = 1
 · subst h1
   by_cases h4 : y.tmod 4 = 0
   · by_cases h100 : y.tmod 100 = 0
     · by_cases h400 : y.tmod 400 = 0
       · rw [leapB_true (.inr ⟨rfl, .inr h400⟩)]
         go_enter Tryz.func118, Tryz.ntmps118
         go_wp2
         go_ret
         exact ⟨by first | rfl | exact ret_bool (by simp [*]), rfl⟩
       · rw [leapB_false (by unfold leapP; omega)]
         go_enter Tryz.func118, Tryz.ntmps118
         go_wp2
         go_ret
         exact ⟨by first | rfl | exact ret_bool (by simp [*]), rfl⟩
     · rw [leapB_true (.inr ⟨rfl, .inl ⟨h4, h100⟩⟩)]
       go_enter Tryz.func118, Tryz.ntmps118
       go_wp2
       go_ret
       exact ⟨by first | rfl | exact ret_bool (by simp [*]), rfl⟩
   · have h400 : ¬ y.tmod 400 = 0 := fun h => h4 (tmod_four h)
     rw [leapB_false (by unfold leapP; omega)]
     go_enter Tryz.func118, Tryz.ntmps118
     go_wp2
     go_ret
     exact ⟨by first | rfl | exact ret_bool (by simp [*]), rfl⟩
 rw [leapB_false (by unfold leapP; omega)]
 go_enter Tryz.func118, Tryz.ntmps118
 go_wp2
 go_ret
 exact ⟨by first | rfl | exact ret_bool (by simp [*]), rfl⟩
theorem implCal0 (w : World) : Calls Tryz.prog 138 #[.int .i64 0] w fun e w' => e = .returned (.iface 175 (.agg #[])) ∧ w' = w := by
 go_enter Tryz.func138, Tryz.ntmps138
 go_wp2
 go_ret
 exact ⟨rfl, rfl⟩
theorem implCal1 (w : World) : Calls Tryz.prog 138 #[.int .i64 1] w fun e w' => e = .returned (.iface 176 (.agg #[])) ∧ w' = w := by
 go_enter Tryz.func138, Tryz.ntmps138
 go_wp2
 go_ret
 exact ⟨rfl, rfl⟩
theorem implCalNo (c : Int) (h0 : ¬ c = 0) (h1 : ¬ c = 1) (w : World) : Calls Tryz.prog 138 #[.int .i64 c] w fun e w' => e = .returned .nilIface ∧ w' = w := by
 go_enter Tryz.func138, Tryz.ntmps138
 go_wp2
 go_ret
 exact ⟨rfl, rfl⟩
/- What a type switch asks of a calendar: closed facts over the program's tables. -/
theorem isJulJul (w : World) : (Instr.typeAssert (.iface 175 (.agg #[])) 155 175 true).run Tryz.prog w = .ok (.tuple #[.agg #[], .bool true]) w := by kernel_rfl
theorem isJulGre (w : World) : (Instr.typeAssert (.iface 176 (.agg #[])) 155 175 true).run Tryz.prog w = .ok (.tuple #[.agg #[], .bool false]) w := by kernel_rfl
theorem isGreGre (w : World) : (Instr.typeAssert (.iface 176 (.agg #[])) 155 176 true).run Tryz.prog w = .ok (.tuple #[.agg #[], .bool true]) w := by kernel_rfl
theorem isJulNil (w : World) : (Instr.typeAssert .nilIface 155 175 true).run Tryz.prog w = .ok (.tuple #[.agg #[], .bool false]) w := by kernel_rfl
theorem isGreNil (w : World) : (Instr.typeAssert .nilIface 155 176 true).run Tryz.prog w = .ok (.tuple #[.agg #[], .bool false]) w := by kernel_rfl
theorem leapJul (y : Int) (w : World) : CR 337 #[.agg #[], .int .i64 y] w (.bool (leapB 0 y)) := by
 have h : leapB 0 y = (y.tmod 4 == 0) := by
  by_cases h : y.tmod 4 = 0
  · rw [leapB_true (.inl ⟨rfl, h⟩), h]; rfl
  · rw [leapB_false (by unfold leapP; omega)]; simp [h]
 rw [h]
 clear h
 go_enter Tryz.func337, Tryz.ntmps337
 go_wp2
 go_ret
 exact ⟨rfl, (Below.refl _ _).alloc (Nat.le_refl _) _⟩
theorem leapGre (y : Int) (w : World) : CR 339 #[.agg #[], .int .i64 y] w (.bool (leapB 1 y)) := by
 by_cases h4 : y.tmod 4 = 0
 · by_cases h100 : y.tmod 100 = 0
   · by_cases h400 : y.tmod 400 = 0
     · rw [leapB_true (.inr ⟨rfl, .inr h400⟩)]
       go_enter Tryz.func339, Tryz.ntmps339
       go_wp2
       go_ret
       exact ⟨by first | rfl | exact ret_bool (by simp [*]), (Below.refl _ _).alloc (Nat.le_refl _) _⟩
     · rw [leapB_false (by unfold leapP; omega)]
       go_enter Tryz.func339, Tryz.ntmps339
       go_wp2
       go_ret
       exact ⟨by first | rfl | exact ret_bool (by simp [*]), (Below.refl _ _).alloc (Nat.le_refl _) _⟩
   · rw [leapB_true (.inr ⟨rfl, .inl ⟨h4, h100⟩⟩)]
     go_enter Tryz.func339, Tryz.ntmps339
     go_wp2
     go_ret
     exact ⟨by first | rfl | exact ret_bool (by simp [*]), (Below.refl _ _).alloc (Nat.le_refl _) _⟩
 · have h400 : ¬ y.tmod 400 = 0 := fun h => h4 (tmod_four h)
   rw [leapB_false (by unfold leapP; omega)]
   go_enter Tryz.func339, Tryz.ntmps339
   go_wp2
   go_ret
   exact ⟨by first | rfl | exact ret_bool (by simp [*]), (Below.refl _ _).alloc (Nat.le_refl _) _⟩
theorem implLeap (c y : Int) (w : World) : CR 211 #[.int .i64 c, .int .i64 y] w (.bool (leapB c y)) := by
 by_cases h0 : c = 0
 · subst h0
   go_enter Tryz.func211, Tryz.ntmps211
   go_wp2_with fail
   refine (implCal0 _).mono ?_
   rintro e w1 ⟨rfl, rfl⟩
   go_wp2_with (go_at_call 337; refine (leapJul _ _).mono ?_; rintro e w1 ⟨rfl, hb⟩)
   go_ret
   exact ⟨rfl, hb⟩
 by_cases h1 : c = 1
 · subst h1
   go_enter Tryz.func211, Tryz.ntmps211
   go_wp2_with fail
   refine (implCal1 _).mono ?_
   rintro e w1 ⟨rfl, rfl⟩
   go_wp2_with (go_at_call 339; refine (leapGre _ _).mono ?_; rintro e w1 ⟨rfl, hb⟩)
   go_ret
   exact ⟨rfl, hb⟩
 rw [leapB_false (by unfold leapP; omega)]
 go_enter Tryz.func211, Tryz.ntmps211
 go_wp2_with fail
 refine (implCalNo _ h0 h1 _).mono ?_
 rintro e w1 ⟨rfl, rfl⟩
 go_wp2
 go_ret
 exact ⟨rfl, Below.refl _ _⟩
def calText (c : Int) : ByteArray := if c = 0 then ⟨#[106, 117, 108]⟩ else if c = 1 then ⟨#[103, 114, 101]⟩ else ⟨#[]⟩
theorem specCalName (c : Int) (w : World) : Calls Tryz.prog 98 #[.int .i64 c] w fun e w' => e = .returned (.string (calText c)) ∧ w' = w := by
 by_cases h0 : c = 0
 · subst h0
   go_enter Tryz.func98, Tryz.ntmps98
   go_wp2
   go_ret
   exact ⟨rfl, rfl⟩
 by_cases h1 : c = 1
 · subst h1
   go_enter Tryz.func98, Tryz.ntmps98
   go_wp2
   go_ret
   exact ⟨rfl, rfl⟩
 rw [show calText c = ⟨#[]⟩ from by unfold calText; rw [if_neg h0, if_neg h1]]
 go_enter Tryz.func98, Tryz.ntmps98
 go_wp2
 go_ret
 exact ⟨rfl, rfl⟩
theorem implCalName (c : Int) (w : World) : Calls Tryz.prog 101 #[.int .i64 c] w fun e w' => e = .returned (.string (calText c)) ∧ w' = w := by
 by_cases h0 : c = 0
 · subst h0
   go_enter Tryz.func101, Tryz.ntmps101
   go_wp2_with fail
   refine (implCal0 _).mono ?_
   rintro e w1 ⟨rfl, rfl⟩
   have q1 := isJulJul
   go_wp2
   go_ret
   exact ⟨rfl, rfl⟩
 by_cases h1 : c = 1
 · subst h1
   go_enter Tryz.func101, Tryz.ntmps101
   go_wp2_with fail
   refine (implCal1 _).mono ?_
   rintro e w1 ⟨rfl, rfl⟩
   have q1 := isJulGre
   have q2 := isGreGre
   go_wp2
   go_ret
   exact ⟨rfl, rfl⟩
 rw [show calText c = ⟨#[]⟩ from by unfold calText; rw [if_neg h0, if_neg h1]]
 go_enter Tryz.func101, Tryz.ntmps101
 go_wp2_with fail
 refine (implCalNo _ h0 h1 _).mono ?_
 rintro e w1 ⟨rfl, rfl⟩
 have q1 := isJulNil
 have q2 := isGreNil
 go_wp2
 go_ret
 exact ⟨rfl, rfl⟩
set_option maxHeartbeats 2000000 in
theorem specMonthDays (c y m : Int) (w : World) : CR 114 #[.int .i64 c, .int .i64 y, .int .i64 m] w (.int .i64 (monthDays c y m)) := by
 by_cases hc : c = 0 ∨ c = 1
 · have hC : calB c = true := calB_iff.2 hc
   by_cases hm : 1 ≤ m ∧ m ≤ 12
   · have hI : inB m 1 12 = true := inB_true hm.1 hm.2
     by_cases h2 : m = 2
     · subst h2
       by_cases hl : leapP c y
       · rw [monthDays_leap hc hl]
         have hL := leapB_true hl
         clear hl hc hm
         go_enter Tryz.func114, Tryz.ntmps114
         go_wp2_with fail
         refine (specCal _ _).mono ?_
         rintro e w1 ⟨rfl, rfl⟩
         rw [hC]
         go_wp2_with fail
         refine (l01In _ _ _ _).mono ?_
         rintro e w1 ⟨rfl, rfl⟩
         rw [hI]
         go_wp2_with fail
         refine (specLeap _ _ _).mono ?_
         rintro e w1 ⟨rfl, rfl⟩
         rw [hL]
         go_wp2
         go_ret
         exact ⟨rfl, Below.refl _ _⟩
       · have hL := leapB_false hl
         rw [monthDays_plain hc hm.1 hm.2 (fun h => hl h.2)]
         clear hl hc hm
         go_enter Tryz.func114, Tryz.ntmps114
         go_wp2_with fail
         refine (specCal _ _).mono ?_
         rintro e w1 ⟨rfl, rfl⟩
         rw [hC]
         go_wp2_with fail
         refine (l01In _ _ _ _).mono ?_
         rintro e w1 ⟨rfl, rfl⟩
         rw [hI]
         go_wp2_with fail
         refine (specLeap _ _ _).mono ?_
         rintro e w1 ⟨rfl, rfl⟩
         rw [hL]
         go_wp2
         go_ret
         exact ⟨rfl, (Below.refl _ _).alloc (Nat.le_refl _) _⟩
     · rw [monthDays_plain hc hm.1 hm.2 (fun h => h2 h.1)]
       have hm1 := hm.1
       have hm2 := hm.2
       clear hm hc
       rcases month_cases hm1 hm2 with rfl | rfl | rfl | rfl | rfl | rfl | rfl | rfl | rfl | rfl | rfl | rfl
       all_goals first
        | exact absurd rfl h2
        | (clear hm1 hm2 h2
           go_enter Tryz.func114, Tryz.ntmps114
           go_wp2_with fail
           refine (specCal _ _).mono ?_
           rintro e w1 ⟨rfl, rfl⟩
           rw [hC]
           go_wp2_with fail
           refine (l01In _ _ _ _).mono ?_
           rintro e w1 ⟨rfl, rfl⟩
           rw [hI]
           go_wp2
           go_ret
           exact ⟨rfl, (Below.refl _ _).alloc (Nat.le_refl _) _⟩)
   · have hI : inB m 1 12 = false := inB_false (by omega)
     rw [monthDays_no (fun h => hm h.2)]
     go_enter Tryz.func114, Tryz.ntmps114
     go_wp2_with fail
     refine (specCal _ _).mono ?_
     rintro e w1 ⟨rfl, rfl⟩
     rw [hC]
     go_wp2_with fail
     refine (l01In _ _ _ _).mono ?_
     rintro e w1 ⟨rfl, rfl⟩
     rw [hI]
     go_wp2
     go_ret
     exact ⟨rfl, Below.refl _ _⟩
 · have hC : calB c = false := calB_no hc
   rw [monthDays_no (fun h => hc h.1)]
   go_enter Tryz.func114, Tryz.ntmps114
   go_wp2_with fail
   refine (specCal _ _).mono ?_
   rintro e w1 ⟨rfl, rfl⟩
   rw [hC]
   go_wp2
   go_ret
   exact ⟨rfl, Below.refl _ _⟩
theorem dateOk_true {c y m d : Int} (h : dateP c y m d) : dateOk c y m d = true := decide_eq_true h
theorem dateOk_false {c y m d : Int} (h : ¬ dateP c y m d) : dateOk c y m d = false := decide_eq_false h
set_option maxHeartbeats 400000 in
theorem specDateOk (c y m d : Int) (w : World) : CR 115 #[.agg #[.int .i64 c, .int .i64 y, .int .i64 m, .int .i64 d]] w (.bool (dateOk c y m d)) := by
 have hD : dateOk c y m d = (calB c && (inB y 1 3000 && inB d 1 (monthDays c y m))) := by
  by_cases hc : c = 0 ∨ c = 1
  · rw [calB_iff.2 hc]
    by_cases hp : dateP c y m d
    · rw [dateOk_true hp, inB_true hp.2.1 hp.2.2.1, inB_true hp.2.2.2.1 hp.2.2.2.2]; rfl
    · rw [dateOk_false hp]
      by_cases hy : 1 ≤ y ∧ y ≤ 3000
      · rw [inB_true hy.1 hy.2, inB_false (x := d)]; rfl
        by_cases h1 : d < 1
        · exact .inl h1
        · refine .inr ?_
          by_cases h2 : monthDays c y m < d
          · exact h2
          · exact absurd ⟨hc, hy.1, hy.2, by omega, by omega⟩ hp
      · rw [inB_false (x := y) (by omega)]; rfl
  · rw [calB_no hc, dateOk_false (fun h => hc h.1)]; rfl
 rw [hD]
 clear hD
 cases hC : calB c
 · have KC : ∀ W, Calls Tryz.prog 111 #[.int .i64 c] W fun e w' => e = .returned (.bool false) ∧ w' = W := fun W => by rw [← hC]; exact specCal c W
   go_enter Tryz.func115, Tryz.ntmps115
   go_wp2
   go_quiet ((go_at_call 111; exact Calls.quiet_of_same (KC _)))
   go_wp2
   go_ret
   exact ⟨rfl, Below_drewN ((Below.refl _ _).alloc (Nat.le_refl _) _) _⟩
 have KC : ∀ W, Calls Tryz.prog 111 #[.int .i64 c] W fun e w' => e = .returned (.bool true) ∧ w' = W := fun W => by rw [← hC]; exact specCal c W
 cases hY : inB y 1 3000
 · have KY : ∀ W, Calls Tryz.prog 45 #[.int .i64 y, .int .i64 1, .int .i64 3000] W fun e w' => e = .returned (.bool false) ∧ w' = W := fun W => by rw [← hY]; exact l01In y 1 3000 W
   go_enter Tryz.func115, Tryz.ntmps115
   go_wp2
   go_quiet (first | (go_at_call 111; exact Calls.quiet_of_same (KC _)) | (go_at_call 45; exact Calls.quiet_of_same (KY _)))
   go_wp2
   go_ret
   exact ⟨rfl, Below_drewN ((Below.refl _ _).alloc (Nat.le_refl _) _) _⟩
 have KY : ∀ W, Calls Tryz.prog 45 #[.int .i64 y, .int .i64 1, .int .i64 3000] W fun e w' => e = .returned (.bool true) ∧ w' = W := fun W => by rw [← hY]; exact l01In y 1 3000 W
 have W0 : ∃ W0, W0 = w.alloc (.cells #[.int .i64 c, .int .i64 y, .int .i64 m, .int .i64 d] 99) := ⟨_, rfl⟩
 obtain ⟨W0, hW0⟩ := W0
 have c0 : ∀ x : Later W0, x.w.cell? ⟨w.heap.size, 0, none⟩ = some (.int .i64 c) := Later.new hW0 0 rfl
 have c1 : ∀ x : Later W0, x.w.cell? ⟨w.heap.size, 1, none⟩ = some (.int .i64 y) := Later.new hW0 1 rfl
 have c2 : ∀ x : Later W0, x.w.cell? ⟨w.heap.size, 2, none⟩ = some (.int .i64 m) := Later.new hW0 2 rfl
 have c3 : ∀ x : Later W0, x.w.cell? ⟨w.heap.size, 3, none⟩ = some (.int .i64 d) := Later.new hW0 3 rfl
 have HW0 : Hid (W0 = _) := hW0
 clear hW0
 have KM : ∀ W, CR 114 #[.int .i64 c, .int .i64 y, .int .i64 m] W (.int .i64 (monthDays c y m)) := specMonthDays c y m
 have KD : ∀ W, Calls Tryz.prog 45 #[.int .i64 d, .int .i64 1, .int .i64 (monthDays c y m)] W fun e w' => e = .returned (.bool (inB d 1 (monthDays c y m))) ∧ w' = W := l01In d 1 (monthDays c y m)
 clear hC hY
 generalize inB d 1 (monthDays c y m) = bd at *
 generalize monthDays c y m = md at *
 go_enter Tryz.func115, Tryz.ntmps115
 go_wp2
 rw [← HW0.out]
 refine wp_region_later (W := W0) (Below.refl _ _) (by kernel_rfl) (by kernel_rfl) ?_
 repeat (go_big_quiet_step (first | (go_at_call 111; exact calls_same (KC _)) | (go_at_call_of 45 y; exact calls_same (KY _)) | (go_at_call_of 45 d; exact calls_same (KD _)) | (go_at_call 114; exact calls_later (KM _))))
 refine wpQuiet_nil ?_
 intro _ hw'
 obtain ⟨x, rfl⟩ := hw'
 go_wp2
 go_ret
 exact ⟨rfl, below_of_alloc HW0.out x.below⟩
def nones (m : Int) : Int := if 1 ≤ m ∧ m ≤ 12 then (if m = 3 ∨ m = 5 ∨ m = 7 ∨ m = 10 then 7 else 5) else 0
def ides (m : Int) : Int := if 1 ≤ m ∧ m ≤ 12 then nones m + 8 else 0
theorem nones_b (m : Int) : 0 ≤ nones m ∧ nones m ≤ 7 := by
 unfold nones
 split
 · split <;> omega
 · omega
theorem ides_b (m : Int) : 0 ≤ ides m ∧ ides m ≤ 15 := by
 have := nones_b m
 unfold ides
 split <;> omega
theorem ides_in {m : Int} (h1 : 1 ≤ m) (h2 : m ≤ 12) : ides m = nones m + 8 := by unfold ides; rw [if_pos ⟨h1, h2⟩]
theorem nones_in {m : Int} (h1 : 1 ≤ m) (h2 : m ≤ 12) : 5 ≤ nones m := by
 unfold nones
 rw [if_pos ⟨h1, h2⟩]
 split <;> omega
structure Rom where
 count : Int
 mark : Int
 month : Int
 twice : Bool
instance : DecidableEq Rom := fun a b =>
 if h : a.count = b.count ∧ a.mark = b.mark ∧ a.month = b.month ∧ a.twice = b.twice then .isTrue (by cases a; cases b; simp at h; simp [h]) else .isFalse (fun e => h (by subst e; exact ⟨rfl, rfl, rfl, rfl⟩))
def countDays (c y m d : Int) : Int := if m = 2 ∧ d ≤ 24 then 28 else monthDays c y m
def romanIn (c y m d : Int) : Rom :=
 if d = 1 then ⟨1, 0, m, false⟩
 else if d ≤ nones m then ⟨nones m - d + 1, 1, m, false⟩
 else if d ≤ ides m then ⟨ides m - d + 1, 2, m, false⟩
 else ⟨countDays c y m d - d + 2, 0, m % 12 + 1, decide (m = 2 ∧ d = 24 ∧ leapP c y)⟩
def romanOf (c y m d : Int) : Rom := if dateP c y m d then romanIn c y m d else ⟨0, 0, 0, false⟩
def monAhead (m : Int) : Int := if m = 1 then 12 else m - 1
def invM (r : Rom) : Int := if r.mark = 0 ∧ r.count ≠ 1 then monAhead r.month else r.month
def invD (c y : Int) (r : Rom) : Int :=
 if r.mark = 0 then
  if r.count = 1 then 1
  else if monAhead r.month = 2 ∧ leapP c y ∧ (6 < r.count ∨ r.twice = true) then 30 - r.count
  else monthDays c y (monAhead r.month) + 2 - r.count
 else if r.mark = 1 then nones r.month + 1 - r.count
 else ides r.month + 1 - r.count
theorem inv_back {c y m d : Int} (h : dateP c y m d) : invM (romanOf c y m d) = m ∧ invD c y (romanOf c y m d) = d := by
 have hm := dateP_month h
 have hd := dateP_day h
 have hn := nones_in hm.1 hm.2
 have hi := ides_in hm.1 hm.2
 unfold romanOf
 rw [if_pos h]
 unfold romanIn
 by_cases h1 : d = 1
 · rw [if_pos h1]
   unfold invM invD
   simp [h1]
 rw [if_neg h1]
 by_cases h2 : d ≤ nones m
 · rw [if_pos h2]
   unfold invM invD
   simp
   omega
 rw [if_neg h2]
 by_cases h3 : d ≤ ides m
 · rw [if_pos h3]
   unfold invM invD
   simp
   omega
 rw [if_neg h3]
 have hA : monAhead (m % 12 + 1) = m := by unfold monAhead; split <;> omega
 have hmd := h.2.2.2.2
 have hc := h.1
 have hcd : countDays c y m d - d + 2 ≠ 1 := by
  unfold countDays
  split <;> omega
 unfold invM invD
 simp only [hA]
 rw [if_pos ⟨trivial, hcd⟩, if_pos trivial, if_neg hcd]
 refine ⟨rfl, ?_⟩
 by_cases e2 : m = 2
 · subst e2
   by_cases hl : leapP c y
   · have h29 := monthDays_leap hc hl
     rw [h29] at hmd
     by_cases h24 : d ≤ 24
     · have hk : countDays c y 2 d = 28 := by unfold countDays; rw [if_pos ⟨rfl, h24⟩]
       rw [hk, if_pos]
       · omega
       · refine ⟨rfl, hl, ?_⟩
         by_cases e : d = 24
         · right
           simp [e, hl]
         · left
           omega
     · have hk : countDays c y 2 d = 29 := by unfold countDays; rw [if_neg (fun h => h24 h.2), h29]
       rw [hk, h29, if_neg]
       · omega
       · rintro ⟨_, _, h | h⟩
         · omega
         · simp at h
           omega
   · rw [if_neg (fun h => hl h.2.1)]
     have h28 : monthDays c y 2 = 28 := monthDays_plain hc (by omega) (by omega) (fun h => hl h.2)
     unfold countDays
     rw [h28]
     split <;> omega
 · rw [if_neg (fun h => e2 h.1)]
   unfold countDays
   rw [if_neg (fun h => e2 h.1)]
   omega
def isDay (c y : Int) (r : Rom) (m d : Int) : Prop := dateP c y m d ∧ romanOf c y m d = r
theorem isDay_inv {c y m d : Int} {r : Rom} (h : isDay c y r m d) : m = invM r ∧ d = invD c y r := by
 have := inv_back h.1
 rw [h.2] at this
 exact ⟨this.1.symm, this.2.symm⟩
def dayR (c y : Int) (r : Rom) : Bool := decide (dateP c y (invM r) (invD c y r) ∧ romanOf c y (invM r) (invD c y r) = r)
theorem dayR_of {c y m d : Int} {r : Rom} (h : isDay c y r m d) : dayR c y r = true := by
 obtain ⟨rfl, rfl⟩ := isDay_inv h
 exact decide_eq_true h
instance (c y : Int) (r : Rom) (m d : Int) : Decidable (isDay c y r m d) := by unfold isDay; infer_instance
theorem dayR_is {c y : Int} {r : Rom} (h : dayR c y r = true) : isDay c y r (invM r) (invD c y r) := by
 unfold dayR at h
 exact of_decide_eq_true h
def dayOfRoman (c y : Int) (r : Rom) : Int × Int × Int × Int := if dayR c y r = true then (c, y, invM r, invD c y r) else (0, 0, 0, 0)
theorem romDay_yes {c y m d : Int} {r : Rom} (h : isDay c y r m d) : dayOfRoman c y r = (c, y, m, d) := by
 unfold dayOfRoman
 rw [if_pos (dayR_of h)]
 obtain ⟨rfl, rfl⟩ := isDay_inv h
 rfl
theorem romDay_no {c y : Int} {r : Rom} (h : ∀ m d, ¬ isDay c y r m d) : dayOfRoman c y r = (0, 0, 0, 0) := by
 unfold dayOfRoman
 rw [if_neg (fun k => h _ _ (dayR_is k))]
def romB (r : Rom) : Bool := dayR 0 4 r
theorem leap4 : leapP 0 4 := by decide
theorem romB_any {c y m d : Int} (h : dateP c y m d) : romB (romanOf c y m d) = true := by
 have hm := dateP_month h
 have hd := dateP_day h
 have hn := nones_in hm.1 hm.2
 have hi := ides_in hm.1 hm.2
 have hc := h.1
 have hmd := h.2.2.2.2
 by_cases e2 : m = 2
 · subst e2
   by_cases hlow : d ≤ 23 ∨ leapP c y
   · have hP : dateP 0 4 2 d := ⟨.inl rfl, by omega, by omega, h.2.2.2.1, by
      rw [monthDays_leap (.inl rfl) leap4]
      by_cases hl : leapP c y
      · rw [monthDays_leap hc hl] at hmd
        exact hmd
      · rw [monthDays_plain hc (by omega) (by omega) (fun h => hl h.2)] at hmd
        have : tab12.getD ((2 : Int) - 1).toNat 0 = 28 := rfl
        omega⟩
     refine dayR_of (m := 2) (d := d) ⟨hP, ?_⟩
     unfold romanOf
     rw [if_pos h, if_pos hP]
     have hcd : countDays 0 4 2 d = countDays c y 2 d := by
      unfold countDays
      by_cases h24 : d ≤ 24
      · rw [if_pos ⟨rfl, h24⟩, if_pos ⟨rfl, h24⟩]
      · have hl : leapP c y := by
         rcases hlow with h | h
         · omega
         · exact h
        rw [if_neg (fun h => h24 h.2), if_neg (fun h => h24 h.2), monthDays_leap (.inl rfl) leap4, monthDays_leap hc hl]
     have htw : decide ((2 : Int) = 2 ∧ d = 24 ∧ leapP 0 4) = decide ((2 : Int) = 2 ∧ d = 24 ∧ leapP c y) := by
      by_cases e : d = 24
      · have hl : leapP c y := by
         rcases hlow with h | h
         · omega
         · exact h
        simp [e, hl, leap4]
      · simp [e]
     unfold romanIn
     rw [hcd, htw]
   · have hl : ¬ leapP c y := fun k => hlow (.inr k)
     have h28 : monthDays c y 2 = 28 := monthDays_plain hc (by omega) (by omega) (fun h => hl h.2)
     rw [h28] at hmd
     have hP : dateP 0 4 2 (d + 1) := ⟨.inl rfl, by omega, by omega, by omega, by rw [monthDays_leap (.inl rfl) leap4]; omega⟩
     refine dayR_of (m := 2) (d := d + 1) ⟨hP, ?_⟩
     have hn2 : nones 2 = 5 := rfl
     have hi2 : ides 2 = 13 := rfl
     unfold romanOf
     rw [if_pos h, if_pos hP]
     unfold romanIn countDays
     rw [if_neg (by omega), if_neg (by omega), if_neg (by omega), if_neg (by omega), if_neg (by omega), if_neg (by omega), if_neg (by omega), monthDays_leap (.inl rfl) leap4, h28]
     simp [hl, show ¬ d + 1 = 24 by omega]
     omega
 · have hsame : monthDays 0 4 m = monthDays c y m := by
    rw [monthDays_plain hc hm.1 hm.2 (fun h => e2 h.1), monthDays_plain (.inl rfl) hm.1 hm.2 (fun h => e2 h.1)]
   have hP : dateP 0 4 m d := ⟨.inl rfl, by omega, by omega, h.2.2.2.1, by rw [hsame]; exact hmd⟩
   refine dayR_of (m := m) (d := d) ⟨hP, ?_⟩
   unfold romanOf
   rw [if_pos h, if_pos hP]
   unfold romanIn countDays
   rw [hsame]
   simp [e2]
theorem romB_of {c y m d : Int} {r : Rom} (h : isDay c y r m d) : romB r = true := by
 have := romB_any h.1
 rw [h.2] at this
 exact this
theorem nones_no {m : Int} (h : m < 1 ∨ 12 < m) : nones m = 0 := by unfold nones; rw [if_neg (by omega)]
theorem ides_no {m : Int} (h : m < 1 ∨ 12 < m) : ides m = 0 := by unfold ides; rw [if_neg (by omega)]
set_option maxHeartbeats 1000000 in
theorem specNones (m : Int) (w : World) : Calls Tryz.prog 116 #[.int .i64 m] w fun e w' => e = .returned (.int .i64 (nones m)) ∧ w' = w := by
 have KI : ∀ W, Calls Tryz.prog 45 #[.int .i64 m, .int .i64 1, .int .i64 12] W fun e w' => e = .returned (.bool (inB m 1 12)) ∧ w' = W := l01In m 1 12
 by_cases h : 1 ≤ m ∧ m ≤ 12
 case neg =>
  rw [nones_no (by omega)]
  rw [inB_false (by omega)] at KI
  go_enter Tryz.func116, Tryz.ntmps116
  go_wp2_with fail
  refine (KI _).mono ?_
  rintro e w1 ⟨rfl, rfl⟩
  go_wp2
  go_ret
  exact ⟨rfl, rfl⟩
 obtain ⟨h1, h2⟩ := h
 rw [inB_true h1 h2] at KI
 rcases month_cases h1 h2 with rfl | rfl | rfl | rfl | rfl | rfl | rfl | rfl | rfl | rfl | rfl | rfl
 all_goals
  go_enter Tryz.func116, Tryz.ntmps116
  go_wp2_with fail
  refine (KI _).mono ?_
  rintro e w1 ⟨rfl, rfl⟩
  go_wp2
  go_ret
  exact ⟨rfl, rfl⟩
set_option maxHeartbeats 1000000 in
theorem specIdes (m : Int) (w : World) : Calls Tryz.prog 117 #[.int .i64 m] w fun e w' => e = .returned (.int .i64 (ides m)) ∧ w' = w := by
 have KI : ∀ W, Calls Tryz.prog 45 #[.int .i64 m, .int .i64 1, .int .i64 12] W fun e w' => e = .returned (.bool (inB m 1 12)) ∧ w' = W := l01In m 1 12
 have KN : ∀ W, Calls Tryz.prog 116 #[.int .i64 m] W fun e w' => e = .returned (.int .i64 (nones m)) ∧ w' = W := specNones m
 have hb := nones_b m
 by_cases h : 1 ≤ m ∧ m ≤ 12
 · rw [ides_in h.1 h.2]
   rw [inB_true h.1 h.2] at KI
   generalize nones m = n at *
   go_enter Tryz.func117, Tryz.ntmps117
   go_wp2_with fail
   refine (KI _).mono ?_
   rintro e w1 ⟨rfl, rfl⟩
   go_wp2_with fail
   refine (KN _).mono ?_
   rintro e w1 ⟨rfl, rfl⟩
   go_wp2
   go_ret
   exact ⟨rfl, rfl⟩
 · rw [ides_no (by omega)]
   rw [inB_false (by omega)] at KI
   clear KN
   go_enter Tryz.func117, Tryz.ntmps117
   go_wp2_with fail
   refine (KI _).mono ?_
   rintro e w1 ⟨rfl, rfl⟩
   go_wp2
   go_ret
   exact ⟨rfl, rfl⟩
set_option maxHeartbeats 1000000 in
theorem implNones (m : Int) (w : World) : Calls Tryz.prog 209 #[.int .i64 m] w fun e w' => e = .returned (.int .i64 (nones m)) ∧ w' = w := by
 by_cases h : 1 ≤ m ∧ m ≤ 12
 · obtain ⟨h1, h2⟩ := h
   rcases month_cases h1 h2 with rfl | rfl | rfl | rfl | rfl | rfl | rfl | rfl | rfl | rfl | rfl | rfl
   all_goals
    go_enter Tryz.func209, Tryz.ntmps209
    go_wp2
    go_ret
    exact ⟨rfl, rfl⟩
 · rw [nones_no (by omega)]
   have e1 : (m == 1) = false := by simp; omega
   have e2 : (m == 2) = false := by simp; omega
   have e3 : (m == 3) = false := by simp; omega
   have e4 : (m == 4) = false := by simp; omega
   have e5 : (m == 5) = false := by simp; omega
   have e6 : (m == 6) = false := by simp; omega
   have e7 : (m == 7) = false := by simp; omega
   have e8 : (m == 8) = false := by simp; omega
   have e9 : (m == 9) = false := by simp; omega
   have e10 : (m == 10) = false := by simp; omega
   have e11 : (m == 11) = false := by simp; omega
   have e12 : (m == 12) = false := by simp; omega
   go_enter Tryz.func209, Tryz.ntmps209
   go_wp2
   go_ret
   exact ⟨rfl, rfl⟩
set_option maxHeartbeats 1000000 in
theorem implIdes (m : Int) (w : World) : Calls Tryz.prog 210 #[.int .i64 m] w fun e w' => e = .returned (.int .i64 (ides m)) ∧ w' = w := by
 have KN : ∀ W, Calls Tryz.prog 209 #[.int .i64 m] W fun e w' => e = .returned (.int .i64 (nones m)) ∧ w' = W := implNones m
 have hb := nones_b m
 by_cases h : 1 ≤ m ∧ m ≤ 12
 · rw [ides_in h.1 h.2]
   have h5 := nones_in h.1 h.2
   generalize nones m = n at *
   have hn : (n == 0) = false := by simp; omega
   go_enter Tryz.func210, Tryz.ntmps210
   go_wp2_with fail
   refine (KN _).mono ?_
   rintro e w1 ⟨rfl, rfl⟩
   go_wp2
   go_ret
   exact ⟨rfl, rfl⟩
 · rw [ides_no (by omega)]
   rw [nones_no (by omega)] at KN
   go_enter Tryz.func210, Tryz.ntmps210
   go_wp2_with fail
   refine (KN _).mono ?_
   rintro e w1 ⟨rfl, rfl⟩
   go_wp2
   go_ret
   exact ⟨rfl, rfl⟩
def markN (m k : Int) : Int := if k = 0 then 1 else if k = 1 then nones m else if k = 2 then ides m else 0
theorem markN_b (m k : Int) : 0 ≤ markN m k ∧ markN m k ≤ 15 := by
 have := nones_b m
 have := ides_b m
 unfold markN
 repeat' split
 all_goals omega
set_option maxHeartbeats 1000000 in
theorem implMarkDay (m k : Int) (w : World) : Calls Tryz.prog 164 #[.int .i64 m, .int .i64 k] w fun e w' => e = .returned (.int .i64 (markN m k)) ∧ w' = w := by
 by_cases h0 : k = 0
 · subst h0
   rw [show markN m 0 = 1 from rfl]
   go_enter Tryz.func164, Tryz.ntmps164
   go_wp2
   go_ret
   exact ⟨rfl, rfl⟩
 have e0 : (k == 0) = false := by simp [h0]
 by_cases h1 : k = 1
 · subst h1
   rw [show markN m 1 = nones m from rfl]
   have KN := implNones m
   generalize nones m = n at *
   go_enter Tryz.func164, Tryz.ntmps164
   go_wp2_with fail
   refine (KN _).mono ?_
   rintro e w1 ⟨rfl, rfl⟩
   go_wp2
   go_ret
   exact ⟨rfl, rfl⟩
 have e1 : (k == 1) = false := by simp [h1]
 by_cases h2 : k = 2
 · subst h2
   rw [show markN m 2 = ides m from rfl]
   have KN := implIdes m
   generalize ides m = n at *
   go_enter Tryz.func164, Tryz.ntmps164
   go_wp2_with fail
   refine (KN _).mono ?_
   rintro e w1 ⟨rfl, rfl⟩
   go_wp2
   go_ret
   exact ⟨rfl, rfl⟩
 have e2 : (k == 2) = false := by simp [h2]
 rw [show markN m k = 0 from by unfold markN; rw [if_neg h0, if_neg h1, if_neg h2]]
 go_enter Tryz.func164, Tryz.ntmps164
 go_wp2
 go_ret
 exact ⟨rfl, rfl⟩
theorem implMonthBehind (m : Int) (w : World) (h1 : 1 ≤ m) (h2 : m ≤ 12) : Calls Tryz.prog 165 #[.int .i64 m] w fun e w' => e = .returned (.int .i64 (m % 12 + 1)) ∧ w' = w := by
 go_enter Tryz.func165, Tryz.ntmps165
 go_wp2
 go_ret
 exact ⟨rfl, rfl⟩
def monAheadW (m : Int) : Int := if m = 1 then 12 else wrap64 (m - 1)
theorem implMonthAhead (m : Int) (w : World) : Calls Tryz.prog 282 #[.int .i64 m] w fun e w' => e = .returned (.int .i64 (monAheadW m)) ∧ w' = w := by
 by_cases h : m = 1
 · subst h
   go_enter Tryz.func282, Tryz.ntmps282
   go_wp2
   go_ret
   exact ⟨rfl, rfl⟩
 · have e0 : (m == 1) = false := by simp [h]
   have HR : Hid (monAheadW m = wrap64 (m - 1)) := by unfold Hid monAheadW; rw [if_neg h]
   go_enter Tryz.func282, Tryz.ntmps282
   go_wp2
   go_ret
   exact ⟨ret_int HR.out.symm, rfl⟩
end Go.Proofs.YtdmlhiailjnhcaaGreatDoor.ctr
