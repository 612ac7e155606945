/- Small plain laws, and the contract of the model's l01In (a ≤ x ≤ b), at every three ints; and what else the law reaches. -/
import Derived.Test.YtpclaceefapppaaGreatDoorRows
import Derived.WalkKit
import Derived.WalkLawsBesides
import Derived.WalkSpells
import Derived.ProofKit
import Derived.OpenShut
import Derived.Below
import Derived.WalkSmall
import Derived.Sort.Grow
import Derived.Deep.QuietTactic
import Derived.BigQuiet
import Derived.Handy
import Derived.Deep.Slices
import Derived.Lib.SmallJoins
import Derived.Deep.RegionWith
set_option maxHeartbeats 2000000
namespace Go.Proofs.YtpclaceefapppaaGreatDoor.ctr
open Go.RowKit
abbrev CR (f : FuncId) (a : Array Value) (w : World) (v : Value) : Prop := Calls Tryz.prog f a w fun e w' => e = .returned v ∧ Below w.heap.size w w'
abbrev CS (f : FuncId) (a : Array Value) (w : World) (v : Value) : Prop := Calls Tryz.prog f a w fun e w' => e = .returned v ∧ w' = w
theorem sameC {P : Program} {f : FuncId} {a : Array Value} {w : World} {v : Value} {Q : Ending → World → Prop} (h : Calls P f a w fun e w' => e = .returned v ∧ w' = w) (k : Q (.returned v) w) : Calls P f a w Q :=
 h.mono fun _ _ ⟨he, hw⟩ => by
  subst he
  subst hw
  exact k
theorem ret_bool {a b : Bool} (h : a = b) : Ending.returned (.bool a) = .returned (.bool b) := by rw [h]
theorem ret_int {k : IntKind} {a b : Int} (h : a = b) : Ending.returned (.int k a) = .returned (.int k b) := by rw [h]
theorem ret_str {a b : ByteArray} (h : a = b) : Ending.returned (.string a) = .returned (.string b) := by rw [h]
theorem str_eq {a b : ByteArray} (h : (a.toList == b.toList) = true) : a = b := by
 rw [ByteArray.toList_eq, ByteArray.toList_eq, beq_iff_eq] at h
 exact WideShapes.bytes_inj h
theorem str_ne {a b : ByteArray} (h : (a.toList == b.toList) = false) : a ≠ b := by
 rintro rfl
 simp at h
theorem byte64 (c : UInt8) : wrap64 (c.toNat : Int) = (c.toNat : Int) := by
 have := c.toNat_lt
 unfold wrap64
 omega
theorem take_snoc (s : ByteArray) (k : Nat) (h : k < s.size) : s.data.toList.take (k + 1) = s.data.toList.take k ++ [s[k]] := by
 rw [List.take_succ_eq_append_getElem (by simpa using h)]; rfl
theorem below_grown (w : World) (q : Nat) (os : Array Obj) : Below w.heap.size w (Sort.grow (w.drewN q) os) := by
 refine ⟨rfl, rfl, rfl, ?_, fun k hk => ?_⟩
 · show w.heap.size ≤ (w.heap ++ os).size
   simp
 · show (w.heap ++ os)[k]? = w.heap[k]?
   rw [Array.getElem?_append_left hk]
def inB (x a b : Int) : Bool := decide (a ≤ x) && decide (x ≤ b)
theorem inB_true {x a b : Int} (h1 : a ≤ x) (h2 : x ≤ b) : inB x a b = true := by simp [inB, h1, h2]
theorem inB_false {x a b : Int} (h : x < a ∨ b < x) : inB x a b = false := by
 rcases h with h | h
 · simp [inB, show ¬ a ≤ x from by omega]
 · simp [inB, show ¬ x ≤ b from by omega]
theorem l01In (x a b : Int) (w : World) :
    Calls Tryz.prog 98 #[.int .i64 x, .int .i64 a, .int .i64 b] w fun e w' => e = .returned (.bool (inB x a b)) ∧ w' = w := by
  by_cases h1 : a ≤ x
  · by_cases h2 : x ≤ b
    · rw [inB_true h1 h2]
      go_enter Tryz.func98, Tryz.ntmps98
      go_wp2
      go_ret
      exact ⟨rfl, rfl⟩
    · rw [inB_false (.inr (by omega))]
      go_enter Tryz.func98, Tryz.ntmps98
      go_wp2
      go_ret
      exact ⟨rfl, rfl⟩
  · rw [inB_false (.inl (by omega))]
    go_enter Tryz.func98, Tryz.ntmps98
    go_wp2
    go_ret
    exact ⟨rfl, rfl⟩
theorem hideP {p : Prop} (h : p) : Hid p := h
structure Later (W : World) where
 w : World
 below : Below W.heap.size W w
instance (W : World) : Nonempty (Later W) := ⟨⟨W, Below.refl _ _⟩⟩
theorem Later.of {W w' : World} (h : Below W.heap.size W w') : ∃ x : Later W, w' = x.w := ⟨⟨w', h⟩, rfl⟩
theorem Later.on {W w' : World} (x : Later W) (h : Below x.w.heap.size x.w w') : Below W.heap.size W w' := x.below.trans (h.mono x.below.size)
theorem Later.next {W w' : World} (x : Later W) (h : Below x.w.heap.size x.w w') : ∃ y : Later W, w' = y.w := ⟨⟨w', x.on h⟩, rfl⟩
theorem Later.cell {W : World} (x : Later W) {p : Addr} (hp : p.block < W.heap.size) : x.w.cell? p = W.cell? p := x.below.cell hp
theorem Later.at {W : World} {p : Addr} {v : Value} (h : W.cell? p = some v) (x : Later W) : x.w.cell? p = some v := by
 have hp : p.block < W.heap.size := by
  unfold World.cell? at h
  by_cases hp : p.block < W.heap.size
  · exact hp
  · rw [Array.getElem?_eq_none (by omega)] at h
    simp at h
 rw [x.cell hp, h]
theorem lat {P : Program} {f : FuncId} {a : Array Value} {W : World} {x : Later W} {v : Value} {Q : Ending → World → Prop} (h : Calls P f a x.w fun e w' => e = .returned v ∧ Below x.w.heap.size x.w w') (k : ∀ y : Later W, Q (.returned v) y.w) : Calls P f a x.w Q :=
 h.mono fun _ _ ⟨he, hm⟩ => by
  subst he
  exact k ⟨_, x.on hm⟩
theorem latO {P : Program} {f : FuncId} {a : Array Value} {W : World} {v : Value} {Q : Ending → World → Prop} (h : Calls P f a W fun e w' => e = .returned v ∧ Below W.heap.size W w') (k : ∀ y : Later W, Q (.returned v) y.w) : Calls P f a W Q :=
 h.mono fun _ _ ⟨he, hm⟩ => by
  subst he
  exact k ⟨_, hm⟩
theorem calls_later {P : Program} {f : FuncId} {args : Array Value} {W : World} {x : Later W} {v : Value}
    (h : Calls P f args x.w fun e w' => e = .returned v ∧ Below x.w.heap.size x.w w') : Calls P f args x.w fun e w'' => e = .returned v ∧ ∃ y : Later W, w'' = y.w :=
  h.mono fun _ _ ⟨he, hm⟩ => ⟨he, x.next hm⟩
theorem calls_same {P : Program} {f : FuncId} {args : Array Value} {W : World} {x : Later W} {v : Value}
    (h : Calls P f args x.w fun e w' => e = .returned v ∧ w' = x.w) : Calls P f args x.w fun e w'' => e = .returned v ∧ ∃ y : Later W, w'' = y.w :=
  h.mono fun _ _ ⟨he, hm⟩ => ⟨he, x, hm⟩
theorem wp_region_later {P : Program} {id : Nat} {Q : Exit → Act → World → Prop} {a : Act} {W w : World} {l : List Oper} (hw : Below W.heap.size W w) (hm : P.follows .mixedOrders = true) (hB : Region.lexB .any l.toArray = true)
    (h : wpQuiet P l.toArray (fun w' => ∃ x : Later W, w' = x.w) (fun a' => ∀ w', (∃ x : Later W, w' = x.w) → Q .normal a' w') l a) : (Code.region id l.toArray true).wp P Q a w :=
  wp_region_quiet (C := fun w' => ∃ x : Later W, w' = x.w) hm hB (Later.of hw.drew) (by simpa using h)
theorem quietE {P : Program} {ops : Array Oper} {R : Act → World → Prop} {a : Act} {W : World} (h : ∀ x : Later W, R a x.w) : wpQuiet P ops (fun w' => ∃ x : Later W, w' = x.w) (fun a' => ∀ w', (∃ x : Later W, w' = x.w) → R a' w') [] a :=
 wpQuiet_nil (fun _ ⟨x, e⟩ => by
  subst e
  exact h x)
theorem Below_drewN {B : Nat} {a w : World} (h : Below B a w) (n : Nat) : Below B a (w.drewN n) := ⟨h.os, h.tape, h.output, h.size, h.block⟩
theorem below_alloc {w w1 : World} {o : Obj} (h : Below (w.alloc o).heap.size (w.alloc o) w1) : Below w.heap.size w w1 :=
 ((Below.refl w.heap.size w).alloc (Nat.le_refl _) o).trans (h.mono (by rw [World.size_alloc]; omega))
theorem below_of_alloc {w w1 W0 : World} {o : Obj} (e : W0 = w.alloc o) (h : Below W0.heap.size W0 w1) : Below w.heap.size w w1 := by
 subst e
 exact below_alloc h
theorem Later.new {w W0 : World} {cs : Array Value} {t : TypeId} (e : W0 = w.alloc (.cells cs t)) (i : Nat) {v : Value} (h : cs[i]? = some v) (x : Later W0) : x.w.cell? ⟨w.heap.size, i, none⟩ = some v :=
 Later.at (by rw [e, World.cell?_alloc_at _ _ _ _ rfl]; exact h) x
def Blk (w : World) (b : Nat) (vs : Array Value) (t : TypeId) : Prop := w.heap[b]? = some (.cells vs t)
theorem Blk.cell {w : World} {b : Nat} {vs : Array Value} {t : TypeId} (h : Blk w b vs t) (i : Nat) {v : Value} (hv : vs[i]? = some v) : w.cell? ⟨b, i, none⟩ = some v := by
 unfold Blk at h
 simp [World.cell?, h, hv]
theorem Blk.thaw {w : World} {b : Nat} {vs : Array Value} {t : TypeId} (h : Blk w b vs t) (i : Nat) : w.frozen? ⟨b, i, none⟩ = false := by
 unfold Blk at h
 simp [World.frozen?, h]
theorem Blk.lt {w : World} {b : Nat} {vs : Array Value} {t : TypeId} (h : Blk w b vs t) : b < w.heap.size := by
 unfold Blk at h
 by_cases hb : b < w.heap.size
 · exact hb
 · rw [Array.getElem?_eq_none (by omega)] at h
   cases h
theorem Blk.below {B : Nat} {w w' : World} {b : Nat} {vs : Array Value} {t : TypeId} (h : Blk w b vs t) (hb : Below B w w') (hB : b < B) : Blk w' b vs t := (hb.block b hB).trans h
theorem Blk.later {W : World} {b : Nat} {vs : Array Value} {t : TypeId} (h : Blk W b vs t) (x : Later W) : Blk x.w b vs t := h.below x.below h.lt
theorem Blk.set {w : World} {b : Nat} {vs : Array Value} {t : TypeId} (h : Blk w b vs t) (i : Nat) (v : Value) : Blk (w.setCell ⟨b, i, none⟩ v) b (vs.setIfInBounds i v) t := by
 unfold Blk at *
 simp [World.setCell, Array.getElem?_modify, h]
theorem Blk.other {w : World} {b b' i : Nat} {v : Value} {vs : Array Value} {t : TypeId} (h : Blk w b vs t) (hn : b' ≠ b) : Blk (w.setCell ⟨b', i, none⟩ v) b vs t := by
 unfold Blk at *
 rw [Below.heap_setCell w ⟨b', i, none⟩ v b (fun e => hn e.symm)]
 exact h
theorem Blk.new (w : World) (vs : Array Value) (t : TypeId) : Blk (w.alloc (.cells vs t)) w.heap.size vs t := by
 show (w.heap.push (.cells vs t))[w.heap.size]? = _
 simp
theorem Later.fresh {W : World} (x : Later W) (o : Array Value) (t : TypeId) : ∃ y : Later W, x.w.alloc (.cells o t) = y.w ∧ Hid (Blk y.w x.w.heap.size o t) :=
 ⟨⟨_, x.below.alloc x.below.size _⟩, rfl, Blk.new _ _ _⟩
theorem Blk.alloc {w : World} {b : Nat} {vs : Array Value} {t : TypeId} (h : Blk w b vs t) (o : Obj) : Blk (w.alloc o) b vs t := (Below.heap_alloc w o b h.lt).trans h
theorem Blk.drew {w : World} {b : Nat} {vs : Array Value} {t : TypeId} (h : Blk w b vs t) : Blk w.drew b vs t := h
theorem Blk.drewN {w : World} {b : Nat} {vs : Array Value} {t : TypeId} (h : Blk w b vs t) (n : Nat) : Blk (w.drewN n) b vs t := h
theorem below_store {W w : World} (h : Below W.heap.size W w) {b i : Nat} (v : Value) (hb : W.heap.size ≤ b) : Below W.heap.size W (w.setCell ⟨b, i, none⟩ v) := h.setCell (p := ⟨b, i, none⟩) hb v
end Go.Proofs.YtpclaceefapppaaGreatDoor.ctr
namespace Go.Proofs.YtpclaceefapppaaGreatDoor.ctr
open Go.RowKit
structure IK (α : Type) where
 m : Nat
 iv : α → List Int
 ofI : List Int → α
 d : α
 len : ∀ a, (iv a).length = m
 back : ∀ zs : List Int, zs.length = m → iv (ofI zs) = zs
def icell {α : Type} (K : IK α) (a : α) : List Value := (K.iv a).map (Value.int .i64)
def icells {α : Type} (K : IK α) : List α → List Value
  | [] => []
  | a :: l => icell K a ++ icells K l
def iA {α : Type} (K : IK α) (l : List α) : Array Value := (icells K l).toArray
def atK {α : Type} (K : IK α) (l : List α) (k : Nat) : α := l.getD k K.d
theorem atK_eq {α : Type} {K : IK α} {l : List α} {k : Nat} (h : k < l.length) : atK K l k = l[k] := by unfold atK; rw [List.getD, List.getElem?_eq_getElem h]; rfl
theorem icells_len {α : Type} {K : IK α} : ∀ l : List α, (icells K l).length = l.length * K.m
  | [] => by simp [icells]
  | a :: l => by rw [icells, List.length_append, icells_len l]; simp [icell, K.len, Nat.add_mul]; omega
theorem icells_at {α : Type} {K : IK α} : ∀ (l : List α) (k j : Nat) (z : Int), k < l.length → (K.iv (atK K l k))[j]? = some z → (icells K l)[k * K.m + j]? = some (.int .i64 z)
  | [], k, j, z, h, _ => by simp at h
  | a :: l, 0, j, z, _, e => by
   have e' : (K.iv a)[j]? = some z := by simpa [atK] using e
   have hj : j < (K.iv a).length := (List.getElem?_eq_some_iff.1 e').1
   rw [icells, Nat.zero_mul, Nat.zero_add, List.getElem?_append_left (by simpa [icell] using hj)]
   simp [icell, e']
  | a :: l, k + 1, j, z, h, e => by
   rw [icells, List.getElem?_append_right (by simp [icell, K.len, Nat.add_mul]; omega)]
   have := icells_at l k j z (by simpa using h) (by simpa [atK] using e)
   simp only [icell, List.length_map, K.len]
   rw [show (k + 1) * K.m + j - K.m = k * K.m + j by rw [Nat.add_mul]; omega]
   exact this
theorem iA_size {α : Type} {K : IK α} (l : List α) : (iA K l).size = l.length * K.m := by simp [iA, icells_len]
theorem iA_at {α : Type} {K : IK α} {l : List α} {k : Nat} (j : Nat) {z : Int} (h : k < l.length) (e : (K.iv (atK K l k))[j]? = some z) : (iA K l)[k * K.m + j]? = some (.int .i64 z) := by
 simpa [iA] using icells_at l k j z h e
def IAt {α : Type} (K : IK α) (w : World) (g k : Nat) (a : α) : Prop := ∀ (j : Nat) (z : Int), (K.iv a)[j]? = some z → w.cell? ⟨g, k * K.m + j, none⟩ = some (.int .i64 z)
theorem IAt.below {α : Type} {K : IK α} {w w' : World} {g k : Nat} {a : α} {B : Nat} (h : IAt K w g k a) (hb : Below B w w') (hg : g < B) : IAt K w' g k a := fun j z e => (hb.cell (p := ⟨g, k * K.m + j, none⟩) hg).trans (h j z e)
def IRow {α : Type} (K : IK α) (w : World) (v : Value) (l : List α) : Prop := ∃ ad cap, v = .slice ad l.length cap ∧ l.length ≤ cap ∧ cap ≤ maxLen ∧ ∀ k, k < l.length → ∃ g, ad = some ⟨g, 0, none⟩ ∧ g < w.heap.size ∧ IAt K w g k (atK K l k)
theorem IRow.below {α : Type} {K : IK α} {w w' : World} {v : Value} {l : List α} (h : IRow K w v l) (hb : Below w.heap.size w w') : IRow K w' v l := by
 obtain ⟨ad, cap, rfl, h1, h2, h⟩ := h
 exact ⟨ad, cap, rfl, h1, h2, fun k hk => by
  obtain ⟨g, e, hg, hc⟩ := h k hk
  exact ⟨g, e, Nat.lt_of_lt_of_le hg hb.size, hc.below hb hg⟩⟩
theorem IRow.later {α : Type} {K : IK α} {W : World} {v : Value} {l : List α} (h : IRow K W v l) (x : Later W) : IRow K x.w v l := h.below x.below
theorem IRow.drewN {α : Type} {K : IK α} {W : World} {v : Value} {l : List α} (h : IRow K W v l) (n : Nat) : IRow K (W.drewN n) v l := h
def INew {α : Type} (K : IK α) (w w' : World) (v : Value) (l : List α) : Prop := ∃ g t, v = .slice (some ⟨g, 0, none⟩) l.length l.length ∧ w.heap.size ≤ g ∧ Blk w' g (iA K l) t
theorem INew.row {α : Type} {K : IK α} {w w' : World} {v : Value} {l : List α} (h : INew K w w' v l) (hl : l.length ≤ maxLen) : IRow K w' v l := by
 obtain ⟨g, t, rfl, _, hb⟩ := h
 exact ⟨_, _, rfl, Nat.le_refl _, hl, fun k hk => ⟨g, rfl, hb.lt, fun j z e => hb.cell (k * K.m + j) (iA_at j hk e)⟩⟩
theorem INew.below {α : Type} {K : IK α} {w w' w'' : World} {v : Value} {l : List α} (h : INew K w w' v l) (hb : Below w'.heap.size w' w'') : INew K w w'' v l := by
 obtain ⟨g, t, rfl, hg, hB⟩ := h
 exact ⟨g, t, rfl, hg, hB.below hb hB.lt⟩
def IIn {α : Type} (K : IK α) (w : World) (a : Option Addr) (len cap : Nat) (l : List α) : Prop :=
 l.length = len ∧ len ≤ cap ∧ cap ≤ maxLen ∧
 ((a = none ∧ len = 0) ∨ ∃ x, a = some x ∧ ∀ k, k < len → ∀ (j : Nat) (z : Int), (K.iv (atK K l k))[j]? = some z → w.cell? (x.add (k * K.m + j)) = some (.int .i64 z))
theorem IIn.below {α : Type} {K : IK α} {w w' : World} {a : Option Addr} {len cap : Nat} {l : List α} (h : IIn K w a len cap l) (hb : Below w.heap.size w w') : IIn K w' a len cap l := by
 obtain ⟨h1, h2, h3, h4 | ⟨x, hx, h⟩⟩ := h
 · exact ⟨h1, h2, h3, .inl h4⟩
 · exact ⟨h1, h2, h3, .inr ⟨x, hx, fun k hk j z e => Later.at (h k hk j z e) ⟨w', hb⟩⟩⟩
theorem IIn.drewN {α : Type} {K : IK α} {W : World} {a : Option Addr} {len cap : Nat} {l : List α} (h : IIn K W a len cap l) (n : Nat) : IIn K (W.drewN n) a len cap l := h
def ifFrom {α : Type} (p : α → Bool) : List α → Nat → Int
  | [], _ => -1
  | r :: l, k => if p r = true then (k : Int) else ifFrom p l (k + 1)
def ifind {α : Type} (p : α → Bool) (l : List α) : Int := ifFrom p l 0
theorem if_hit {α : Type} {K : IK α} {p : α → Bool} {l : List α} {k : Nat} {R : Int} (h : k < l.length) (hp : p (atK K l k) = true) (H : ifFrom p (l.drop k) k = R) : R = (k : Int) := by
 rw [List.drop_eq_getElem_cons h, ifFrom, ← atK_eq (K := K) h, if_pos hp] at H
 exact H.symm
theorem if_miss {α : Type} {K : IK α} {p : α → Bool} {l : List α} {k : Nat} {R : Int} (h : k < l.length) (hp : p (atK K l k) = false) (H : ifFrom p (l.drop k) k = R) : ifFrom p (l.drop (k + 1)) (k + 1) = R := by
 rw [List.drop_eq_getElem_cons h, ifFrom, ← atK_eq (K := K) h, if_neg (by rw [hp]; simp)] at H
 exact H
theorem if_end {α : Type} {p : α → Bool} {l : List α} {k : Nat} {R : Int} (h : l.length ≤ k) (H : ifFrom p (l.drop k) k = R) : R = -1 := by
 rw [List.drop_of_length_le h] at H
 exact H.symm
def iPart {α : Type} (K : IK α) (l : List α) (k : Nat) (cs : Array Value) : Prop := cs.size = l.length * K.m ∧ ∀ j, j < k * K.m → cs[j]? = (iA K l)[j]?
theorem iPart_all {α : Type} {K : IK α} {l : List α} {cs : Array Value} (h : iPart K l l.length cs) : cs = iA K l := by
 apply Array.ext_getElem?
 intro j
 by_cases hj : j < l.length * K.m
 · exact h.2 j hj
 · rw [Array.getElem?_eq_none (by rw [h.1]; omega), Array.getElem?_eq_none (by rw [iA_size]; omega)]
def setI (cs : Array Value) (b : Nat) : Nat → List Int → Array Value
  | _, [] => cs
  | j, z :: zs => setI (cs.setIfInBounds (b + j) (.int .i64 z)) b (j + 1) zs
theorem setI_size : ∀ (zs : List Int) (cs : Array Value) (b j : Nat), (setI cs b j zs).size = cs.size
  | [], cs, b, j => rfl
  | z :: zs, cs, b, j => by rw [setI, setI_size zs]; simp
theorem setI_old : ∀ (zs : List Int) (cs : Array Value) (b j q : Nat), q < b + j ∨ b + j + zs.length ≤ q → (setI cs b j zs)[q]? = cs[q]?
  | [], cs, b, j, q, _ => rfl
  | z :: zs, cs, b, j, q, h => by
   rw [setI, setI_old zs _ b (j + 1) q (by simp at h; omega), Array.getElem?_setIfInBounds_ne (by simp at h; omega)]
theorem setI_new : ∀ (zs : List Int) (cs : Array Value) (b j i : Nat) (z : Int), b + j + zs.length ≤ cs.size → zs[i]? = some z → (setI cs b j zs)[b + j + i]? = some (.int .i64 z)
  | [], cs, b, j, i, z, _, e => by simp at e
  | y :: zs, cs, b, j, 0, z, h, e => by
   simp at e h
   subst e
   rw [setI, setI_old zs _ b (j + 1) _ (by omega), Nat.add_zero, Array.getElem?_setIfInBounds_self_of_lt (by omega)]
  | y :: zs, cs, b, j, i + 1, z, h, e => by
   simp at h
   have := setI_new zs (cs.setIfInBounds (b + j) (.int .i64 y)) b (j + 1) i z (by simp; omega) (by simpa using e)
   rw [setI, show b + j + (i + 1) = b + (j + 1) + i by omega]
   exact this
theorem iPart_next {α : Type} {K : IK α} {l : List α} {k : Nat} {cs : Array Value} (h : iPart K l k cs) (hk : k < l.length) : iPart K l (k + 1) (setI cs (k * K.m) 0 (K.iv (atK K l k))) := by
 obtain ⟨h1, h2⟩ := h
 have hl := K.len (atK K l k)
 have hmul : (k + 1) * K.m ≤ l.length * K.m := Nat.mul_le_mul_right _ hk
 have e1 : (k + 1) * K.m = k * K.m + K.m := by rw [Nat.add_mul]; omega
 refine ⟨by rw [setI_size, h1], fun j hj => ?_⟩
 by_cases hlt : j < k * K.m
 · rw [setI_old _ _ _ _ _ (by omega), h2 j hlt]
 · obtain ⟨i, rfl⟩ : ∃ i, j = k * K.m + i := ⟨j - k * K.m, by omega⟩
   have hi : i < (K.iv (atK K l k)).length := by omega
   have e : (K.iv (atK K l k))[i]? = some ((K.iv (atK K l k))[i]) := by simp [hi]
   have := setI_new (K.iv (atK K l k)) cs (k * K.m) 0 i _ (by omega) e
   rw [Nat.add_zero] at this
   rw [this, iA_at i hk e]
end Go.Proofs.YtpclaceefapppaaGreatDoor.ctr
namespace Go.Proofs.YtpclaceefapppaaGreatDoor.kit
open Go.RowKit Go.WideShapes Go.Deep Go.ChangeShapes
theorem open_irow {H : Type} {enc : TypeId × Value → H} {P : Program} {w : World} {base : Nat} {spare : Nat → Bool} {held : Bool} {t e : TypeId} {fs : Array Field} {a : Option Addr} {len cap : Nat} {x : DataW H} {p : List MemPlace} {α : Type} (K : ctr.IK α)
    (ht : P.underlying t = some (.slice e)) (he : P.underlying e = some (.struct fs)) (ce : P.cellsOf e = K.m) (hsz : fs.size = K.m)
    (hf0 : ∀ (j : Nat) (f : Field), fs[j]? = some f → f.offset = j ∧ P.cellsOf f.type = 1 ∧ P.underlying f.type = some (.int .i64))
    (h : DataW.Trod enc P w base spare held t (.slice a len cap) x p) : ∃ l : List α, ctr.IIn K w a len cap l := by
  obtain ⟨fuel, h⟩ := h
  simp only [Value.cells] at h
  rcases open_slice ht h with ⟨h0, _⟩ | ⟨a', len', cap', m, n, D, Pl, e', hb, hl, hm, hmm, hxp, hx⟩
  · simp at h0
    obtain ⟨rfl, rfl, rfl⟩ := h0
    exact ⟨[], rfl, Nat.le_refl _, by unfold maxLen; omega, .inl ⟨rfl, rfl⟩⟩
  · simp at e'
    obtain ⟨rfl, rfl, rfl⟩ := e'
    have hlm : len ≤ m := by rw [hmm]; split <;> omega
    have each : ∀ i, i < len → ∃ r : α, ∀ (j : Nat) (z : Int), (K.iv r)[j]? = some z → w.cell? (a'.add (i * K.m + j)) = some (.int .i64 z) := by
     intro i hi
     obtain ⟨cs', h1, h2⟩ := hx i (by omega)
     rw [ce] at h1
     obtain ⟨_, hlen, hcell⟩ := World.cells?_some h1
     obtain ⟨xs, k, hk, hxy, _, hxl, hf⟩ := DataW.trod_struct he h2
     have cell : ∀ j, j < K.m → ∃ z : Int, cs'[j]? = some (.int .i64 z) := by
      intro j hj
      obtain ⟨f, hfe⟩ : ∃ f, fs[j]? = some f := ⟨fs[j]'(by omega), by simp [hsz, hj]⟩
      obtain ⟨o, c, u⟩ := hf0 j f hfe
      have g := hf j f (by simpa using hfe)
      rw [o, c] at g
      have hjl : j < cs'.length := by omega
      have e1 : (cs'.drop j).take 1 = [cs'[j]] := by rw [List.drop_eq_getElem_cons hjl]; rfl
      have hxj : j < xs.length := by have := hxl; omega
      rw [e1, List.getElem?_eq_getElem hxj] at g
      obtain ⟨z, q, _, _⟩ := DataW.trod_int u g
      exact ⟨z, by rw [List.getElem?_eq_getElem hjl]; simpa using q⟩
     obtain ⟨Z, hZ⟩ : ∃ Z : Nat → Int, ∀ j, j < K.m → cs'[j]? = some (.int .i64 (Z j)) := by
      classical
      refine ⟨fun j => if h : j < K.m then (cell j h).choose else 0, fun j hj => ?_⟩
      simp only [dif_pos hj]
      exact (cell j hj).choose_spec
     refine ⟨K.ofI ((List.range K.m).map Z), fun j z e => ?_⟩
     rw [K.back _ (by simp)] at e
     have hj : j < K.m := by have := (List.getElem?_eq_some_iff.1 e).1; simpa using this
     have ez : z = Z j := by simpa [hj] using e.symm
     have e0 := hcell j (by omega)
     rw [add_add] at e0
     rw [e0, ez]
     exact hZ j hj
    obtain ⟨R, hR⟩ : ∃ R : Nat → α, ∀ i, i < len → ∀ (j : Nat) (z : Int), (K.iv (R i))[j]? = some z → w.cell? (a'.add (i * K.m + j)) = some (.int .i64 z) := by
     classical
     refine ⟨fun i => if h : i < len then (each i h).choose else K.d, fun i hi => ?_⟩
     simp only [dif_pos hi]
     exact (each i hi).choose_spec
    have hat : ∀ k, k < len → ctr.atK K ((List.range len).map R) k = R k := fun k hk => by simp [ctr.atK, List.getD, hk]
    exact ⟨(List.range len).map R, by simp, hl, hm, .inr ⟨a', rfl, fun k hk => by rw [hat k hk]; exact hR k hk⟩⟩
end Go.Proofs.YtpclaceefapppaaGreatDoor.kit
namespace Go.Proofs.YtpclaceefapppaaGreatDoor.ctr
open Go.RowKit
def floorDiv (a b : Int) : Int := if b ≤ 0 then 0 else if a.tmod b < 0 then wrap64 (wrap64 (a.tdiv b) - 1) else wrap64 (a.tdiv b)
def floorMod (a b : Int) : Int := if b ≤ 0 then 0 else if a.tmod b < 0 then wrap64 (a.tmod b + b) else a.tmod b
theorem in_range (n : Int) (h : -9223372036854775808 ≤ n ∧ n ≤ 9223372036854775807) : wrap64 n = n := by unfold wrap64; omega
theorem specFloorDiv (a b : Int) (w : World) :
    CS 226 #[.int .i64 a, .int .i64 b] w (.int .i64 (floorDiv a b)) := by
  by_cases c1 : b ≤ 0
  · have HF : Hid (floorDiv a b = 0) := by unfold Hid floorDiv; rw [if_pos c1]
    go_enter Tryz.func226, Tryz.ntmps226
    go_wp2
    go_ret
    exact ⟨ret_int HF.out.symm, rfl⟩
  by_cases c2 : a.tmod b < 0
  · have HF : Hid (floorDiv a b = wrap64 (wrap64 (a.tdiv b) - 1)) := by unfold Hid floorDiv; rw [if_neg c1, if_pos c2]
    go_enter Tryz.func226, Tryz.ntmps226
    go_wp2
    go_ret
    exact ⟨ret_int HF.out.symm, rfl⟩
  · have HF : Hid (floorDiv a b = wrap64 (a.tdiv b)) := by unfold Hid floorDiv; rw [if_neg c1, if_neg c2]
    go_enter Tryz.func226, Tryz.ntmps226
    go_wp2
    go_ret
    exact ⟨ret_int HF.out.symm, rfl⟩
theorem implFloorDiv (a b : Int) (w : World) :
    CS 145 #[.int .i64 a, .int .i64 b] w (.int .i64 (floorDiv a b)) := by
  by_cases c1 : b ≤ 0
  · have HF : Hid (floorDiv a b = 0) := by unfold Hid floorDiv; rw [if_pos c1]
    go_enter Tryz.func145, Tryz.ntmps145
    go_wp2
    go_ret
    exact ⟨ret_int HF.out.symm, rfl⟩
  by_cases c2 : a.tmod b < 0
  · have HF : Hid (floorDiv a b = wrap64 (wrap64 (a.tdiv b) - 1)) := by unfold Hid floorDiv; rw [if_neg c1, if_pos c2]
    go_enter Tryz.func145, Tryz.ntmps145
    go_wp2
    go_ret
    exact ⟨ret_int HF.out.symm, rfl⟩
  · have HF : Hid (floorDiv a b = wrap64 (a.tdiv b)) := by unfold Hid floorDiv; rw [if_neg c1, if_neg c2]
    go_enter Tryz.func145, Tryz.ntmps145
    go_wp2
    go_ret
    exact ⟨ret_int HF.out.symm, rfl⟩
def calB (c : Int) : Bool := decide (c = 0) || decide (c = 1)
theorem calB_iff {c : Int} : calB c = true ↔ c = 0 ∨ c = 1 := by simp [calB]
theorem calB_no {c : Int} (h : ¬ (c = 0 ∨ c = 1)) : calB c = false := by
 simp only [not_or] at h
 simp [calB, h.1, h.2]
def leapP (c y : Int) : Prop := (c = 0 ∧ y.tmod 4 = 0) ∨ (c = 1 ∧ ((y.tmod 4 = 0 ∧ ¬ y.tmod 100 = 0) ∨ y.tmod 400 = 0))
instance (c y : Int) : Decidable (leapP c y) := by unfold leapP; infer_instance
def leapB (c y : Int) : Bool := decide (leapP c y)
theorem tmod0 (y : Int) (k : Int) : y.tmod k = 0 ↔ y % k = 0 := by
 rw [← Int.dvd_iff_tmod_eq_zero, ← Int.dvd_iff_emod_eq_zero]
theorem tmod_four {y : Int} (h : y.tmod 400 = 0) : y.tmod 4 = 0 := by
 rw [tmod0] at *
 omega
theorem leap_jul {y : Int} : leapP 0 y ↔ y % 4 = 0 := by
 unfold leapP
 rw [tmod0]
 omega
theorem leap_gre {y : Int} : leapP 1 y ↔ (y % 4 = 0 ∧ ¬ y % 100 = 0) ∨ y % 400 = 0 := by
 unfold leapP
 rw [tmod0, tmod0, tmod0]
 omega
def tab12 : List Int := [31, 28, 31, 30, 31, 30, 31, 31, 30, 31, 30, 31]
def monthDays (c y m : Int) : Int :=
 if (c = 0 ∨ c = 1) ∧ 1 ≤ m ∧ m ≤ 12 then (if m = 2 ∧ leapP c y then 29 else tab12.getD (m - 1).toNat 0) else 0
theorem monthDays_no {c y m : Int} (h : ¬ ((c = 0 ∨ c = 1) ∧ 1 ≤ m ∧ m ≤ 12)) : monthDays c y m = 0 := by unfold monthDays; rw [if_neg h]
theorem month_cases {m : Int} (h1 : 1 ≤ m) (h2 : m ≤ 12) : m = 1 ∨ m = 2 ∨ m = 3 ∨ m = 4 ∨ m = 5 ∨ m = 6 ∨ m = 7 ∨ m = 8 ∨ m = 9 ∨ m = 10 ∨ m = 11 ∨ m = 12 := by omega
theorem monthDays_le (c y m : Int) : 0 ≤ monthDays c y m ∧ monthDays c y m ≤ 31 := by
 unfold monthDays
 split
 · rename_i h
   split
   · omega
   · rcases month_cases h.2.1 h.2.2 with rfl | rfl | rfl | rfl | rfl | rfl | rfl | rfl | rfl | rfl | rfl | rfl <;> decide
 · omega
theorem monthDays_ge {c y m : Int} (hc : c = 0 ∨ c = 1) (h1 : 1 ≤ m) (h2 : m ≤ 12) : 28 ≤ monthDays c y m := by
 unfold monthDays
 rw [if_pos ⟨hc, h1, h2⟩]
 split
 · omega
 · rcases month_cases h1 h2 with rfl | rfl | rfl | rfl | rfl | rfl | rfl | rfl | rfl | rfl | rfl | rfl <;> decide
theorem monthDays_plain {c y m : Int} (hc : c = 0 ∨ c = 1) (h1 : 1 ≤ m) (h2 : m ≤ 12) (hn : ¬ (m = 2 ∧ leapP c y)) : monthDays c y m = tab12.getD (m - 1).toNat 0 := by
 unfold monthDays
 rw [if_pos ⟨hc, h1, h2⟩, if_neg hn]
theorem monthDays_leap {c y : Int} (hc : c = 0 ∨ c = 1) (hl : leapP c y) : monthDays c y 2 = 29 := by
 unfold monthDays
 rw [if_pos ⟨hc, by omega, by omega⟩, if_pos ⟨rfl, hl⟩]
def dateP (c y m d : Int) : Prop := (c = 0 ∨ c = 1) ∧ 1 ≤ y ∧ y ≤ 3000 ∧ 1 ≤ d ∧ d ≤ monthDays c y m
instance (c y m d : Int) : Decidable (dateP c y m d) := by unfold dateP; infer_instance
def dateOk (c y m d : Int) : Bool := decide (dateP c y m d)
theorem dateP_month {c y m d : Int} (h : dateP c y m d) : 1 ≤ m ∧ m ≤ 12 := by
 obtain ⟨h1, h2, h3, h4, h5⟩ := h
 by_cases hm : 1 ≤ m ∧ m ≤ 12
 · exact hm
 · rw [monthDays_no (fun h => hm h.2)] at h5
   omega
theorem dateP_day {c y m d : Int} (h : dateP c y m d) : 1 ≤ d ∧ d ≤ 31 := by
 obtain ⟨h1, h2, h3, h4, h5⟩ := h
 have := monthDays_le c y m
 omega
def before (c y : Int) : Nat → Int
  | 0 => 0
  | k + 1 => before c y k + monthDays c y (k + 1 : Nat)
theorem before_bound (c y : Int) (k : Nat) : 0 ≤ before c y k ∧ before c y k ≤ 31 * k := by
 induction k with
 | zero => simp [before]
 | succ k ih =>
  have := monthDays_le c y (k + 1 : Nat)
  simp only [before]
  omega
theorem before_mono (c y : Int) (k j : Nat) : before c y k ≤ before c y (k + j) := by
 induction j with
 | zero => simp
 | succ j ih =>
  have := monthDays_le c y (k + j + 1 : Nat)
  show _ ≤ before c y (k + j) + monthDays c y (k + j + 1 : Nat)
  omega
theorem before_12 {c y : Int} (hc : c = 0 ∨ c = 1) : before c y 12 = 365 + (if leapP c y then 1 else 0) := by
 have m1 := monthDays_plain (y := y) hc (m := 1) (by omega) (by omega) (by omega)
 have m3 := monthDays_plain (y := y) hc (m := 3) (by omega) (by omega) (by omega)
 have m4 := monthDays_plain (y := y) hc (m := 4) (by omega) (by omega) (by omega)
 have m5 := monthDays_plain (y := y) hc (m := 5) (by omega) (by omega) (by omega)
 have m6 := monthDays_plain (y := y) hc (m := 6) (by omega) (by omega) (by omega)
 have m7 := monthDays_plain (y := y) hc (m := 7) (by omega) (by omega) (by omega)
 have m8 := monthDays_plain (y := y) hc (m := 8) (by omega) (by omega) (by omega)
 have m9 := monthDays_plain (y := y) hc (m := 9) (by omega) (by omega) (by omega)
 have m10 := monthDays_plain (y := y) hc (m := 10) (by omega) (by omega) (by omega)
 have m11 := monthDays_plain (y := y) hc (m := 11) (by omega) (by omega) (by omega)
 have m12 := monthDays_plain (y := y) hc (m := 12) (by omega) (by omega) (by omega)
 by_cases hl : leapP c y
 · have m2 := monthDays_leap hc hl
   simp [before, m1, m2, m3, m4, m5, m6, m7, m8, m9, m10, m11, m12, hl, tab12]
 · have m2 := monthDays_plain (y := y) hc (m := 2) (by omega) (by omega) (fun h => hl h.2)
   simp [before, m1, m2, m3, m4, m5, m6, m7, m8, m9, m10, m11, m12, hl, tab12]
def first (c y : Int) : Int := 365 * (y - 1) + (y - 1) / 4 + (if c = 0 then -1 else (y - 1) / 400 - (y - 1) / 100 + 1)
theorem first_jul (y : Int) : first 0 y = 365 * (y - 1) + (y - 1) / 4 - 1 := by unfold first; rw [if_pos rfl]; omega
theorem first_gre (y : Int) : first 1 y = 365 * (y - 1) + (y - 1) / 4 - (y - 1) / 100 + (y - 1) / 400 + 1 := by unfold first; rw [if_neg (by omega)]; omega
theorem first_step {c : Int} (hc : c = 0 ∨ c = 1) (y : Int) : first c (y + 1) = first c y + before c y 12 := by
 rw [before_12 hc]
 rcases hc with rfl | rfl
 · rw [first_jul, first_jul]
   by_cases h : leapP 0 y
   · rw [if_pos h]; rw [leap_jul] at h; omega
   · rw [if_neg h]; rw [leap_jul] at h; omega
 · rw [first_gre, first_gre]
   by_cases h : leapP 1 y
   · rw [if_pos h]; rw [leap_gre] at h; omega
   · rw [if_neg h]; rw [leap_gre] at h; omega
theorem first_lt {c y z : Int} (hc : c = 0 ∨ c = 1) (h : y < z) : first c y < first c z := by
 rcases hc with rfl | rfl
 · rw [first_jul, first_jul]; omega
 · rw [first_gre, first_gre]; omega
theorem year_one {c y z n : Int} (hc : c = 0 ∨ c = 1) (h1 : first c y ≤ n) (h2 : n < first c (y + 1)) (h3 : first c z ≤ n) (h4 : n < first c (z + 1)) : y = z := by
 by_cases h : y < z
 · by_cases h' : y + 1 = z
   · subst h'; omega
   · have := first_lt hc (show y + 1 < z by omega); omega
 · by_cases h' : z < y
   · by_cases h'' : z + 1 = y
     · subst h''; omega
     · have := first_lt hc (show z + 1 < y by omega); omega
   · omega
noncomputable def yearOf (c n : Int) : Int := Classical.epsilon fun y => first c y ≤ n ∧ n < first c (y + 1)
theorem yearOf_eq {c y n : Int} (hc : c = 0 ∨ c = 1) (h1 : first c y ≤ n) (h2 : n < first c (y + 1)) : yearOf c n = y := by
 have h := Classical.epsilon_spec (p := fun y => first c y ≤ n ∧ n < first c (y + 1)) ⟨y, h1, h2⟩
 exact year_one hc h.1 h.2 h1 h2
theorem month_one {c y n : Int} {k j : Nat} (h1 : before c y k ≤ n) (h2 : n < before c y (k + 1)) (h3 : before c y j ≤ n) (h4 : n < before c y (j + 1)) : k = j := by
 by_cases h : k < j
 · have := before_mono c y (k + 1) (j - (k + 1))
   rw [show k + 1 + (j - (k + 1)) = j from by omega] at this
   omega
 · by_cases h' : j < k
   · have := before_mono c y (j + 1) (k - (j + 1))
     rw [show j + 1 + (k - (j + 1)) = k from by omega] at this
     omega
   · omega
noncomputable def monthOf (c y n : Int) : Nat := Classical.epsilon fun k => before c y k ≤ n ∧ n < before c y (k + 1)
theorem monthOf_eq {c y n : Int} {k : Nat} (h1 : before c y k ≤ n) (h2 : n < before c y (k + 1)) : monthOf c y n = k := by
 have h := Classical.epsilon_spec (p := fun k => before c y k ≤ n ∧ n < before c y (k + 1)) ⟨k, h1, h2⟩
 exact month_one h.1 h.2 h1 h2
def dayOf (c y m d : Int) : Int := if dateP c y m d then first c y + before c y (m - 1).toNat + d - 1 else 0
theorem first_bound {c y : Int} (hc : c = 0 ∨ c = 1) (h1 : -5 ≤ y) (h2 : y ≤ 4000) : -2800 ≤ first c y ∧ first c y ≤ 1470000 := by
 rcases hc with rfl | rfl
 · rw [first_jul]; omega
 · rw [first_gre]; omega
theorem dayOf_bound (c y m d : Int) : -2800 ≤ dayOf c y m d ∧ dayOf c y m d ≤ 1500000 := by
 unfold dayOf
 split
 · rename_i h
   have h1 := first_bound h.1 (show -5 ≤ y by have := h.2.1; omega) (show y ≤ 4000 by have := h.2.2.1; omega)
   have h2 := before_bound c y (m - 1).toNat
   have h3 := dateP_month h
   have h4 := dateP_day h
   omega
 · omega
noncomputable def dateOf (c n : Int) : Int × Int × Int × Int × Bool :=
 if (c = 0 ∨ c = 1) ∧ 1 ≤ yearOf c n ∧ yearOf c n ≤ 3000 ∧ -1000 ≤ n ∧ n ≤ 1200000 then
  (c, yearOf c n, (monthOf c (yearOf c n) (n - first c (yearOf c n)) : Int) + 1, n - first c (yearOf c n) - before c (yearOf c n) (monthOf c (yearOf c n) (n - first c (yearOf c n))) + 1, true)
 else (0, 0, 0, 0, false)
theorem floorDiv_small {a b : Int} (hb : 0 < b) (h1 : -4611686018427387904 ≤ a) (h2 : a ≤ 4611686018427387904) : floorDiv a b = a / b := by
 have hd := Int.mul_tdiv_add_tmod a b
 have he := Int.mul_ediv_add_emod a b
 have he1 := Int.emod_nonneg a (show b ≠ 0 by omega)
 have he2 := Int.emod_lt_of_pos a hb
 have hq : (a.tdiv b).natAbs ≤ a.natAbs := by rw [Int.natAbs_tdiv]; exact Nat.div_le_self _ _
 have hr : a.tmod b < b := Int.tmod_lt_of_pos a hb
 have hl : -b < a.tmod b := by
  have := Int.tmod_lt_of_pos (-a) hb
  rw [Int.neg_tmod] at this
  omega
 unfold floorDiv
 rw [if_neg (by omega), in_range (a.tdiv b) (by omega)]
 by_cases h : a.tmod b < 0
 · rw [if_pos h, in_range _ (by omega)]
   apply Int.le_antisymm
   · rw [Int.le_ediv_iff_mul_le hb, Int.sub_mul, Int.mul_comm]; omega
   · have : a / b < a.tdiv b - 1 + 1 := by
      apply Int.ediv_lt_of_lt_mul hb
      rw [show a.tdiv b - 1 + 1 = a.tdiv b by omega, Int.mul_comm]; omega
     omega
 · rw [if_neg h]
   apply Int.le_antisymm
   · rw [Int.le_ediv_iff_mul_le hb, Int.mul_comm]; omega
   · have : a / b < a.tdiv b + 1 := by
      apply Int.ediv_lt_of_lt_mul hb
      rw [Int.add_mul, Int.mul_comm]; omega
     omega
theorem specCal (c : Int) (w : World) : CS 109 #[.int .i64 c] w (.bool (calB c)) := by
 by_cases h0 : c = 0
 · subst h0
   go_enter Tryz.func109, Tryz.ntmps109
   go_wp2
   go_ret
   exact ⟨by first | rfl | exact ret_bool (by simp [*]), rfl⟩
 by_cases h1 : c = 1
 · subst h1
   go_enter Tryz.func109, Tryz.ntmps109
   go_wp2
   go_ret
   exact ⟨by first | rfl | exact ret_bool (by simp [*]), rfl⟩
 rw [calB_no (by omega)]
 go_enter Tryz.func109, Tryz.ntmps109
 go_wp2
 go_ret
 exact ⟨by first | rfl | exact ret_bool (by simp [*]), rfl⟩
theorem leapB_true {c y : Int} (h : leapP c y) : leapB c y = true := decide_eq_true h
theorem leapB_false {c y : Int} (h : ¬ leapP c y) : leapB c y = false := decide_eq_false h
theorem specLeap (c y : Int) (w : World) : CS 229 #[.int .i64 c, .int .i64 y] w (.bool (leapB c y)) := by
 by_cases h0 : c = 0
 · subst h0
   by_cases h4 : y.tmod 4 = 0
   · rw [leapB_true (.inl ⟨rfl, h4⟩)]
     go_enter Tryz.func229, Tryz.ntmps229
     go_wp2
     go_ret
     exact ⟨by first | rfl | exact ret_bool (by simp [*]), rfl⟩
   · rw [leapB_false (by unfold leapP; omega)]
     go_enter Tryz.func229, Tryz.ntmps229
     go_wp2
     go_ret
     exact ⟨by first | rfl | exact ret_bool (by simp [*]), rfl⟩
 by_cases h1 : c = 1
 · subst h1
   by_cases h4 : y.tmod 4 = 0
   · by_cases h100 : y.tmod 100 = 0
     · by_cases h400 : y.tmod 400 = 0
       · rw [leapB_true (.inr ⟨rfl, .inr h400⟩)]
         go_enter Tryz.func229, Tryz.ntmps229
         go_wp2
         go_ret
         exact ⟨by first | rfl | exact ret_bool (by simp [*]), rfl⟩
       · rw [leapB_false (by unfold leapP; omega)]
         go_enter Tryz.func229, Tryz.ntmps229
         go_wp2
         go_ret
         exact ⟨by first | rfl | exact ret_bool (by simp [*]), rfl⟩
     · rw [leapB_true (.inr ⟨rfl, .inl ⟨h4, h100⟩⟩)]
       go_enter Tryz.func229, Tryz.ntmps229
       go_wp2
       go_ret
       exact ⟨by first | rfl | exact ret_bool (by simp [*]), rfl⟩
   · have h400 : ¬ y.tmod 400 = 0 := fun h => h4 (tmod_four h)
     rw [leapB_false (by unfold leapP; omega)]
     go_enter Tryz.func229, Tryz.ntmps229
     go_wp2
     go_ret
     exact ⟨by first | rfl | exact ret_bool (by simp [*]), rfl⟩
 rw [leapB_false (by unfold leapP; omega)]
 go_enter Tryz.func229, Tryz.ntmps229
 go_wp2
 go_ret
 exact ⟨by first | rfl | exact ret_bool (by simp [*]), rfl⟩
theorem implCal0 (w : World) : CS 132 #[.int .i64 0] w (.iface 200 (.agg #[])) := by
 go_enter Tryz.func132, Tryz.ntmps132
 go_wp2
 go_ret
 exact ⟨rfl, rfl⟩
theorem implCal1 (w : World) : CS 132 #[.int .i64 1] w (.iface 201 (.agg #[])) := by
 go_enter Tryz.func132, Tryz.ntmps132
 go_wp2
 go_ret
 exact ⟨rfl, rfl⟩
theorem implCalNo (c : Int) (h0 : ¬ c = 0) (h1 : ¬ c = 1) (w : World) : CS 132 #[.int .i64 c] w .nilIface := by
 go_enter Tryz.func132, Tryz.ntmps132
 go_wp2
 go_ret
 exact ⟨rfl, rfl⟩
/- What a type switch asks of a calendar: closed facts over the program's tables. -/
theorem isJulJul (w : World) : (Instr.typeAssert (.iface 200 (.agg #[])) 147 200 true).run Tryz.prog w = .ok (.tuple #[.agg #[], .bool true]) w := by kernel_rfl
theorem isJulGre (w : World) : (Instr.typeAssert (.iface 201 (.agg #[])) 147 200 true).run Tryz.prog w = .ok (.tuple #[.agg #[], .bool false]) w := by kernel_rfl
theorem isGreGre (w : World) : (Instr.typeAssert (.iface 201 (.agg #[])) 147 201 true).run Tryz.prog w = .ok (.tuple #[.agg #[], .bool true]) w := by kernel_rfl
theorem isJulNil (w : World) : (Instr.typeAssert .nilIface 147 200 true).run Tryz.prog w = .ok (.tuple #[.agg #[], .bool false]) w := by kernel_rfl
theorem isGreNil (w : World) : (Instr.typeAssert .nilIface 147 201 true).run Tryz.prog w = .ok (.tuple #[.agg #[], .bool false]) w := by kernel_rfl
theorem leapJul (y : Int) (w : World) : CR 369 #[.agg #[], .int .i64 y] w (.bool (leapB 0 y)) := by
 have h : leapB 0 y = (y.tmod 4 == 0) := by
  by_cases h : y.tmod 4 = 0
  · rw [leapB_true (.inl ⟨rfl, h⟩), h]; rfl
  · rw [leapB_false (by unfold leapP; omega)]; simp [h]
 rw [h]
 clear h
 go_enter Tryz.func369, Tryz.ntmps369
 go_wp2
 go_ret
 exact ⟨rfl, (Below.refl _ _).alloc (Nat.le_refl _) _⟩
theorem leapGre (y : Int) (w : World) : CR 371 #[.agg #[], .int .i64 y] w (.bool (leapB 1 y)) := by
 by_cases h4 : y.tmod 4 = 0
 · by_cases h100 : y.tmod 100 = 0
   · by_cases h400 : y.tmod 400 = 0
     · rw [leapB_true (.inr ⟨rfl, .inr h400⟩)]
       go_enter Tryz.func371, Tryz.ntmps371
       go_wp2
       go_ret
       exact ⟨by first | rfl | exact ret_bool (by simp [*]), (Below.refl _ _).alloc (Nat.le_refl _) _⟩
     · rw [leapB_false (by unfold leapP; omega)]
       go_enter Tryz.func371, Tryz.ntmps371
       go_wp2
       go_ret
       exact ⟨by first | rfl | exact ret_bool (by simp [*]), (Below.refl _ _).alloc (Nat.le_refl _) _⟩
   · rw [leapB_true (.inr ⟨rfl, .inl ⟨h4, h100⟩⟩)]
     go_enter Tryz.func371, Tryz.ntmps371
     go_wp2
     go_ret
     exact ⟨by first | rfl | exact ret_bool (by simp [*]), (Below.refl _ _).alloc (Nat.le_refl _) _⟩
 · have h400 : ¬ y.tmod 400 = 0 := fun h => h4 (tmod_four h)
   rw [leapB_false (by unfold leapP; omega)]
   go_enter Tryz.func371, Tryz.ntmps371
   go_wp2
   go_ret
   exact ⟨by first | rfl | exact ret_bool (by simp [*]), (Below.refl _ _).alloc (Nat.le_refl _) _⟩
theorem implLeap (c y : Int) (w : World) : CR 253 #[.int .i64 c, .int .i64 y] w (.bool (leapB c y)) := by
 by_cases h0 : c = 0
 · subst h0
   go_enter Tryz.func253, Tryz.ntmps253
   go_wp2_with fail
   refine sameC (implCal0 _) ?_
   go_wp2_with (go_at_call 369; refine (leapJul _ _).mono ?_; rintro e w1 ⟨rfl, hb⟩)
   go_ret
   exact ⟨rfl, hb⟩
 by_cases h1 : c = 1
 · subst h1
   go_enter Tryz.func253, Tryz.ntmps253
   go_wp2_with fail
   refine sameC (implCal1 _) ?_
   go_wp2_with (go_at_call 371; refine (leapGre _ _).mono ?_; rintro e w1 ⟨rfl, hb⟩)
   go_ret
   exact ⟨rfl, hb⟩
 rw [leapB_false (by unfold leapP; omega)]
 go_enter Tryz.func253, Tryz.ntmps253
 go_wp2_with fail
 refine sameC (implCalNo _ h0 h1 _) ?_
 go_wp2
 go_ret
 exact ⟨rfl, Below.refl _ _⟩
def calText (c : Int) : ByteArray := if c = 0 then ⟨#[106, 117, 108]⟩ else if c = 1 then ⟨#[103, 114, 101]⟩ else ⟨#[]⟩
theorem specCalName (c : Int) (w : World) : CS 97 #[.int .i64 c] w (.string (calText c)) := by
 by_cases h0 : c = 0
 · subst h0
   go_enter Tryz.func97, Tryz.ntmps97
   go_wp2
   go_ret
   exact ⟨rfl, rfl⟩
 by_cases h1 : c = 1
 · subst h1
   go_enter Tryz.func97, Tryz.ntmps97
   go_wp2
   go_ret
   exact ⟨rfl, rfl⟩
 rw [show calText c = ⟨#[]⟩ from by unfold calText; rw [if_neg h0, if_neg h1]]
 go_enter Tryz.func97, Tryz.ntmps97
 go_wp2
 go_ret
 exact ⟨rfl, rfl⟩
theorem implCalName (c : Int) (w : World) : CS 124 #[.int .i64 c] w (.string (calText c)) := by
 by_cases h0 : c = 0
 · subst h0
   go_enter Tryz.func124, Tryz.ntmps124
   go_wp2_with fail
   refine sameC (implCal0 _) ?_
   have q1 := isJulJul
   go_wp2
   go_ret
   exact ⟨rfl, rfl⟩
 by_cases h1 : c = 1
 · subst h1
   go_enter Tryz.func124, Tryz.ntmps124
   go_wp2_with fail
   refine sameC (implCal1 _) ?_
   have q1 := isJulGre
   have q2 := isGreGre
   go_wp2
   go_ret
   exact ⟨rfl, rfl⟩
 rw [show calText c = ⟨#[]⟩ from by unfold calText; rw [if_neg h0, if_neg h1]]
 go_enter Tryz.func124, Tryz.ntmps124
 go_wp2_with fail
 refine sameC (implCalNo _ h0 h1 _) ?_
 have q1 := isJulNil
 have q2 := isGreNil
 go_wp2
 go_ret
 exact ⟨rfl, rfl⟩
theorem specMonthDays (c y m : Int) (w : World) : CR 220 #[.int .i64 c, .int .i64 y, .int .i64 m] w (.int .i64 (monthDays c y m)) := by
 by_cases hc : c = 0 ∨ c = 1
 · have hC : calB c = true := calB_iff.2 hc
   by_cases hm : 1 ≤ m ∧ m ≤ 12
   · have hI : inB m 1 12 = true := inB_true hm.1 hm.2
     by_cases h2 : m = 2
     · subst h2
       by_cases hl : leapP c y
       · rw [monthDays_leap hc hl]
         have hL := leapB_true hl
         clear hl hc hm
         go_enter Tryz.func220, Tryz.ntmps220
         go_wp2_with fail
         refine sameC (specCal _ _) ?_
         rw [hC]
         go_wp2_with fail
         refine sameC (l01In _ _ _ _) ?_
         rw [hI]
         go_wp2_with fail
         refine sameC (specLeap _ _ _) ?_
         rw [hL]
         go_wp2
         go_ret
         exact ⟨rfl, Below.refl _ _⟩
       · have hL := leapB_false hl
         rw [monthDays_plain hc hm.1 hm.2 (fun h => hl h.2)]
         clear hl hc hm
         go_enter Tryz.func220, Tryz.ntmps220
         go_wp2_with fail
         refine sameC (specCal _ _) ?_
         rw [hC]
         go_wp2_with fail
         refine sameC (l01In _ _ _ _) ?_
         rw [hI]
         go_wp2_with fail
         refine sameC (specLeap _ _ _) ?_
         rw [hL]
         go_wp2
         go_ret
         exact ⟨rfl, (Below.refl _ _).alloc (Nat.le_refl _) _⟩
     · rw [monthDays_plain hc hm.1 hm.2 (fun h => h2 h.1)]
       have hm1 := hm.1
       have hm2 := hm.2
       clear hm hc
       rcases month_cases hm1 hm2 with rfl | rfl | rfl | rfl | rfl | rfl | rfl | rfl | rfl | rfl | rfl | rfl
       all_goals first
        | exact absurd rfl h2
        | (clear hm1 hm2 h2
           go_enter Tryz.func220, Tryz.ntmps220
           go_wp2_with fail
           refine sameC (specCal _ _) ?_
           rw [hC]
           go_wp2_with fail
           refine sameC (l01In _ _ _ _) ?_
           rw [hI]
           go_wp2
           go_ret
           exact ⟨rfl, (Below.refl _ _).alloc (Nat.le_refl _) _⟩)
   · have hI : inB m 1 12 = false := inB_false (by omega)
     rw [monthDays_no (fun h => hm h.2)]
     go_enter Tryz.func220, Tryz.ntmps220
     go_wp2_with fail
     refine sameC (specCal _ _) ?_
     rw [hC]
     go_wp2_with fail
     refine sameC (l01In _ _ _ _) ?_
     rw [hI]
     go_wp2
     go_ret
     exact ⟨rfl, Below.refl _ _⟩
 · have hC : calB c = false := calB_no hc
   rw [monthDays_no (fun h => hc h.1)]
   go_enter Tryz.func220, Tryz.ntmps220
   go_wp2_with fail
   refine sameC (specCal _ _) ?_
   rw [hC]
   go_wp2
   go_ret
   exact ⟨rfl, Below.refl _ _⟩
theorem dateOk_true {c y m d : Int} (h : dateP c y m d) : dateOk c y m d = true := decide_eq_true h
theorem dateOk_false {c y m d : Int} (h : ¬ dateP c y m d) : dateOk c y m d = false := decide_eq_false h
theorem specDateOk (c y m d : Int) (w : World) : CR 221 #[.agg #[.int .i64 c, .int .i64 y, .int .i64 m, .int .i64 d]] w (.bool (dateOk c y m d)) := by
 have hD : dateOk c y m d = (calB c && (inB y 1 3000 && inB d 1 (monthDays c y m))) := by
  by_cases hc : c = 0 ∨ c = 1
  · rw [calB_iff.2 hc]
    by_cases hp : dateP c y m d
    · rw [dateOk_true hp, inB_true hp.2.1 hp.2.2.1, inB_true hp.2.2.2.1 hp.2.2.2.2]; rfl
    · rw [dateOk_false hp]
      by_cases hy : 1 ≤ y ∧ y ≤ 3000
      · rw [inB_true hy.1 hy.2, inB_false (x := d)]; rfl
        by_cases h1 : d < 1
        · exact .inl h1
        · refine .inr ?_
          by_cases h2 : monthDays c y m < d
          · exact h2
          · exact absurd ⟨hc, hy.1, hy.2, by omega, by omega⟩ hp
      · rw [inB_false (x := y) (by omega)]; rfl
  · rw [calB_no hc, dateOk_false (fun h => hc h.1)]; rfl
 rw [hD]
 clear hD
 cases hC : calB c
 · have KC : ∀ W, CS 109 #[.int .i64 c] W (.bool false) := fun W => by rw [← hC]; exact specCal c W
   go_enter Tryz.func221, Tryz.ntmps221
   go_wp2
   go_quiet ((go_at_call 109; exact Calls.quiet_of_same (KC _)))
   go_wp2
   go_ret
   exact ⟨rfl, Below_drewN ((Below.refl _ _).alloc (Nat.le_refl _) _) _⟩
 have KC : ∀ W, CS 109 #[.int .i64 c] W (.bool true) := fun W => by rw [← hC]; exact specCal c W
 cases hY : inB y 1 3000
 · have KY : ∀ W, CS 98 #[.int .i64 y, .int .i64 1, .int .i64 3000] W (.bool false) := fun W => by rw [← hY]; exact l01In y 1 3000 W
   go_enter Tryz.func221, Tryz.ntmps221
   go_wp2
   go_quiet (first | (go_at_call 109; exact Calls.quiet_of_same (KC _)) | (go_at_call 98; exact Calls.quiet_of_same (KY _)))
   go_wp2
   go_ret
   exact ⟨rfl, Below_drewN ((Below.refl _ _).alloc (Nat.le_refl _) _) _⟩
 have KY : ∀ W, CS 98 #[.int .i64 y, .int .i64 1, .int .i64 3000] W (.bool true) := fun W => by rw [← hY]; exact l01In y 1 3000 W
 have W0 : ∃ W0, W0 = w.alloc (.cells #[.int .i64 c, .int .i64 y, .int .i64 m, .int .i64 d] 161) := ⟨_, rfl⟩
 obtain ⟨W0, hW0⟩ := W0
 have c0 : ∀ x : Later W0, x.w.cell? ⟨w.heap.size, 0, none⟩ = some (.int .i64 c) := Later.new hW0 0 rfl
 have c1 : ∀ x : Later W0, x.w.cell? ⟨w.heap.size, 1, none⟩ = some (.int .i64 y) := Later.new hW0 1 rfl
 have c2 : ∀ x : Later W0, x.w.cell? ⟨w.heap.size, 2, none⟩ = some (.int .i64 m) := Later.new hW0 2 rfl
 have c3 : ∀ x : Later W0, x.w.cell? ⟨w.heap.size, 3, none⟩ = some (.int .i64 d) := Later.new hW0 3 rfl
 have HW0 : Hid (W0 = _) := hW0
 clear hW0
 have KM : ∀ W, CR 220 #[.int .i64 c, .int .i64 y, .int .i64 m] W (.int .i64 (monthDays c y m)) := specMonthDays c y m
 have KD : ∀ W, CS 98 #[.int .i64 d, .int .i64 1, .int .i64 (monthDays c y m)] W (.bool (inB d 1 (monthDays c y m))) := l01In d 1 (monthDays c y m)
 clear hC hY
 generalize inB d 1 (monthDays c y m) = bd at *
 generalize monthDays c y m = md at *
 go_enter Tryz.func221, Tryz.ntmps221
 go_wp2
 rw [← HW0.out]
 refine wp_region_later (W := W0) (Below.refl _ _) (by kernel_rfl) (by kernel_rfl) ?_
 repeat (go_big_quiet_step (first | (go_at_call 109; exact calls_same (KC _)) | (go_at_call_of 98 y; exact calls_same (KY _)) | (go_at_call_of 98 d; exact calls_same (KD _)) | (go_at_call 220; exact calls_later (KM _))))
 refine quietE fun x => ?_
 go_wp2
 go_ret
 exact ⟨rfl, below_of_alloc HW0.out x.below⟩
def nones (m : Int) : Int := if 1 ≤ m ∧ m ≤ 12 then (if m = 3 ∨ m = 5 ∨ m = 7 ∨ m = 10 then 7 else 5) else 0
def ides (m : Int) : Int := if 1 ≤ m ∧ m ≤ 12 then nones m + 8 else 0
theorem nones_b (m : Int) : 0 ≤ nones m ∧ nones m ≤ 7 := by
 unfold nones
 split
 · split <;> omega
 · omega
theorem ides_b (m : Int) : 0 ≤ ides m ∧ ides m ≤ 15 := by
 have := nones_b m
 unfold ides
 split <;> omega
theorem ides_in {m : Int} (h1 : 1 ≤ m) (h2 : m ≤ 12) : ides m = nones m + 8 := by unfold ides; rw [if_pos ⟨h1, h2⟩]
theorem nones_in {m : Int} (h1 : 1 ≤ m) (h2 : m ≤ 12) : 5 ≤ nones m := by
 unfold nones
 rw [if_pos ⟨h1, h2⟩]
 split <;> omega
structure Rom where
 count : Int
 mark : Int
 month : Int
 twice : Bool
instance : DecidableEq Rom := fun a b =>
 if h : a.count = b.count ∧ a.mark = b.mark ∧ a.month = b.month ∧ a.twice = b.twice then .isTrue (by cases a; cases b; simp at h; simp [h]) else .isFalse (fun e => h (by subst e; exact ⟨rfl, rfl, rfl, rfl⟩))
def countDays (c y m d : Int) : Int := if m = 2 ∧ d ≤ 24 then 28 else monthDays c y m
def romanIn (c y m d : Int) : Rom :=
 if d = 1 then ⟨1, 0, m, false⟩
 else if d ≤ nones m then ⟨nones m - d + 1, 1, m, false⟩
 else if d ≤ ides m then ⟨ides m - d + 1, 2, m, false⟩
 else ⟨countDays c y m d - d + 2, 0, m % 12 + 1, decide (m = 2 ∧ d = 24 ∧ leapP c y)⟩
def romanOf (c y m d : Int) : Rom := if dateP c y m d then romanIn c y m d else ⟨0, 0, 0, false⟩
def monAhead (m : Int) : Int := if m = 1 then 12 else m - 1
def invM (r : Rom) : Int := if r.mark = 0 ∧ r.count ≠ 1 then monAhead r.month else r.month
def invD (c y : Int) (r : Rom) : Int :=
 if r.mark = 0 then
  if r.count = 1 then 1
  else if monAhead r.month = 2 ∧ leapP c y ∧ (6 < r.count ∨ r.twice = true) then 30 - r.count
  else monthDays c y (monAhead r.month) + 2 - r.count
 else if r.mark = 1 then nones r.month + 1 - r.count
 else ides r.month + 1 - r.count
theorem inv_back {c y m d : Int} (h : dateP c y m d) : invM (romanOf c y m d) = m ∧ invD c y (romanOf c y m d) = d := by
 have hm := dateP_month h
 have hd := dateP_day h
 have hn := nones_in hm.1 hm.2
 have hi := ides_in hm.1 hm.2
 unfold romanOf
 rw [if_pos h]
 unfold romanIn
 by_cases h1 : d = 1
 · rw [if_pos h1]
   unfold invM invD
   simp [h1]
 rw [if_neg h1]
 by_cases h2 : d ≤ nones m
 · rw [if_pos h2]
   unfold invM invD
   simp
   omega
 rw [if_neg h2]
 by_cases h3 : d ≤ ides m
 · rw [if_pos h3]
   unfold invM invD
   simp
   omega
 rw [if_neg h3]
 have hA : monAhead (m % 12 + 1) = m := by unfold monAhead; split <;> omega
 have hmd := h.2.2.2.2
 have hc := h.1
 have hcd : countDays c y m d - d + 2 ≠ 1 := by
  unfold countDays
  split <;> omega
 unfold invM invD
 simp only [hA]
 rw [if_pos ⟨trivial, hcd⟩, if_pos trivial, if_neg hcd]
 refine ⟨rfl, ?_⟩
 by_cases e2 : m = 2
 · subst e2
   by_cases hl : leapP c y
   · have h29 := monthDays_leap hc hl
     rw [h29] at hmd
     by_cases h24 : d ≤ 24
     · have hk : countDays c y 2 d = 28 := by unfold countDays; rw [if_pos ⟨rfl, h24⟩]
       rw [hk, if_pos]
       · omega
       · refine ⟨rfl, hl, ?_⟩
         by_cases e : d = 24
         · right
           simp [e, hl]
         · left
           omega
     · have hk : countDays c y 2 d = 29 := by unfold countDays; rw [if_neg (fun h => h24 h.2), h29]
       rw [hk, h29, if_neg]
       · omega
       · rintro ⟨_, _, h | h⟩
         · omega
         · simp at h
           omega
   · rw [if_neg (fun h => hl h.2.1)]
     have h28 : monthDays c y 2 = 28 := monthDays_plain hc (by omega) (by omega) (fun h => hl h.2)
     unfold countDays
     rw [h28]
     split <;> omega
 · rw [if_neg (fun h => e2 h.1)]
   unfold countDays
   rw [if_neg (fun h => e2 h.1)]
   omega
def isDay (c y : Int) (r : Rom) (m d : Int) : Prop := dateP c y m d ∧ romanOf c y m d = r
theorem isDay_inv {c y m d : Int} {r : Rom} (h : isDay c y r m d) : m = invM r ∧ d = invD c y r := by
 have := inv_back h.1
 rw [h.2] at this
 exact ⟨this.1.symm, this.2.symm⟩
def dayR (c y : Int) (r : Rom) : Bool := decide (dateP c y (invM r) (invD c y r) ∧ romanOf c y (invM r) (invD c y r) = r)
theorem dayR_of {c y m d : Int} {r : Rom} (h : isDay c y r m d) : dayR c y r = true := by
 obtain ⟨rfl, rfl⟩ := isDay_inv h
 exact decide_eq_true h
instance (c y : Int) (r : Rom) (m d : Int) : Decidable (isDay c y r m d) := by unfold isDay; infer_instance
theorem dayR_is {c y : Int} {r : Rom} (h : dayR c y r = true) : isDay c y r (invM r) (invD c y r) := by
 unfold dayR at h
 exact of_decide_eq_true h
def dayOfRoman (c y : Int) (r : Rom) : Int × Int × Int × Int := if dayR c y r = true then (c, y, invM r, invD c y r) else (0, 0, 0, 0)
theorem romDay_yes {c y m d : Int} {r : Rom} (h : isDay c y r m d) : dayOfRoman c y r = (c, y, m, d) := by
 unfold dayOfRoman
 rw [if_pos (dayR_of h)]
 obtain ⟨rfl, rfl⟩ := isDay_inv h
 rfl
theorem romDay_no {c y : Int} {r : Rom} (h : ∀ m d, ¬ isDay c y r m d) : dayOfRoman c y r = (0, 0, 0, 0) := by
 unfold dayOfRoman
 rw [if_neg (fun k => h _ _ (dayR_is k))]
def romB (r : Rom) : Bool := dayR 0 4 r
theorem leap4 : leapP 0 4 := by decide
theorem romB_any {c y m d : Int} (h : dateP c y m d) : romB (romanOf c y m d) = true := by
 have hm := dateP_month h
 have hd := dateP_day h
 have hn := nones_in hm.1 hm.2
 have hi := ides_in hm.1 hm.2
 have hc := h.1
 have hmd := h.2.2.2.2
 by_cases e2 : m = 2
 · subst e2
   by_cases hlow : d ≤ 23 ∨ leapP c y
   · have hP : dateP 0 4 2 d := ⟨.inl rfl, by omega, by omega, h.2.2.2.1, by
      rw [monthDays_leap (.inl rfl) leap4]
      by_cases hl : leapP c y
      · rw [monthDays_leap hc hl] at hmd
        exact hmd
      · rw [monthDays_plain hc (by omega) (by omega) (fun h => hl h.2)] at hmd
        have : tab12.getD ((2 : Int) - 1).toNat 0 = 28 := rfl
        omega⟩
     refine dayR_of (m := 2) (d := d) ⟨hP, ?_⟩
     unfold romanOf
     rw [if_pos h, if_pos hP]
     have hcd : countDays 0 4 2 d = countDays c y 2 d := by
      unfold countDays
      by_cases h24 : d ≤ 24
      · rw [if_pos ⟨rfl, h24⟩, if_pos ⟨rfl, h24⟩]
      · have hl : leapP c y := by
         rcases hlow with h | h
         · omega
         · exact h
        rw [if_neg (fun h => h24 h.2), if_neg (fun h => h24 h.2), monthDays_leap (.inl rfl) leap4, monthDays_leap hc hl]
     have htw : decide ((2 : Int) = 2 ∧ d = 24 ∧ leapP 0 4) = decide ((2 : Int) = 2 ∧ d = 24 ∧ leapP c y) := by
      by_cases e : d = 24
      · have hl : leapP c y := by
         rcases hlow with h | h
         · omega
         · exact h
        simp [e, hl, leap4]
      · simp [e]
     unfold romanIn
     rw [hcd, htw]
   · have hl : ¬ leapP c y := fun k => hlow (.inr k)
     have h28 : monthDays c y 2 = 28 := monthDays_plain hc (by omega) (by omega) (fun h => hl h.2)
     rw [h28] at hmd
     have hP : dateP 0 4 2 (d + 1) := ⟨.inl rfl, by omega, by omega, by omega, by rw [monthDays_leap (.inl rfl) leap4]; omega⟩
     refine dayR_of (m := 2) (d := d + 1) ⟨hP, ?_⟩
     have hn2 : nones 2 = 5 := rfl
     have hi2 : ides 2 = 13 := rfl
     unfold romanOf
     rw [if_pos h, if_pos hP]
     unfold romanIn countDays
     rw [if_neg (by omega), if_neg (by omega), if_neg (by omega), if_neg (by omega), if_neg (by omega), if_neg (by omega), if_neg (by omega), monthDays_leap (.inl rfl) leap4, h28]
     simp [hl, show ¬ d + 1 = 24 by omega]
     omega
 · have hsame : monthDays 0 4 m = monthDays c y m := by
    rw [monthDays_plain hc hm.1 hm.2 (fun h => e2 h.1), monthDays_plain (.inl rfl) hm.1 hm.2 (fun h => e2 h.1)]
   have hP : dateP 0 4 m d := ⟨.inl rfl, by omega, by omega, h.2.2.2.1, by rw [hsame]; exact hmd⟩
   refine dayR_of (m := m) (d := d) ⟨hP, ?_⟩
   unfold romanOf
   rw [if_pos h, if_pos hP]
   unfold romanIn countDays
   rw [hsame]
   simp [e2]
theorem romB_of {c y m d : Int} {r : Rom} (h : isDay c y r m d) : romB r = true := by
 have := romB_any h.1
 rw [h.2] at this
 exact this
end Go.Proofs.YtpclaceefapppaaGreatDoor.ctr
