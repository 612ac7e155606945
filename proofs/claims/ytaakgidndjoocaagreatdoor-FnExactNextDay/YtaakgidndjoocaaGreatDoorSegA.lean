/- Lists of structs whose fields are all ints: a plain list, and that a slice value holds just it ('IRow': anywhere; 'INew': in a block of its own that was not there in w; 'IIn': it came in). Segments with numbers, plain: what a heap of them keeps, and that what is taken off one after the other stands as the model puts it. Segments and patches: a struct of five ints, one of three; contracts of the laws' own helpers over them: how long all is, copies, two lists alike are told alike. What a law is told of a struct of ints that comes in by value. -/
import Derived.Test.YtaakgidndjoocaaGreatDoorBlkKitM
import Derived.Deep.Slices
import Derived.Lib.SmallJoins
import Derived.Test.YtaakgidndjoocaaGreatDoorBaseM
import Derived.Laws.MakeOwn
import Derived.Deep.RegionWith
namespace Go.Proofs.YtaakgidndjoocaaGreatDoor.ctr
open Go.RowKit

/-- A struct of m ints. -/
structure IK (α : Type) where
  m : Nat
  iv : α → List Int
  ofI : List Int → α
  d : α
  len : ∀ a, (iv a).length = m
  back : ∀ zs : List Int, zs.length = m → iv (ofI zs) = zs
def icell {α : Type} (K : IK α) (a : α) : List Value := (K.iv a).map (Value.int .i64)
def icells {α : Type} (K : IK α) : List α → List Value
  | [] => []
  | a :: l => icell K a ++ icells K l
def iA {α : Type} (K : IK α) (l : List α) : Array Value := (icells K l).toArray
def atK {α : Type} (K : IK α) (l : List α) (k : Nat) : α := l.getD k K.d
theorem atK_eq {α : Type} {K : IK α} {l : List α} {k : Nat} (h : k < l.length) : atK K l k = l[k] := by unfold atK; rw [List.getD, List.getElem?_eq_getElem h]; rfl
theorem icells_len {α : Type} {K : IK α} : ∀ l : List α, (icells K l).length = l.length * K.m
  | [] => by simp [icells]
  | a :: l => by rw [icells, List.length_append, icells_len l]; simp [icell, K.len, Nat.add_mul]; omega
theorem icells_at {α : Type} {K : IK α} : ∀ (l : List α) (k j : Nat) (z : Int), k < l.length → (K.iv (atK K l k))[j]? = some z → (icells K l)[k * K.m + j]? = some (.int .i64 z)
  | [], k, j, z, h, _ => by simp at h
  | a :: l, 0, j, z, _, e => by
    have e' : (K.iv a)[j]? = some z := by simpa [atK] using e
    have hj : j < (K.iv a).length := (List.getElem?_eq_some_iff.1 e').1
    rw [icells, Nat.zero_mul, Nat.zero_add, List.getElem?_append_left (by simpa [icell] using hj)]
    simp [icell, e']
  | a :: l, k + 1, j, z, h, e => by
    rw [icells, List.getElem?_append_right (by simp [icell, K.len, Nat.add_mul]; omega)]
    have := icells_at l k j z (by simpa using h) (by simpa [atK] using e)
    simp only [icell, List.length_map, K.len]
    rw [show (k + 1) * K.m + j - K.m = k * K.m + j by rw [Nat.add_mul]; omega]
    exact this
theorem iA_size {α : Type} {K : IK α} (l : List α) : (iA K l).size = l.length * K.m := by simp [iA, icells_len]
theorem iA_at {α : Type} {K : IK α} {l : List α} {k : Nat} (j : Nat) {z : Int} (h : k < l.length) (e : (K.iv (atK K l k))[j]? = some z) : (iA K l)[k * K.m + j]? = some (.int .i64 z) := by
  simpa [iA] using icells_at l k j z h e
/-- The cells of the k-th one. -/
def IAt {α : Type} (K : IK α) (w : World) (g k : Nat) (a : α) : Prop := ∀ (j : Nat) (z : Int), (K.iv a)[j]? = some z → w.cell? ⟨g, k * K.m + j, none⟩ = some (.int .i64 z)
theorem IAt.below {α : Type} {K : IK α} {w w' : World} {g k : Nat} {a : α} {B : Nat} (h : IAt K w g k a) (hb : Below B w w') (hg : g < B) : IAt K w' g k a := fun j z e => (hb.cell (p := ⟨g, k * K.m + j, none⟩) hg).trans (h j z e)
/-- A slice value that holds just these. -/
def IRow {α : Type} (K : IK α) (w : World) (v : Value) (l : List α) : Prop := ∃ ad cap, v = .slice ad l.length cap ∧ l.length ≤ cap ∧ cap ≤ maxLen ∧ ∀ k, k < l.length → ∃ g, ad = some ⟨g, 0, none⟩ ∧ g < w.heap.size ∧ IAt K w g k (atK K l k)
theorem IRow.below {α : Type} {K : IK α} {w w' : World} {v : Value} {l : List α} (h : IRow K w v l) (hb : Below w.heap.size w w') : IRow K w' v l := by
  obtain ⟨ad, cap, rfl, h1, h2, h⟩ := h
  exact ⟨ad, cap, rfl, h1, h2, fun k hk => by
    obtain ⟨g, e, hg, hc⟩ := h k hk
    exact ⟨g, e, Nat.lt_of_lt_of_le hg hb.size, hc.below hb hg⟩⟩
theorem IRow.later {α : Type} {K : IK α} {W : World} {v : Value} {l : List α} (h : IRow K W v l) (x : Later W) : IRow K x.w v l := h.below x.below
theorem IRow.drewN {α : Type} {K : IK α} {W : World} {v : Value} {l : List α} (h : IRow K W v l) (n : Nat) : IRow K (W.drewN n) v l := h
/-- In a block of its own. -/
def INew {α : Type} (K : IK α) (w w' : World) (v : Value) (l : List α) : Prop := ∃ g t, v = .slice (some ⟨g, 0, none⟩) l.length l.length ∧ w.heap.size ≤ g ∧ Blk w' g (iA K l) t
theorem INew.row {α : Type} {K : IK α} {w w' : World} {v : Value} {l : List α} (h : INew K w w' v l) (hl : l.length ≤ maxLen) : IRow K w' v l := by
  obtain ⟨g, t, rfl, _, hb⟩ := h
  exact ⟨_, _, rfl, Nat.le_refl _, hl, fun k hk => ⟨g, rfl, hb.lt, fun j z e => hb.cell (k * K.m + j) (iA_at j hk e)⟩⟩
theorem INew.below {α : Type} {K : IK α} {w w' w'' : World} {v : Value} {l : List α} (h : INew K w w' v l) (hb : Below w'.heap.size w' w'') : INew K w w'' v l := by
  obtain ⟨g, t, rfl, hg, hB⟩ := h
  exact ⟨g, t, rfl, hg, hB.below hb hB.lt⟩
/-- A slice of such structs that came in: it is nil, or its cells are theirs. -/
def IIn {α : Type} (K : IK α) (w : World) (a : Option Addr) (len cap : Nat) (l : List α) : Prop :=
  l.length = len ∧ len ≤ cap ∧ cap ≤ maxLen ∧
  ((a = none ∧ len = 0) ∨ ∃ x, a = some x ∧ ∀ k, k < len → ∀ (j : Nat) (z : Int), (K.iv (atK K l k))[j]? = some z → w.cell? (x.add (k * K.m + j)) = some (.int .i64 z))
theorem IIn.below {α : Type} {K : IK α} {w w' : World} {a : Option Addr} {len cap : Nat} {l : List α} (h : IIn K w a len cap l) (hb : Below w.heap.size w w') : IIn K w' a len cap l := by
  obtain ⟨h1, h2, h3, h4 | ⟨x, hx, h⟩⟩ := h
  · exact ⟨h1, h2, h3, .inl h4⟩
  · exact ⟨h1, h2, h3, .inr ⟨x, hx, fun k hk j z e => Later.at (h k hk j z e) ⟨w', hb⟩⟩⟩
theorem IIn.drewN {α : Type} {K : IK α} {W : World} {a : Option Addr} {len cap : Nat} {l : List α} (h : IIn K W a len cap l) (n : Nat) : IIn K (W.drewN n) a len cap l := h

/-- The number of the first one of which p holds; -1 for none. -/
def ifFrom {α : Type} (p : α → Bool) : List α → Nat → Int
  | [], _ => -1
  | r :: l, k => if p r = true then (k : Int) else ifFrom p l (k + 1)
def ifind {α : Type} (p : α → Bool) (l : List α) : Int := ifFrom p l 0
theorem if_hit {α : Type} {K : IK α} {p : α → Bool} {l : List α} {k : Nat} {R : Int} (h : k < l.length) (hp : p (atK K l k) = true) (H : ifFrom p (l.drop k) k = R) : R = (k : Int) := by
  rw [List.drop_eq_getElem_cons h, ifFrom, ← atK_eq (K := K) h, if_pos hp] at H
  exact H.symm
theorem if_miss {α : Type} {K : IK α} {p : α → Bool} {l : List α} {k : Nat} {R : Int} (h : k < l.length) (hp : p (atK K l k) = false) (H : ifFrom p (l.drop k) k = R) : ifFrom p (l.drop (k + 1)) (k + 1) = R := by
  rw [List.drop_eq_getElem_cons h, ifFrom, ← atK_eq (K := K) h, if_neg (by rw [hp]; simp)] at H
  exact H
theorem if_end {α : Type} {p : α → Bool} {l : List α} {k : Nat} {R : Int} (h : l.length ≤ k) (H : ifFrom p (l.drop k) k = R) : R = -1 := by
  rw [List.drop_of_length_le h] at H
  exact H.symm
/-- The first k, then what was there. -/
def iPart {α : Type} (K : IK α) (l : List α) (k : Nat) (cs : Array Value) : Prop := cs.size = l.length * K.m ∧ ∀ j, j < k * K.m → cs[j]? = (iA K l)[j]?
theorem iPart_all {α : Type} {K : IK α} {l : List α} {cs : Array Value} (h : iPart K l l.length cs) : cs = iA K l := by
  apply Array.ext_getElem?
  intro j
  by_cases hj : j < l.length * K.m
  · exact h.2 j hj
  · rw [Array.getElem?_eq_none (by rw [h.1]; omega), Array.getElem?_eq_none (by rw [iA_size]; omega)]
/-- What a list of stores into one struct's cells leaves. -/
def setI (cs : Array Value) (b : Nat) : Nat → List Int → Array Value
  | _, [] => cs
  | j, z :: zs => setI (cs.setIfInBounds (b + j) (.int .i64 z)) b (j + 1) zs
theorem setI_size : ∀ (zs : List Int) (cs : Array Value) (b j : Nat), (setI cs b j zs).size = cs.size
  | [], cs, b, j => rfl
  | z :: zs, cs, b, j => by rw [setI, setI_size zs]; simp
theorem setI_old : ∀ (zs : List Int) (cs : Array Value) (b j q : Nat), q < b + j ∨ b + j + zs.length ≤ q → (setI cs b j zs)[q]? = cs[q]?
  | [], cs, b, j, q, _ => rfl
  | z :: zs, cs, b, j, q, h => by
    rw [setI, setI_old zs _ b (j + 1) q (by simp at h; omega), Array.getElem?_setIfInBounds_ne (by simp at h; omega)]
theorem setI_new : ∀ (zs : List Int) (cs : Array Value) (b j i : Nat) (z : Int), b + j + zs.length ≤ cs.size → zs[i]? = some z → (setI cs b j zs)[b + j + i]? = some (.int .i64 z)
  | [], cs, b, j, i, z, _, e => by simp at e
  | y :: zs, cs, b, j, 0, z, h, e => by
    simp at e h
    subst e
    rw [setI, setI_old zs _ b (j + 1) _ (by omega), Nat.add_zero, Array.getElem?_setIfInBounds_self_of_lt (by omega)]
  | y :: zs, cs, b, j, i + 1, z, h, e => by
    simp at h
    have := setI_new zs (cs.setIfInBounds (b + j) (.int .i64 y)) b (j + 1) i z (by simp; omega) (by simpa using e)
    rw [setI, show b + j + (i + 1) = b + (j + 1) + i by omega]
    exact this
theorem iPart_next {α : Type} {K : IK α} {l : List α} {k : Nat} {cs : Array Value} (h : iPart K l k cs) (hk : k < l.length) : iPart K l (k + 1) (setI cs (k * K.m) 0 (K.iv (atK K l k))) := by
  obtain ⟨h1, h2⟩ := h
  have hl := K.len (atK K l k)
  have hmul : (k + 1) * K.m ≤ l.length * K.m := Nat.mul_le_mul_right _ hk
  have e1 : (k + 1) * K.m = k * K.m + K.m := by rw [Nat.add_mul]; omega
  refine ⟨by rw [setI_size, h1], fun j hj => ?_⟩
  by_cases hlt : j < k * K.m
  · rw [setI_old _ _ _ _ _ (by omega), h2 j hlt]
  · obtain ⟨i, rfl⟩ : ∃ i, j = k * K.m + i := ⟨j - k * K.m, by omega⟩
    have hi : i < (K.iv (atK K l k)).length := by omega
    have e : (K.iv (atK K l k))[i]? = some ((K.iv (atK K l k))[i]) := by simp [hi]
    have := setI_new (K.iv (atK K l k)) cs (k * K.m) 0 i _ (by omega) e
    rw [Nat.add_zero] at this
    rw [this, iA_at i hk e]
end Go.Proofs.YtaakgidndjoocaaGreatDoor.ctr
namespace Go.Proofs.YtaakgidndjoocaaGreatDoor.kit
open Go.RowKit Go.WideShapes Go.Deep Go.ChangeShapes

theorem open_irow {H : Type} {enc : TypeId × Value → H} {P : Program} {w : World} {base : Nat} {spare : Nat → Bool} {held : Bool} {t e : TypeId} {fs : Array Field} {a : Option Addr} {len cap : Nat} {x : DataW H} {p : List MemPlace} {α : Type} (K : ctr.IK α)
    (ht : P.underlying t = some (.slice e)) (he : P.underlying e = some (.struct fs)) (ce : P.cellsOf e = K.m) (hsz : fs.size = K.m)
    (hf0 : ∀ (j : Nat) (f : Field), fs[j]? = some f → f.offset = j ∧ P.cellsOf f.type = 1 ∧ P.underlying f.type = some (.int .i64))
    (h : DataW.Trod enc P w base spare held t (.slice a len cap) x p) : ∃ l : List α, ctr.IIn K w a len cap l := by
  obtain ⟨fuel, h⟩ := h
  simp only [Value.cells] at h
  rcases open_slice ht h with ⟨h0, _⟩ | ⟨a', len', cap', m, n, D, Pl, e', hb, hl, hm, hmm, hxp, hx⟩
  · simp at h0
    obtain ⟨rfl, rfl, rfl⟩ := h0
    exact ⟨[], rfl, Nat.le_refl _, by unfold maxLen; omega, .inl ⟨rfl, rfl⟩⟩
  · simp at e'
    obtain ⟨rfl, rfl, rfl⟩ := e'
    have hlm : len ≤ m := by rw [hmm]; split <;> omega
    have each : ∀ i, i < len → ∃ r : α, ∀ (j : Nat) (z : Int), (K.iv r)[j]? = some z → w.cell? (a'.add (i * K.m + j)) = some (.int .i64 z) := by
      intro i hi
      obtain ⟨cs', h1, h2⟩ := hx i (by omega)
      rw [ce] at h1
      obtain ⟨_, hlen, hcell⟩ := World.cells?_some h1
      obtain ⟨xs, k, hk, hxy, _, hxl, hf⟩ := DataW.trod_struct he h2
      have cell : ∀ j, j < K.m → ∃ z : Int, cs'[j]? = some (.int .i64 z) := by
        intro j hj
        obtain ⟨f, hfe⟩ : ∃ f, fs[j]? = some f := ⟨fs[j]'(by omega), by simp [hsz, hj]⟩
        obtain ⟨o, c, u⟩ := hf0 j f hfe
        have g := hf j f (by simpa using hfe)
        rw [o, c] at g
        have hjl : j < cs'.length := by omega
        have e1 : (cs'.drop j).take 1 = [cs'[j]] := by rw [List.drop_eq_getElem_cons hjl]; rfl
        have hxj : j < xs.length := by have := hxl; omega
        rw [e1, List.getElem?_eq_getElem hxj] at g
        obtain ⟨z, q, _, _⟩ := DataW.trod_int u g
        exact ⟨z, by rw [List.getElem?_eq_getElem hjl]; simpa using q⟩
      obtain ⟨Z, hZ⟩ : ∃ Z : Nat → Int, ∀ j, j < K.m → cs'[j]? = some (.int .i64 (Z j)) := by
        classical
        refine ⟨fun j => if h : j < K.m then (cell j h).choose else 0, fun j hj => ?_⟩
        simp only [dif_pos hj]
        exact (cell j hj).choose_spec
      refine ⟨K.ofI ((List.range K.m).map Z), fun j z e => ?_⟩
      rw [K.back _ (by simp)] at e
      have hj : j < K.m := by have := (List.getElem?_eq_some_iff.1 e).1; simpa using this
      have ez : z = Z j := by simpa [hj] using e.symm
      have e0 := hcell j (by omega)
      rw [add_add] at e0
      rw [e0, ez]
      exact hZ j hj
    obtain ⟨R, hR⟩ : ∃ R : Nat → α, ∀ i, i < len → ∀ (j : Nat) (z : Int), (K.iv (R i))[j]? = some z → w.cell? (a'.add (i * K.m + j)) = some (.int .i64 z) := by
      classical
      refine ⟨fun i => if h : i < len then (each i h).choose else K.d, fun i hi => ?_⟩
      simp only [dif_pos hi]
      exact (each i hi).choose_spec
    have hat : ∀ k, k < len → ctr.atK K ((List.range len).map R) k = R k := fun k hk => by simp [ctr.atK, List.getD, hk]
    exact ⟨(List.range len).map R, by simp, hl, hm, .inr ⟨a', rfl, fun k hk => by rw [hat k hk]; exact hR k hk⟩⟩
end Go.Proofs.YtaakgidndjoocaaGreatDoor.kit

namespace Go.Proofs.YtaakgidndjoocaaGreatDoor.ctr
open Go.RowKit

/-- A segment, as five ints; a segment with its number. -/
structure Seg where
  fr : Int
  to : Int
  cal : Int
  sty : Int
  off : Int
  deriving DecidableEq
def s0 : Seg := ⟨0, 0, 0, 0, 0⟩
structure PSeg where
  s : Seg
  at' : Int
  deriving DecidableEq
def p0 : PSeg := ⟨s0, 0⟩
def ltP (a b : PSeg) : Bool := decide (a.s.fr < b.s.fr ∨ (a.s.fr = b.s.fr ∧ (a.s.to < b.s.to ∨ (a.s.to = b.s.to ∧ a.at' < b.at'))))
theorem ltP_iff (a b : PSeg) : ltP a b = true ↔ (a.s.fr < b.s.fr ∨ (a.s.fr = b.s.fr ∧ (a.s.to < b.s.to ∨ (a.s.to = b.s.to ∧ a.at' < b.at')))) := by simp [ltP]
theorem ltP_irr (a : PSeg) : ltP a a = false := by
  cases h : ltP a a
  · rfl
  · have := (ltP_iff _ _).1 h; omega
/-- a is not behind b. -/
def leP (a b : PSeg) : Prop := ltP b a = false
theorem leP_iff (a b : PSeg) : leP a b ↔ ¬ (b.s.fr < a.s.fr ∨ (b.s.fr = a.s.fr ∧ (b.s.to < a.s.to ∨ (b.s.to = a.s.to ∧ b.at' < a.at')))) := by
  unfold leP
  rw [← ltP_iff]
  cases ltP b a <;> simp
theorem leP_refl (a : PSeg) : leP a a := ltP_irr a
theorem leP_trans {a b c : PSeg} (h1 : leP a b) (h2 : leP b c) : leP a c := by
  rw [leP_iff] at *
  omega
theorem leP_of_lt {a b : PSeg} (h : ltP a b = true) : leP a b := by
  rw [leP_iff]
  rw [ltP_iff] at h
  omega
def psA (l : List PSeg) (k : Nat) : PSeg := l.getD k p0
theorem psA_eq {l : List PSeg} {k : Nat} (h : k < l.length) : psA l k = l[k] := by unfold psA; rw [List.getD, List.getElem?_eq_getElem h]; rfl
theorem psA_mem {l : List PSeg} {k : Nat} (h : k < l.length) : psA l k ∈ l := by rw [psA_eq h]; exact List.getElem_mem h
/-- i and j take each other's place. -/
def swP (l : List PSeg) (i j : Nat) : List PSeg := (l.set i (psA l j)).set j (psA l i)
theorem swP_len (l : List PSeg) (i j : Nat) : (swP l i j).length = l.length := by simp [swP]
theorem psA_set {l : List PSeg} {i k : Nat} {x : PSeg} (hi : i < l.length) : psA (l.set i x) k = if k = i then x else psA l k := by
  unfold psA
  simp only [List.getD, List.getElem?_set]
  by_cases e : i = k
  · subst e; simp [hi]
  · simp [e, Ne.symm e]
theorem psA_sw {l : List PSeg} {i j k : Nat} (hi : i < l.length) (hj : j < l.length) : psA (swP l i j) k = if k = j then psA l i else if k = i then psA l j else psA l k := by
  unfold swP
  rw [psA_set (by simpa using hj), psA_set hi]
theorem perm_of_count {l l' : List PSeg} (h : ∀ x, l.count x = l'.count x) : l.Perm l' := List.perm_iff_count.2 h
theorem swP_perm {l : List PSeg} {i j : Nat} (hi : i < l.length) (hj : j < l.length) : (swP l i j).Perm l := by
  have h := Array.swap_perm (xs := l.toArray) (i := i) (j := j) (by simpa using hi) (by simpa using hj)
  have e : (l.toArray.swap i j (by simpa using hi) (by simpa using hj)).toList = swP l i j := by
    simp [swP, psA_eq hi, psA_eq hj]
  have := h.toList
  rw [e] at this
  exact this
/-- No one of the first n is ahead of the one above it. -/
def HeapOn (l : List PSeg) (n : Nat) : Prop := ∀ k, 0 < k → k < n → leP (psA l ((k - 1) / 2)) (psA l k)
/-- .. but for the one at j. -/
def UpTo (l : List PSeg) (n j : Nat) : Prop := (∀ k, 0 < k → k < n → k ≠ j → leP (psA l ((k - 1) / 2)) (psA l k)) ∧ (0 < j → ∀ k, 0 < k → k < n → (k - 1) / 2 = j → leP (psA l ((j - 1) / 2)) (psA l k))
/-- .. but for those right below i. -/
def DownTo (l : List PSeg) (n i : Nat) : Prop := (∀ k, 0 < k → k < n → (k - 1) / 2 ≠ i → leP (psA l ((k - 1) / 2)) (psA l k)) ∧ (0 < i → ∀ k, 0 < k → k < n → (k - 1) / 2 = i → leP (psA l ((i - 1) / 2)) (psA l k))
theorem up_start {l : List PSeg} {n : Nat} {x : PSeg} (h : HeapOn l n) (hl : l.length = n) : UpTo (l ++ [x]) (n + 1) n := by
  have e : ∀ k, k < n → psA (l ++ [x]) k = psA l k := fun k hk => by simp [psA, List.getD, List.getElem?_append_left (show k < l.length by omega)]
  refine ⟨fun k h0 hk hne => ?_, fun h0 k k0 hk hp => by omega⟩
  rw [e k (by omega), e _ (by omega)]
  exact h k h0 (by omega)
theorem up_done {l : List PSeg} {n j : Nat} (h : UpTo l n j) (hj : j = 0 ∨ leP (psA l ((j - 1) / 2)) (psA l j)) : HeapOn l n := by
  intro k h0 hk
  by_cases e : k = j
  · subst e
    rcases hj with hj | hj
    · omega
    · exact hj
  · exact h.1 k h0 hk e
theorem up_next {l : List PSeg} {n j : Nat} (hl : l.length = n) (h : UpTo l n j) (h0 : 0 < j) (hj : j < n) (hlt : ltP (psA l j) (psA l ((j - 1) / 2)) = true) : UpTo (swP l ((j - 1) / 2) j) n ((j - 1) / 2) := by
  generalize hi : (j - 1) / 2 = i at *
  have hij : i < j := by omega
  have S : ∀ k, psA (swP l i j) k = if k = j then psA l i else if k = i then psA l j else psA l k := fun k => psA_sw (by omega) (by omega)
  refine ⟨fun k k0 hk hne => ?_, fun i0 k k0 hk hp => ?_⟩
  · rw [S k, S ((k - 1) / 2)]
    by_cases ek : k = j
    · subst ek
      rw [if_pos rfl, hi, if_neg (by omega), if_pos rfl]
      exact leP_of_lt hlt
    · rw [if_neg ek, if_neg hne]
      by_cases e1 : (k - 1) / 2 = j
      · rw [if_pos e1, ← hi]
        have := h.2 h0 k k0 hk e1
        rw [hi] at this ⊢
        exact this
      · rw [if_neg e1]
        by_cases e2 : (k - 1) / 2 = i
        · rw [if_pos e2]
          have := h.1 k k0 hk ek
          rw [e2] at this
          exact leP_trans (leP_of_lt hlt) this
        · rw [if_neg e2]
          exact h.1 k k0 hk ek
  · rw [S k, S ((i - 1) / 2), if_neg (by omega), if_neg (by omega)]
    have hii := h.1 i i0 (by omega) (by omega)
    by_cases ek : k = j
    · rw [if_pos ek]
      exact hii
    · rw [if_neg ek, if_neg (by omega)]
      have := h.1 k k0 hk ek
      rw [hp] at this
      exact leP_trans hii this
theorem down_done {l : List PSeg} {n i : Nat} (h : DownTo l n i) (hj : ∀ k, 0 < k → k < n → (k - 1) / 2 = i → leP (psA l i) (psA l k)) : HeapOn l n := by
  intro k h0 hk
  by_cases e : (k - 1) / 2 = i
  · rw [e]; exact hj k h0 hk e
  · exact h.1 k h0 hk e
theorem down_next {l : List PSeg} {n i j : Nat} (hl : n ≤ l.length) (h : DownTo l n i) (hj : j < n) (h0 : 0 < j) (hp : (j - 1) / 2 = i) (hmin : ∀ k, 0 < k → k < n → (k - 1) / 2 = i → leP (psA l j) (psA l k)) (hlt : ltP (psA l j) (psA l i) = true) : DownTo (swP l i j) n j := by
  have hij : i < j := by omega
  have S : ∀ k, psA (swP l i j) k = if k = j then psA l i else if k = i then psA l j else psA l k := fun k => psA_sw (by omega) (by omega)
  refine ⟨fun k k0 hk hne => ?_, fun _ k k0 hk hpk => ?_⟩
  · rw [S k, S ((k - 1) / 2), if_neg hne]
    by_cases ek : k = j
    · subst ek
      rw [if_pos rfl, if_pos hp]
      exact leP_of_lt hlt
    · rw [if_neg ek]
      by_cases e2 : (k - 1) / 2 = i
      · rw [if_pos e2, if_neg (by omega)]
        exact hmin k k0 hk e2
      · rw [if_neg e2]
        by_cases e3 : k = i
        · rw [if_pos e3]
          subst e3
          exact h.2 k0 j h0 hj hp
        · rw [if_neg e3]
          exact h.1 k k0 hk e2
  · have e1 : psA (swP l i j) k = psA l k := by rw [S k, if_neg (by omega), if_neg (by omega)]
    have e2 : psA (swP l i j) i = psA l j := by rw [S i, if_neg (by omega), if_pos rfl]
    rw [e1, hp, e2]
    have := h.1 k k0 hk (by omega)
    rw [hpk] at this
    exact this
theorem heap_min {l : List PSeg} {n : Nat} (h : HeapOn l n) : ∀ k, k < n → leP (psA l 0) (psA l k) := by
  intro k
  induction k using Nat.strongRecOn with
  | ind k ih =>
    intro hk
    by_cases e : k = 0
    · subst e; exact leP_refl _
    · exact leP_trans (ih ((k - 1) / 2) (by omega) (by omega)) (h k (by omega) hk)
/-- The first goes to the end: below it, all but those right below the top stand right. -/
theorem down_start {l : List PSeg} {n : Nat} (h : HeapOn l (n + 1)) (hl : l.length = n + 1) : DownTo (swP l 0 n) n 0 := by
  have S : ∀ k, psA (swP l 0 n) k = if k = n then psA l 0 else if k = 0 then psA l n else psA l k := fun k => psA_sw (by omega) (by omega)
  refine ⟨fun k k0 hk hne => ?_, fun h0 => by omega⟩
  have e1 : psA (swP l 0 n) k = psA l k := by rw [S k, if_neg (by omega), if_neg (by omega)]
  have e2 : psA (swP l 0 n) ((k - 1) / 2) = psA l ((k - 1) / 2) := by rw [S ((k - 1) / 2), if_neg (by omega), if_neg hne]
  rw [e1, e2]
  exact h k k0 (by omega)
/-- What is taken off, and what stays: the heap without its last one. -/
theorem heap_init {l : List PSeg} {n : Nat} (h : HeapOn l n) : HeapOn (l.take n) n := by
  have e : ∀ k, k < n → psA (l.take n) k = psA l k := fun k hk => by simp [psA, List.getD, hk]
  intro k h0 hk
  rw [e k hk, e _ (by omega)]
  exact h k h0 hk
theorem take_last {l : List PSeg} {n : Nat} (hl : l.length = n + 1) : l = l.take n ++ [psA l n] := by
  rw [psA_eq (by omega)]
  have := List.take_append_drop n l
  rw [List.drop_eq_getElem_cons (by omega), List.drop_of_length_le (by omega)] at this
  exact this.symm
/-- In order, none behind the next. -/
def InOrder (l : List PSeg) : Prop := l.Pairwise leP
def Apart (l : List PSeg) : Prop := ∀ x ∈ l, ∀ y ∈ l, x.at' = y.at' → x = y
theorem leP_anti {a b : PSeg} (h1 : leP a b) (h2 : leP b a) : a.at' = b.at' := by
  rw [leP_iff] at *
  omega
theorem order_unique : ∀ {l l' : List PSeg}, Apart l → InOrder l → InOrder l' → l.Perm l' → l = l'
  | [], l', _, _, _, hp => (List.nil_perm.1 hp).symm
  | a :: l, [], _, _, _, hp => by cases List.perm_nil.1 hp
  | a :: l, b :: l', ha, h1, h2, hp => by
    have e : a = b := by
      have hb : b ∈ a :: l := hp.mem_iff.2 (List.mem_cons_self)
      have ha' : a ∈ b :: l' := hp.mem_iff.1 (List.mem_cons_self)
      rcases List.mem_cons.1 hb with e | hb'
      · exact e.symm
      rcases List.mem_cons.1 ha' with e | ha''
      · exact e
      exact ha a List.mem_cons_self b hb (leP_anti ((List.pairwise_cons.1 h1).1 b hb') ((List.pairwise_cons.1 h2).1 a ha''))
    subst e
    rw [order_unique (fun x hx y hy => ha x (List.mem_cons_of_mem _ hx) y (List.mem_cons_of_mem _ hy)) (List.pairwise_cons.1 h1).2 (List.pairwise_cons.1 h2).2 (List.perm_cons a |>.1 hp)]
/-- The model's place for s among the first a of l. -/
def sgA (l : List Seg) (k : Nat) : Seg := l.getD k s0
theorem sgA_eq {l : List Seg} {k : Nat} (h : k < l.length) : sgA l k = l[k] := by unfold sgA; rw [List.getD, List.getElem?_eq_getElem h]; rfl
def gtS (a b : Seg) : Bool := decide (b.fr < a.fr ∨ (a.fr = b.fr ∧ b.to < a.to))
def posS (l : List Seg) (s : Seg) : Nat → Nat
  | 0 => 0
  | a + 1 => if gtS (sgA l a) s = true then posS l s a else a + 1
def insS (l : List Seg) (s : Seg) : List Seg := l.take (posS l s l.length) ++ s :: l.drop (posS l s l.length)
def sortS (l : List Seg) : List Seg := l.foldl insS []
theorem posS_le (l : List Seg) (s : Seg) : ∀ a, posS l s a ≤ a
  | 0 => Nat.le_refl _
  | a + 1 => by
    unfold posS
    split
    · have := posS_le l s a; omega
    · omega
theorem insS_len (l : List Seg) (s : Seg) : (insS l s).length = l.length + 1 := by
  have := posS_le l s l.length
  simp [insS]
  omega
theorem fold_len : ∀ (l a : List Seg), (l.foldl insS a).length = a.length + l.length
  | [], a => by simp
  | s :: l, a => by rw [List.foldl_cons, fold_len l, insS_len, List.length_cons]; omega
theorem sortS_len (l : List Seg) : (sortS l).length = l.length := by rw [sortS, fold_len]; simp
theorem sortS_snoc {l : List Seg} {k : Nat} (h : k < l.length) : sortS (l.take (k + 1)) = insS (sortS (l.take k)) (sgA l k) := by
  rw [sgA_eq h, List.take_succ_eq_append_getElem h, sortS, sortS, List.foldl_append]
  rfl
/-- With their numbers. -/
def insP (l : List PSeg) (x : PSeg) : List PSeg := let p := posS (l.map PSeg.s) x.s l.length; l.take p ++ x :: l.drop p
theorem insP_map (l : List PSeg) (x : PSeg) : (insP l x).map PSeg.s = insS (l.map PSeg.s) x.s := by simp [insP, insS]
theorem insP_perm (l : List PSeg) (x : PSeg) : (insP l x).Perm (l ++ [x]) := by
  unfold insP
  refine (List.perm_middle).trans ?_
  rw [List.take_append_drop]
  exact (List.perm_append_singleton x l).symm
theorem psA_map {l : List PSeg} {k : Nat} (h : k < l.length) : sgA (l.map PSeg.s) k = (psA l k).s := by rw [sgA_eq (by simpa using h), psA_eq h]; simp
theorem insP_order {l : List PSeg} {x : PSeg} (h : InOrder l) (hx : ∀ y ∈ l, y.at' < x.at') : InOrder (insP l x) := by
  have key : ∀ a, a ≤ l.length → (∀ k, k < posS (l.map PSeg.s) x.s a → leP (psA l k) x) ∧ (∀ k, posS (l.map PSeg.s) x.s a ≤ k → k < a → leP x (psA l k)) := by
    intro a
    induction a with
    | zero => exact fun _ => ⟨fun k hk => by simp [posS] at hk, fun k _ hk => by omega⟩
    | succ a ih =>
      intro hl
      have := ih (by omega)
      have hp := posS_le (l.map PSeg.s) x.s a
      have ha := hx _ (psA_mem (l := l) (k := a) (by omega))
      unfold posS
      rw [psA_map (by omega)]
      split
      · rename_i hg
        refine ⟨this.1, fun k hk1 hk2 => ?_⟩
        by_cases e : k = a
        · subst e
          rw [leP_iff]
          simp [gtS] at hg
          omega
        · exact this.2 k hk1 (by omega)
      · rename_i hg
        refine ⟨fun k hk => ?_, fun k hk1 hk2 => by omega⟩
        have hlast : leP (psA l a) x := by
          rw [leP_iff]
          simp [gtS] at hg
          omega
        by_cases e : k = a
        · subst e; exact hlast
        · have := List.pairwise_iff_getElem.1 h k a (by omega) (by omega) (by omega)
          rw [← psA_eq, ← psA_eq] at this
          exact leP_trans this hlast
  obtain ⟨k1, k2⟩ := key l.length (Nat.le_refl _)
  have hp := posS_le (l.map PSeg.s) x.s l.length
  unfold insP InOrder
  simp only
  generalize posS (l.map PSeg.s) x.s l.length = p at *
  refine List.pairwise_append.2 ⟨h.sublist (List.take_sublist _ _), List.pairwise_cons.2 ⟨fun y hy => ?_, h.sublist (List.drop_sublist _ _)⟩, fun y hy z hz => ?_⟩
  · obtain ⟨k, hk, rfl⟩ := List.mem_iff_getElem.1 hy
    simp at hk
    rw [List.getElem_drop, ← psA_eq]
    exact k2 _ (by omega) (by omega)
  · obtain ⟨k, hk, rfl⟩ := List.mem_iff_getElem.1 hy
    simp at hk
    rw [List.getElem_take, ← psA_eq]
    rcases List.mem_cons.1 hz with rfl | hz
    · exact k1 k (by omega)
    · obtain ⟨q, hq, rfl⟩ := List.mem_iff_getElem.1 hz
      simp at hq
      rw [List.getElem_drop, ← psA_eq]
      exact leP_trans (k1 k (by omega)) (k2 _ (by omega) (by omega))
/-- The segments with their numbers, from b on. -/
def tagS : List Seg → Nat → List PSeg
  | [], _ => []
  | s :: l, b => ⟨s, (b : Int)⟩ :: tagS l (b + 1)
theorem tagS_len : ∀ (l : List Seg) (b : Nat), (tagS l b).length = l.length
  | [], _ => rfl
  | s :: l, b => by simp [tagS, tagS_len l]
theorem tagS_at : ∀ (l : List Seg) (b : Nat) (x : PSeg), x ∈ tagS l b → (b : Int) ≤ x.at'
  | [], b, x, h => by simp [tagS] at h
  | s :: l, b, x, h => by
    simp only [tagS, List.mem_cons] at h
    rcases h with rfl | h
    · simp
    · have := tagS_at l (b + 1) x h
      omega
theorem tagS_apart : ∀ (l : List Seg) (b : Nat), Apart (tagS l b)
  | [], b, x, hx => by simp [tagS] at hx
  | s :: l, b, x, hx => by
    intro y hy e
    simp only [tagS, List.mem_cons] at hx hy
    rcases hx with rfl | hx <;> rcases hy with rfl | hy
    · rfl
    · have := tagS_at l (b + 1) y hy
      simp at e
      omega
    · have := tagS_at l (b + 1) x hx
      simp at e
      omega
    · exact tagS_apart l (b + 1) x hx y hy e
theorem tagS_snoc : ∀ (l : List Seg) (s : Seg) (b : Nat), tagS (l ++ [s]) b = tagS l b ++ [⟨s, ((b + l.length : Nat) : Int)⟩]
  | [], s, b => by simp [tagS]
  | t :: l, s, b => by
    simp only [List.cons_append, tagS, tagS_snoc l s (b + 1), List.length_cons]
    rw [show b + 1 + l.length = b + (l.length + 1) by omega]
theorem tagS_take {l : List Seg} {k : Nat} (h : k < l.length) : tagS (l.take (k + 1)) 0 = tagS (l.take k) 0 ++ [⟨sgA l k, (k : Int)⟩] := by
  rw [sgA_eq h, List.take_succ_eq_append_getElem h, tagS_snoc]
  simp [Nat.min_eq_left (Nat.le_of_lt h)]
theorem sort_tagged (l : List Seg) : ∃ T : List PSeg, T.map PSeg.s = sortS l ∧ InOrder T ∧ T.Perm (tagS l 0) := by
  have go : ∀ k, k ≤ l.length → ∃ T : List PSeg, T.map PSeg.s = sortS (l.take k) ∧ InOrder T ∧ T.Perm (tagS (l.take k) 0) ∧ ∀ y ∈ T, y.at' < (k : Int) := by
    intro k
    induction k with
    | zero => exact fun _ => ⟨[], rfl, List.Pairwise.nil, by simp [tagS], by simp⟩
    | succ k ih =>
      intro hk
      obtain ⟨T, h1, h2, h3, h4⟩ := ih (by omega)
      refine ⟨insP T ⟨sgA l k, (k : Int)⟩, by rw [insP_map, h1, sortS_snoc (by omega)], insP_order h2 h4, ?_, fun y hy => ?_⟩
      · rw [tagS_take (by omega)]
        exact (insP_perm _ _).trans (h3.append_right _)
      · have := (insP_perm _ _).mem_iff.1 hy
        rcases List.mem_append.1 this with h | h
        · have := h4 y h; omega
        · simp at h; subst h; simp; omega
  obtain ⟨T, h1, h2, h3, _⟩ := go l.length (Nat.le_refl _)
  rw [List.take_length] at h1 h3
  exact ⟨T, h1, h2, h3⟩
/-- What is taken off a heap, one after the other, stands as the model puts it. -/
theorem sorted_same {l : List Seg} {out : List PSeg} (h1 : InOrder out) (h2 : out.Perm (tagS l 0)) : out.map PSeg.s = sortS l := by
  obtain ⟨T, e, h3, h4⟩ := sort_tagged l
  rw [← e, order_unique (fun x hx y hy => tagS_apart l 0 x (h2.mem_iff.1 hx) y (h2.mem_iff.1 hy)) h1 h3 (h2.trans h4.symm)]
/-- Taking off, under way: what is off, what is left. -/
def OffTo (l : List Seg) (out rest : List PSeg) : Prop := InOrder out ∧ (∀ x ∈ out, ∀ y ∈ rest, leP x y) ∧ HeapOn rest rest.length ∧ (out ++ rest).Perm (tagS l 0)
theorem off_next {l : List Seg} {out rest rest' : List PSeg} {x : PSeg} (h : OffTo l out rest) (hx : ∀ y ∈ rest, leP x y) (hp : (x :: rest').Perm rest) (hh : HeapOn rest' rest'.length) : OffTo l (out ++ [x]) rest' := by
  obtain ⟨h1, h2, h3, h4⟩ := h
  have hm : ∀ y, y ∈ x :: rest' → y ∈ rest := fun y hy => hp.mem_iff.1 hy
  refine ⟨List.pairwise_append.2 ⟨h1, List.pairwise_singleton _ _, fun a ha b hb => ?_⟩, fun a ha b hb => ?_, hh, ?_⟩
  · simp at hb; subst hb; exact h2 a ha _ (hm _ List.mem_cons_self)
  · rcases List.mem_append.1 ha with ha | ha
    · exact h2 a ha b (hm _ (List.mem_cons_of_mem _ hb))
    · simp at ha; subst ha; exact hx b (hm _ (List.mem_cons_of_mem _ hb))
  · rw [List.append_assoc]
    exact (List.Perm.append_left out hp).trans h4
end Go.Proofs.YtaakgidndjoocaaGreatDoor.ctr

namespace Go.Proofs.YtaakgidndjoocaaGreatDoor.ctr
open Go.RowKit

/-- A patch, as three ints. -/
structure Pat where
  day : Int
  mon : Int
  dom : Int
  deriving DecidableEq
def pt0 : Pat := ⟨0, 0, 0⟩
def segK : IK Seg := ⟨5, fun s => [s.fr, s.to, s.cal, s.sty, s.off], fun zs => ⟨zs.getD 0 0, zs.getD 1 0, zs.getD 2 0, zs.getD 3 0, zs.getD 4 0⟩, s0, fun _ => rfl, fun zs h => by
  match zs, h with
  | [_, _, _, _, _], _ => rfl⟩
def patK : IK Pat := ⟨3, fun s => [s.day, s.mon, s.dom], fun zs => ⟨zs.getD 0 0, zs.getD 1 0, zs.getD 2 0⟩, pt0, fun _ => rfl, fun zs h => by
  match zs, h with
  | [_, _, _], _ => rfl⟩
theorem addI_off (x : Addr) (n j : Nat) (h : 0 < j) : x.add (n + j) = ⟨(x.add n).block, (x.add n).off + j, none⟩ := by
  unfold Addr.add
  rw [if_neg (by omega)]
  split
  · rename_i e
    subst e
    simp
  · simp only [Nat.add_assoc]
theorem same_bel {W w' : World} (h : w' = W) : Below W.heap.size W w' := by rw [h]; exact Below.refl _ _

theorem IAt.seg {w : World} {g k : Nat} {r : Seg} (h : IAt segK w g k r) : w.cell? ⟨g, k * 5, none⟩ = some (.int .i64 r.fr) ∧ w.cell? ⟨g, k * 5 + 1, none⟩ = some (.int .i64 r.to) ∧ w.cell? ⟨g, k * 5 + 2, none⟩ = some (.int .i64 r.cal) ∧ w.cell? ⟨g, k * 5 + 3, none⟩ = some (.int .i64 r.sty) ∧ w.cell? ⟨g, k * 5 + 4, none⟩ = some (.int .i64 r.off) :=
  ⟨h 0 _ rfl, h 1 _ rfl, h 2 _ rfl, h 3 _ rfl, h 4 _ rfl⟩
theorem IIn.atSegment {w : World} {a : Option Addr} {len cap : Nat} {l : List Seg} (h : IIn segK w a len cap l) {k : Nat} (hk : k < len) : ∃ x, a = some x ∧ ∀ y : Later w, y.w.cell? (x.add (k * 5)) = some (.int .i64 (atK segK l k).fr) ∧ y.w.cell? ⟨(x.add (k * 5)).block, (x.add (k * 5)).off + 1, none⟩ = some (.int .i64 (atK segK l k).to) ∧ y.w.cell? ⟨(x.add (k * 5)).block, (x.add (k * 5)).off + 2, none⟩ = some (.int .i64 (atK segK l k).cal) ∧ y.w.cell? ⟨(x.add (k * 5)).block, (x.add (k * 5)).off + 3, none⟩ = some (.int .i64 (atK segK l k).sty) ∧ y.w.cell? ⟨(x.add (k * 5)).block, (x.add (k * 5)).off + 4, none⟩ = some (.int .i64 (atK segK l k).off) := by
  obtain ⟨_, _, _, ⟨_, h0⟩ | ⟨x, hx, h⟩⟩ := h
  · omega
  · have h0 : w.cell? (x.add (k * 5 + 0)) = _ := h k hk 0 _ rfl
    have h1 : w.cell? (x.add (k * 5 + 1)) = _ := h k hk 1 _ rfl
    have h2 : w.cell? (x.add (k * 5 + 2)) = _ := h k hk 2 _ rfl
    have h3 : w.cell? (x.add (k * 5 + 3)) = _ := h k hk 3 _ rfl
    have h4 : w.cell? (x.add (k * 5 + 4)) = _ := h k hk 4 _ rfl
    rw [addI_off x _ _ (by omega)] at h1
    rw [addI_off x _ _ (by omega)] at h2
    rw [addI_off x _ _ (by omega)] at h3
    rw [addI_off x _ _ (by omega)] at h4
    exact ⟨x, hx, fun y => ⟨Later.at h0 y, Later.at h1 y, Later.at h2 y, Later.at h3 y, Later.at h4 y⟩⟩
theorem toSegment (a0 a1 a2 a3 a4 : Int) (w : World) : Calls Tryz.prog 89 #[.agg #[.int .i64 a0, .int .i64 a1, .int .i64 a2, .int .i64 a3, .int .i64 a4]] w fun e w' => e = .returned (.agg #[.int .i64 a0, .int .i64 a1, .int .i64 a2, .int .i64 a3, .int .i64 a4]) ∧ Below w.heap.size w w' := by
  go_enter Tryz.func89, Tryz.ntmps89
  go_wp2
  go_returns
  refine ⟨rfl, ?_⟩
  go_grown
theorem eqSegment1 (a0 a1 a2 a3 a4 : Int) (w : World) : Calls Tryz.prog 102 #[.agg #[.int .i64 a0, .int .i64 a1, .int .i64 a2, .int .i64 a3, .int .i64 a4], .agg #[.int .i64 a0, .int .i64 a1, .int .i64 a2, .int .i64 a3, .int .i64 a4]] w fun e w' => e = .returned (.bool true) ∧ Below w.heap.size w w' := by
  go_enter Tryz.func102, Tryz.ntmps102
  go_wp2
  go_ret
  exact ⟨rfl, ((Below.refl _ _).alloc (Nat.le_refl _) _).alloc (by rw [World.size_alloc]; omega) _⟩
theorem szSegmentS (a : Option Addr) (len cap : Nat) (left : Int) (w : World) (h0 : len ≤ cap) (h : cap ≤ maxLen) (h1 : 0 ≤ left) (h2 : left ≤ 1048576) : Calls Tryz.prog 38 #[.slice a len cap, .int .i64 left] w fun e w' => e = .returned (.int .i64 (if left < len then -1 else left - len)) ∧ w' = w := by
  unfold maxLen at h
  by_cases hl : left < len
  · rw [if_pos hl]
    go_enter Tryz.func38, Tryz.ntmps38
    go_wp2
    go_ret
    exact ⟨rfl, rfl⟩
  · rw [if_neg hl]
    go_enter Tryz.func38, Tryz.ntmps38
    go_wp2
    go_ret
    exact ⟨rfl, rfl⟩
theorem info_seg : (Tryz.prog.info? 88).map (fun i => (i.zero, i.size, i.bytes)) = some (some (.agg #[.int .i64 0, .int .i64 0, .int .i64 0, .int .i64 0, .int .i64 0]), 5, 40) := by kernel_rfl
def segzero : Array Value := #[.int .i64 0, .int .i64 0, .int .i64 0, .int .i64 0, .int .i64 0]
theorem make_seg (n : Nat) (hn : n ≤ 1048576) (W : World) : (Instr.makeSlice 32 (.int .i64 (n : Int)) (.int .i64 (n : Int))).run Tryz.prog W = .ok (.slice (some ⟨W.heap.size, 0, none⟩) n n) (W.alloc (.cells (madeCells segzero (n * 5)) 88)) := by
  obtain ⟨i0, hi, e⟩ := Option.map_eq_some_iff.1 info_seg
  simp only [Prod.mk.injEq] at e
  obtain ⟨hz, hs, hb⟩ := e
  have h := run_make (P := Tryz.prog) W 32 88 i0 _ Tryz.underlying32 hi hz .i64 .i64 (n : Int) (n : Int) (by omega) (by omega) (by rw [hb]; omega) (by omega)
  rw [hs] at h
  simp only [Int.toNat_natCast] at h
  exact h

set_option maxHeartbeats 1000000 in
theorem toSegmentS (a : Option Addr) (len cap : Nat) (l : List Seg) (w : World) (h : IIn segK w a len cap l) (hs : l.length ≤ 1048576) : Calls Tryz.prog 43 #[.slice a len cap] w fun e w' => ∃ v, e = .returned v ∧ INew segK w w' v l ∧ Below w.heap.size w w' := by
  have hlen := h.1
  have hl : len ≤ 1048576 := by rw [← hlen]; exact hs
  have H := hideP h
  have HL := hideP hlen
  have hmk := make_seg len hl
  have hpart : Hid (iPart segK l 0 (madeCells segzero (len * 5))) := ⟨by rw [size_madeCells, hlen]; rfl, fun j hj => by simp at hj⟩
  clear h hs hlen
  go_enter Tryz.func43, Tryz.ntmps43
  go_wp2
  go_loopw [4] (fun i wr => ∃ (k : Nat) (cs : Array Value), k ≤ len ∧ i = .int .i64 (k : Int) ∧ iPart segK l k cs ∧ Blk wr w.heap.size cs 88 ∧ Below w.heap.size w wr) (fun i _ => len - (intOf i).toNat)
  case atStart => exact ⟨0, _, Nat.zero_le _, rfl, hpart.out, Blk.new w _ _, (Below.refl _ _).alloc (Nat.le_refl _) _⟩
  case round =>
    obtain ⟨k, cs, hk, rfl, hp, hb, hB⟩ := hrel
    have HB := hideP hB
    have HP := hideP hp
    have HK := hideP hb
    clear hB hp hb
    by_cases hlt : k < len
    · obtain ⟨x, rfl, hx⟩ := H.out.atSegment hlt
      obtain ⟨c0, c1, c2, c3, c4⟩ := hx ⟨wr, HB.out⟩
      dsimp only at c0 c1 c2 c3 c4
      have HN := hideP (iPart_next HP.out (by rw [HL.out]; exact hlt))
      have hm : Hid (∀ r : Seg, setI cs (k * 5) 0 (segK.iv r) = (((((cs.setIfInBounds (k * 5 + 0) (.int .i64 r.fr)).setIfInBounds (k * 5 + 1) (.int .i64 r.to)).setIfInBounds (k * 5 + 2) (.int .i64 r.cal)).setIfInBounds (k * 5 + 3) (.int .i64 r.sty)).setIfInBounds (k * 5 + 4) (.int .i64 r.off))) := fun r => rfl
      clear hx
      generalize atK segK l k = r at *
      go_wp2_with fail
      refine (toSegment _ _ _ _ _ _).mono ?_
      rintro e w1 ⟨rfl, hb⟩
      have HB1 : Hid (Below w.heap.size w w1) := HB.out.trans (hb.mono HB.out.size)
      have HK1 := HK.out.below hb HK.out.lt
      clear hb c0 c1 c2 c3 c4 hmk
      have hsz : cs.size = len * 5 := by rw [HP.out.1, HL.out]; rfl
      have d0 := HK1.cell (k * 5) (v := cs[k * 5]'(by omega)) (by simp)
      have d1 := HK1.cell (k * 5 + 1) (v := cs[k * 5 + 1]'(by omega)) (by simp)
      have d2 := HK1.cell (k * 5 + 2) (v := cs[k * 5 + 2]'(by omega)) (by simp)
      have d3 := HK1.cell (k * 5 + 3) (v := cs[k * 5 + 3]'(by omega)) (by simp)
      have d4 := HK1.cell (k * 5 + 4) (v := cs[k * 5 + 4]'(by omega)) (by simp)
      have t0 := HK1.thaw (k * 5)
      have t1 := HK1.thaw (k * 5 + 1)
      have t2 := HK1.thaw (k * 5 + 2)
      have t3 := HK1.thaw (k * 5 + 3)
      have t4 := HK1.thaw (k * 5 + 4)
      have HS := hideP HK1
      generalize cs[k * 5]'(by omega) = v0 at d0
      generalize cs[k * 5 + 1]'(by omega) = v1 at d1
      generalize cs[k * 5 + 2]'(by omega) = v2 at d2
      generalize cs[k * 5 + 3]'(by omega) = v3 at d3
      generalize cs[k * 5 + 4]'(by omega) = v4 at d4
      clear HK1 hsz
      go_wp2
      refine ⟨⟨k + 1, _, by omega, by go_num, HN.out, ?_, (below_store (below_store (below_store (below_store (below_store HB1.out _ (Nat.le_refl _)) _ (Nat.le_refl _)) _ (Nat.le_refl _)) _ (Nat.le_refl _)) _ (Nat.le_refl _))⟩, by simp [intOf]; omega⟩
      rw [show setI cs (k * segK.m) 0 (segK.iv r) = _ from hm.out r]
      exact (((((HS.out.set _ _).set _ _).set _ _).set _ _).set _ _)
    · have hkn : k = l.length := by rw [HL.out]; omega
      have HP' := HP.out
      rw [hkn] at HP'
      have HC := hideP (iPart_all HP')
      clear HP' hkn
      go_wp2
      go_ret
      exact ⟨.slice (some ⟨w.heap.size, 0, none⟩) len len, rfl, ⟨w.heap.size, 88, by rw [HL.out], Nat.le_refl _, by rw [← HC.out]; exact HK.out⟩, HB.out⟩

set_option maxHeartbeats 1000000 in
theorem eqSegmentS (v1 v2 : Value) (l : List Seg) (w : World) (h1 : IRow segK w v1 l) (h2 : IRow segK w v2 l) : Calls Tryz.prog 48 #[v1, v2] w fun e w' => e = .returned (.bool true) ∧ Below w.heap.size w w' := by
  obtain ⟨a1, c1, rfl, l1, m1, H1⟩ := h1
  obtain ⟨a2, c2, rfl, _, _, H2⟩ := h2
  have K1 := hideP H1
  have K2 := hideP H2
  unfold maxLen at m1
  clear H1 H2
  go_enter Tryz.func48, Tryz.ntmps48
  go_wp2
  go_loopw [5] (fun i wr => ∃ k : Nat, k ≤ l.length ∧ i = .int .i64 (k : Int) ∧ Below w.heap.size w wr) (fun i _ => l.length - (intOf i).toNat)
  case atStart => exact ⟨0, Nat.zero_le _, rfl, Below.refl _ _⟩
  case round =>
    obtain ⟨k, hk, rfl, hB⟩ := hrel
    have HB := hideP hB
    clear hB
    by_cases hlt : k < l.length
    · obtain ⟨g1, rfl, hg1, x1⟩ := K1.out k hlt
      obtain ⟨g2, rfl, hg2, x2⟩ := K2.out k hlt
      obtain ⟨a0, a1, a2, a3, a4⟩ := (x1.below HB.out hg1).seg
      obtain ⟨b0, b1, b2, b3, b4⟩ := (x2.below HB.out hg2).seg
      clear x1 x2
      generalize atK segK l k = r at *
      go_wp2
      go_region_with (go_at_call 102; refine (eqSegment1 _ _ _ _ _ _).mono ?_; rintro e w2 ⟨rfl, hb2⟩; have HB2 : Hid (Below w.heap.size w w2) := HB.out.trans ⟨hb2.os, hb2.tape, hb2.output, Nat.le_trans (Nat.le_refl _) hb2.size, fun j hj => hb2.block j (Nat.lt_of_lt_of_le hj HB.out.size)⟩; clear hb2)
      all_goals go_wp2
      all_goals exact ⟨⟨k + 1, by omega, by go_num, HB2.out⟩, by simp [intOf]; omega⟩
    · go_wp2
      go_ret
      exact ⟨rfl, HB.out⟩

theorem IAt.pat {w : World} {g k : Nat} {r : Pat} (h : IAt patK w g k r) : w.cell? ⟨g, k * 3, none⟩ = some (.int .i64 r.day) ∧ w.cell? ⟨g, k * 3 + 1, none⟩ = some (.int .i64 r.mon) ∧ w.cell? ⟨g, k * 3 + 2, none⟩ = some (.int .i64 r.dom) :=
  ⟨h 0 _ rfl, h 1 _ rfl, h 2 _ rfl⟩
theorem IIn.atPatch {w : World} {a : Option Addr} {len cap : Nat} {l : List Pat} (h : IIn patK w a len cap l) {k : Nat} (hk : k < len) : ∃ x, a = some x ∧ ∀ y : Later w, y.w.cell? (x.add (k * 3)) = some (.int .i64 (atK patK l k).day) ∧ y.w.cell? ⟨(x.add (k * 3)).block, (x.add (k * 3)).off + 1, none⟩ = some (.int .i64 (atK patK l k).mon) ∧ y.w.cell? ⟨(x.add (k * 3)).block, (x.add (k * 3)).off + 2, none⟩ = some (.int .i64 (atK patK l k).dom) := by
  obtain ⟨_, _, _, ⟨_, h0⟩ | ⟨x, hx, h⟩⟩ := h
  · omega
  · have h0 : w.cell? (x.add (k * 3 + 0)) = _ := h k hk 0 _ rfl
    have h1 : w.cell? (x.add (k * 3 + 1)) = _ := h k hk 1 _ rfl
    have h2 : w.cell? (x.add (k * 3 + 2)) = _ := h k hk 2 _ rfl
    rw [addI_off x _ _ (by omega)] at h1
    rw [addI_off x _ _ (by omega)] at h2
    exact ⟨x, hx, fun y => ⟨Later.at h0 y, Later.at h1 y, Later.at h2 y⟩⟩
theorem toPatch (a0 a1 a2 : Int) (w : World) : Calls Tryz.prog 90 #[.agg #[.int .i64 a0, .int .i64 a1, .int .i64 a2]] w fun e w' => e = .returned (.agg #[.int .i64 a0, .int .i64 a1, .int .i64 a2]) ∧ Below w.heap.size w w' := by
  go_enter Tryz.func90, Tryz.ntmps90
  go_wp2
  go_returns
  refine ⟨rfl, ?_⟩
  go_grown
theorem eqPatch1 (a0 a1 a2 : Int) (w : World) : Calls Tryz.prog 103 #[.agg #[.int .i64 a0, .int .i64 a1, .int .i64 a2], .agg #[.int .i64 a0, .int .i64 a1, .int .i64 a2]] w fun e w' => e = .returned (.bool true) ∧ Below w.heap.size w w' := by
  go_enter Tryz.func103, Tryz.ntmps103
  go_wp2
  go_ret
  exact ⟨rfl, ((Below.refl _ _).alloc (Nat.le_refl _) _).alloc (by rw [World.size_alloc]; omega) _⟩
theorem szPatchS (a : Option Addr) (len cap : Nat) (left : Int) (w : World) (h0 : len ≤ cap) (h : cap ≤ maxLen) (h1 : 0 ≤ left) (h2 : left ≤ 1048576) : Calls Tryz.prog 39 #[.slice a len cap, .int .i64 left] w fun e w' => e = .returned (.int .i64 (if left < len then -1 else left - len)) ∧ w' = w := by
  unfold maxLen at h
  by_cases hl : left < len
  · rw [if_pos hl]
    go_enter Tryz.func39, Tryz.ntmps39
    go_wp2
    go_ret
    exact ⟨rfl, rfl⟩
  · rw [if_neg hl]
    go_enter Tryz.func39, Tryz.ntmps39
    go_wp2
    go_ret
    exact ⟨rfl, rfl⟩
theorem info_pat : (Tryz.prog.info? 92).map (fun i => (i.zero, i.size, i.bytes)) = some (some (.agg #[.int .i64 0, .int .i64 0, .int .i64 0]), 3, 24) := by kernel_rfl
def patzero : Array Value := #[.int .i64 0, .int .i64 0, .int .i64 0]
theorem make_pat (n : Nat) (hn : n ≤ 1048576) (W : World) : (Instr.makeSlice 33 (.int .i64 (n : Int)) (.int .i64 (n : Int))).run Tryz.prog W = .ok (.slice (some ⟨W.heap.size, 0, none⟩) n n) (W.alloc (.cells (madeCells patzero (n * 3)) 92)) := by
  obtain ⟨i0, hi, e⟩ := Option.map_eq_some_iff.1 info_pat
  simp only [Prod.mk.injEq] at e
  obtain ⟨hz, hs, hb⟩ := e
  have h := run_make (P := Tryz.prog) W 33 92 i0 _ Tryz.underlying33 hi hz .i64 .i64 (n : Int) (n : Int) (by omega) (by omega) (by rw [hb]; omega) (by omega)
  rw [hs] at h
  simp only [Int.toNat_natCast] at h
  exact h

set_option maxHeartbeats 1000000 in
theorem toPatchS (a : Option Addr) (len cap : Nat) (l : List Pat) (w : World) (h : IIn patK w a len cap l) (hs : l.length ≤ 1048576) : Calls Tryz.prog 44 #[.slice a len cap] w fun e w' => ∃ v, e = .returned v ∧ INew patK w w' v l ∧ Below w.heap.size w w' := by
  have hlen := h.1
  have hl : len ≤ 1048576 := by rw [← hlen]; exact hs
  have H := hideP h
  have HL := hideP hlen
  have hmk := make_pat len hl
  have hpart : Hid (iPart patK l 0 (madeCells patzero (len * 3))) := ⟨by rw [size_madeCells, hlen]; rfl, fun j hj => by simp at hj⟩
  clear h hs hlen
  go_enter Tryz.func44, Tryz.ntmps44
  go_wp2
  go_loopw [4] (fun i wr => ∃ (k : Nat) (cs : Array Value), k ≤ len ∧ i = .int .i64 (k : Int) ∧ iPart patK l k cs ∧ Blk wr w.heap.size cs 92 ∧ Below w.heap.size w wr) (fun i _ => len - (intOf i).toNat)
  case atStart => exact ⟨0, _, Nat.zero_le _, rfl, hpart.out, Blk.new w _ _, (Below.refl _ _).alloc (Nat.le_refl _) _⟩
  case round =>
    obtain ⟨k, cs, hk, rfl, hp, hb, hB⟩ := hrel
    have HB := hideP hB
    have HP := hideP hp
    have HK := hideP hb
    clear hB hp hb
    by_cases hlt : k < len
    · obtain ⟨x, rfl, hx⟩ := H.out.atPatch hlt
      obtain ⟨c0, c1, c2⟩ := hx ⟨wr, HB.out⟩
      dsimp only at c0 c1 c2
      have HN := hideP (iPart_next HP.out (by rw [HL.out]; exact hlt))
      have hm : Hid (∀ r : Pat, setI cs (k * 3) 0 (patK.iv r) = (((cs.setIfInBounds (k * 3 + 0) (.int .i64 r.day)).setIfInBounds (k * 3 + 1) (.int .i64 r.mon)).setIfInBounds (k * 3 + 2) (.int .i64 r.dom))) := fun r => rfl
      clear hx
      generalize atK patK l k = r at *
      go_wp2_with fail
      refine (toPatch _ _ _ _).mono ?_
      rintro e w1 ⟨rfl, hb⟩
      have HB1 : Hid (Below w.heap.size w w1) := HB.out.trans (hb.mono HB.out.size)
      have HK1 := HK.out.below hb HK.out.lt
      clear hb c0 c1 c2 hmk
      have hsz : cs.size = len * 3 := by rw [HP.out.1, HL.out]; rfl
      have d0 := HK1.cell (k * 3) (v := cs[k * 3]'(by omega)) (by simp)
      have d1 := HK1.cell (k * 3 + 1) (v := cs[k * 3 + 1]'(by omega)) (by simp)
      have d2 := HK1.cell (k * 3 + 2) (v := cs[k * 3 + 2]'(by omega)) (by simp)
      have t0 := HK1.thaw (k * 3)
      have t1 := HK1.thaw (k * 3 + 1)
      have t2 := HK1.thaw (k * 3 + 2)
      have HS := hideP HK1
      generalize cs[k * 3]'(by omega) = v0 at d0
      generalize cs[k * 3 + 1]'(by omega) = v1 at d1
      generalize cs[k * 3 + 2]'(by omega) = v2 at d2
      clear HK1 hsz
      go_wp2
      refine ⟨⟨k + 1, _, by omega, by go_num, HN.out, ?_, (below_store (below_store (below_store HB1.out _ (Nat.le_refl _)) _ (Nat.le_refl _)) _ (Nat.le_refl _))⟩, by simp [intOf]; omega⟩
      rw [show setI cs (k * patK.m) 0 (patK.iv r) = _ from hm.out r]
      exact (((HS.out.set _ _).set _ _).set _ _)
    · have hkn : k = l.length := by rw [HL.out]; omega
      have HP' := HP.out
      rw [hkn] at HP'
      have HC := hideP (iPart_all HP')
      clear HP' hkn
      go_wp2
      go_ret
      exact ⟨.slice (some ⟨w.heap.size, 0, none⟩) len len, rfl, ⟨w.heap.size, 92, by rw [HL.out], Nat.le_refl _, by rw [← HC.out]; exact HK.out⟩, HB.out⟩

set_option maxHeartbeats 1000000 in
theorem eqPatchS (v1 v2 : Value) (l : List Pat) (w : World) (h1 : IRow patK w v1 l) (h2 : IRow patK w v2 l) : Calls Tryz.prog 49 #[v1, v2] w fun e w' => e = .returned (.bool true) ∧ Below w.heap.size w w' := by
  obtain ⟨a1, c1, rfl, l1, m1, H1⟩ := h1
  obtain ⟨a2, c2, rfl, _, _, H2⟩ := h2
  have K1 := hideP H1
  have K2 := hideP H2
  unfold maxLen at m1
  clear H1 H2
  go_enter Tryz.func49, Tryz.ntmps49
  go_wp2
  go_loopw [5] (fun i wr => ∃ k : Nat, k ≤ l.length ∧ i = .int .i64 (k : Int) ∧ Below w.heap.size w wr) (fun i _ => l.length - (intOf i).toNat)
  case atStart => exact ⟨0, Nat.zero_le _, rfl, Below.refl _ _⟩
  case round =>
    obtain ⟨k, hk, rfl, hB⟩ := hrel
    have HB := hideP hB
    clear hB
    by_cases hlt : k < l.length
    · obtain ⟨g1, rfl, hg1, x1⟩ := K1.out k hlt
      obtain ⟨g2, rfl, hg2, x2⟩ := K2.out k hlt
      obtain ⟨a0, a1, a2⟩ := (x1.below HB.out hg1).pat
      obtain ⟨b0, b1, b2⟩ := (x2.below HB.out hg2).pat
      clear x1 x2
      generalize atK patK l k = r at *
      go_wp2
      go_region_with (go_at_call 103; refine (eqPatch1 _ _ _ _).mono ?_; rintro e w2 ⟨rfl, hb2⟩; have HB2 : Hid (Below w.heap.size w w2) := HB.out.trans ⟨hb2.os, hb2.tape, hb2.output, Nat.le_trans (Nat.le_refl _) hb2.size, fun j hj => hb2.block j (Nat.lt_of_lt_of_le hj HB.out.size)⟩; clear hb2)
      all_goals go_wp2
      all_goals exact ⟨⟨k + 1, by omega, by go_num, HB2.out⟩, by simp [intOf]; omega⟩
    · go_wp2
      go_ret
      exact ⟨rfl, HB.out⟩

end Go.Proofs.YtaakgidndjoocaaGreatDoor.ctr

namespace Go.Proofs.YtaakgidndjoocaaGreatDoor.kit
open Go.RowKit Go.WideShapes Go.Deep Go.ChangeShapes

/-- A struct of ints that comes in by value is written out. -/
theorem open_istruct {H : Type} {enc : TypeId × Value → H} {P : Program} {w : World} {base : Nat} {sp : Nat → Bool} {held : Bool} {r : Reach} {b0 : Nat} {t : TypeId} {fs : Array Field} {v : Value} {dt : DataW H} {p : List MemPlace} {α : Type} (K : ctr.IK α)
    (hs : P.underlying t = some (.struct fs)) (hC : P.cellsOf t = K.m) (hsz : fs.size = K.m)
    (hf0 : ∀ (j : Nat) (f : Field), fs[j]? = some f → f.offset = j ∧ P.cellsOf f.type = 1 ∧ P.underlying f.type = some (.int .i64))
    (hv : Value.okWide P w r b0 t v) (h : DataW.Trod enc P w base sp held t v dt p) : ∃ a : α, v = .agg (ctr.icell K a).toArray ∧ ∀ z ∈ K.iv a, (Lit.int .i64 z).wf = true := by
  obtain ⟨cs, rfl, hcs⟩ := okWide_struct hs hv
  obtain ⟨fuel, hf⟩ := h
  obtain ⟨xs, n, _, _, _, hlen, hg⟩ := DataW.trod_struct hs hf
  rw [hC] at hcs
  have cell : ∀ j, j < K.m → ∃ z : Int, cs[j]? = some (.int .i64 z) ∧ (Lit.int .i64 z).wf = true := by
    intro j hj
    obtain ⟨f, hfe⟩ : ∃ f, fs[j]? = some f := ⟨fs[j]'(by omega), by simp [hsz, hj]⟩
    obtain ⟨o, c, u⟩ := hf0 j f hfe
    have g := hg j f (by simpa using hfe)
    simp only [Value.cells] at g
    rw [o, c] at g
    have hjl : j < cs.toList.length := by simp; omega
    have e1 : (cs.toList.drop j).take 1 = [cs.toList[j]] := by rw [List.drop_eq_getElem_cons hjl]; rfl
    have hxj : j < xs.length := by have := hlen; omega
    rw [e1, List.getElem?_eq_getElem hxj] at g
    obtain ⟨z, q, _, hz⟩ := DataW.trod_int u g
    have hjc : j < cs.size := by omega
    refine ⟨z, ?_, hz⟩
    rw [Array.getElem?_eq_getElem hjc]
    simpa using q
  obtain ⟨Z, hZ⟩ : ∃ Z : Nat → Int, ∀ j, j < K.m → cs[j]? = some (.int .i64 (Z j)) ∧ (Lit.int .i64 (Z j)).wf = true := by
    classical
    refine ⟨fun j => if h : j < K.m then (cell j h).choose else 0, fun j hj => ?_⟩
    simp only [dif_pos hj]
    exact (cell j hj).choose_spec
  refine ⟨K.ofI ((List.range K.m).map Z), ?_, fun z hz => ?_⟩
  · congr 1
    apply Array.ext_getElem?
    intro j
    rw [ctr.icell, K.back _ (by simp)]
    by_cases hj : j < K.m
    · rw [(hZ j hj).1]
      simp [hj]
    · rw [Array.getElem?_eq_none (by omega), Array.getElem?_eq_none (by simp; omega)]
  · rw [K.back _ (by simp)] at hz
    obtain ⟨j, hj, rfl⟩ := List.mem_map.1 hz
    exact (hZ j (by simpa using hj)).2
end Go.Proofs.YtaakgidndjoocaaGreatDoor.kit
