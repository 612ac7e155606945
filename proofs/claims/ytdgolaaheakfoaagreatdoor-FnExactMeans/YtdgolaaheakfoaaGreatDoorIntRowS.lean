/- Lists of structs whose fields are all ints: a plain list, and that a slice value holds just it ('IRow': anywhere; 'INew': in a block of its own that was not there in w; 'IIn': it came in). -/
import Derived.Test.YtdgolaaheakfoaaGreatDoorJnSaa
import Derived.Deep.Slices
import Derived.Lib.SmallJoins
namespace Go.Proofs.YtdgolaaheakfoaaGreatDoor.ctr
open Go.RowKit
structure IK (α : Type) where
  m : Nat
  iv : α → List Int
  ofI : List Int → α
  d : α
  len : ∀ a, (iv a).length = m
  back : ∀ zs : List Int, zs.length = m → iv (ofI zs) = zs
def icell {α : Type} (K : IK α) (a : α) : List Value := (K.iv a).map (Value.int .i64)
def icells {α : Type} (K : IK α) : List α → List Value
  | [] => []
  | a :: l => icell K a ++ icells K l
def iA {α : Type} (K : IK α) (l : List α) : Array Value := (icells K l).toArray
def atK {α : Type} (K : IK α) (l : List α) (k : Nat) : α := l.getD k K.d
theorem atK_eq {α : Type} {K : IK α} {l : List α} {k : Nat} (h : k < l.length) : atK K l k = l[k] := by unfold atK; rw [List.getD, List.getElem?_eq_getElem h]; rfl
theorem icells_len {α : Type} {K : IK α} : ∀ l : List α, (icells K l).length = l.length * K.m
  | [] => by simp [icells]
  | a :: l => by rw [icells, List.length_append, icells_len l]; simp [icell, K.len, Nat.add_mul]; omega
theorem icells_at {α : Type} {K : IK α} : ∀ (l : List α) (k j : Nat) (z : Int), k < l.length → (K.iv (atK K l k))[j]? = some z → (icells K l)[k * K.m + j]? = some (.int .i64 z)
  | [], k, j, z, h, _ => by simp at h
  | a :: l, 0, j, z, _, e => by
    have e' : (K.iv a)[j]? = some z := by simpa [atK] using e
    have hj : j < (K.iv a).length := (List.getElem?_eq_some_iff.1 e').1
    rw [icells, Nat.zero_mul, Nat.zero_add, List.getElem?_append_left (by simpa [icell] using hj)]
    simp [icell, e']
  | a :: l, k + 1, j, z, h, e => by
    rw [icells, List.getElem?_append_right (by simp [icell, K.len, Nat.add_mul]; omega)]
    have := icells_at l k j z (by simpa using h) (by simpa [atK] using e)
    simp only [icell, List.length_map, K.len]
    rw [show (k + 1) * K.m + j - K.m = k * K.m + j by rw [Nat.add_mul]; omega]
    exact this
theorem iA_size {α : Type} {K : IK α} (l : List α) : (iA K l).size = l.length * K.m := by simp [iA, icells_len]
theorem iA_at {α : Type} {K : IK α} {l : List α} {k : Nat} (j : Nat) {z : Int} (h : k < l.length) (e : (K.iv (atK K l k))[j]? = some z) : (iA K l)[k * K.m + j]? = some (.int .i64 z) := by
  simpa [iA] using icells_at l k j z h e
def IAt {α : Type} (K : IK α) (w : World) (g k : Nat) (a : α) : Prop := ∀ (j : Nat) (z : Int), (K.iv a)[j]? = some z → w.cell? ⟨g, k * K.m + j, none⟩ = some (.int .i64 z)
theorem IAt.below {α : Type} {K : IK α} {w w' : World} {g k : Nat} {a : α} {B : Nat} (h : IAt K w g k a) (hb : Below B w w') (hg : g < B) : IAt K w' g k a := fun j z e => (hb.cell (p := ⟨g, k * K.m + j, none⟩) hg).trans (h j z e)
def IRow {α : Type} (K : IK α) (w : World) (v : Value) (l : List α) : Prop := ∃ ad cap, v = .slice ad l.length cap ∧ l.length ≤ cap ∧ cap ≤ maxLen ∧ ∀ k, k < l.length → ∃ g, ad = some ⟨g, 0, none⟩ ∧ g < w.heap.size ∧ IAt K w g k (atK K l k)
theorem IRow.below {α : Type} {K : IK α} {w w' : World} {v : Value} {l : List α} (h : IRow K w v l) (hb : Below w.heap.size w w') : IRow K w' v l := by
  obtain ⟨ad, cap, rfl, h1, h2, h⟩ := h
  exact ⟨ad, cap, rfl, h1, h2, fun k hk => by
    obtain ⟨g, e, hg, hc⟩ := h k hk
    exact ⟨g, e, Nat.lt_of_lt_of_le hg hb.size, hc.below hb hg⟩⟩
theorem IRow.later {α : Type} {K : IK α} {W : World} {v : Value} {l : List α} (h : IRow K W v l) (x : Later W) : IRow K x.w v l := h.below x.below
theorem IRow.drewN {α : Type} {K : IK α} {W : World} {v : Value} {l : List α} (h : IRow K W v l) (n : Nat) : IRow K (W.drewN n) v l := h
def INew {α : Type} (K : IK α) (w w' : World) (v : Value) (l : List α) : Prop := ∃ g t, v = .slice (some ⟨g, 0, none⟩) l.length l.length ∧ w.heap.size ≤ g ∧ Blk w' g (iA K l) t
theorem INew.row {α : Type} {K : IK α} {w w' : World} {v : Value} {l : List α} (h : INew K w w' v l) (hl : l.length ≤ maxLen) : IRow K w' v l := by
  obtain ⟨g, t, rfl, _, hb⟩ := h
  exact ⟨_, _, rfl, Nat.le_refl _, hl, fun k hk => ⟨g, rfl, hb.lt, fun j z e => hb.cell (k * K.m + j) (iA_at j hk e)⟩⟩
theorem INew.below {α : Type} {K : IK α} {w w' w'' : World} {v : Value} {l : List α} (h : INew K w w' v l) (hb : Below w'.heap.size w' w'') : INew K w w'' v l := by
  obtain ⟨g, t, rfl, hg, hB⟩ := h
  exact ⟨g, t, rfl, hg, hB.below hb hB.lt⟩
def IIn {α : Type} (K : IK α) (w : World) (a : Option Addr) (len cap : Nat) (l : List α) : Prop :=
  l.length = len ∧ len ≤ cap ∧ cap ≤ maxLen ∧
  ((a = none ∧ len = 0) ∨ ∃ x, a = some x ∧ ∀ k, k < len → ∀ (j : Nat) (z : Int), (K.iv (atK K l k))[j]? = some z → w.cell? (x.add (k * K.m + j)) = some (.int .i64 z))
theorem IIn.below {α : Type} {K : IK α} {w w' : World} {a : Option Addr} {len cap : Nat} {l : List α} (h : IIn K w a len cap l) (hb : Below w.heap.size w w') : IIn K w' a len cap l := by
  obtain ⟨h1, h2, h3, h4 | ⟨x, hx, h⟩⟩ := h
  · exact ⟨h1, h2, h3, .inl h4⟩
  · exact ⟨h1, h2, h3, .inr ⟨x, hx, fun k hk j z e => Later.at (h k hk j z e) ⟨w', hb⟩⟩⟩
theorem IIn.drewN {α : Type} {K : IK α} {W : World} {a : Option Addr} {len cap : Nat} {l : List α} (h : IIn K W a len cap l) (n : Nat) : IIn K (W.drewN n) a len cap l := h
def ifFrom {α : Type} (p : α → Bool) : List α → Nat → Int
  | [], _ => -1
  | r :: l, k => if p r = true then (k : Int) else ifFrom p l (k + 1)
def ifind {α : Type} (p : α → Bool) (l : List α) : Int := ifFrom p l 0
theorem if_hit {α : Type} {K : IK α} {p : α → Bool} {l : List α} {k : Nat} {R : Int} (h : k < l.length) (hp : p (atK K l k) = true) (H : ifFrom p (l.drop k) k = R) : R = (k : Int) := by
  rw [List.drop_eq_getElem_cons h, ifFrom, ← atK_eq (K := K) h, if_pos hp] at H
  exact H.symm
theorem if_miss {α : Type} {K : IK α} {p : α → Bool} {l : List α} {k : Nat} {R : Int} (h : k < l.length) (hp : p (atK K l k) = false) (H : ifFrom p (l.drop k) k = R) : ifFrom p (l.drop (k + 1)) (k + 1) = R := by
  rw [List.drop_eq_getElem_cons h, ifFrom, ← atK_eq (K := K) h, if_neg (by rw [hp]; simp)] at H
  exact H
theorem if_end {α : Type} {p : α → Bool} {l : List α} {k : Nat} {R : Int} (h : l.length ≤ k) (H : ifFrom p (l.drop k) k = R) : R = -1 := by
  rw [List.drop_of_length_le h] at H
  exact H.symm
def iPart {α : Type} (K : IK α) (l : List α) (k : Nat) (cs : Array Value) : Prop := cs.size = l.length * K.m ∧ ∀ j, j < k * K.m → cs[j]? = (iA K l)[j]?
theorem iPart_all {α : Type} {K : IK α} {l : List α} {cs : Array Value} (h : iPart K l l.length cs) : cs = iA K l := by
  apply Array.ext_getElem?
  intro j
  by_cases hj : j < l.length * K.m
  · exact h.2 j hj
  · rw [Array.getElem?_eq_none (by rw [h.1]; omega), Array.getElem?_eq_none (by rw [iA_size]; omega)]
def setI (cs : Array Value) (b : Nat) : Nat → List Int → Array Value
  | _, [] => cs
  | j, z :: zs => setI (cs.setIfInBounds (b + j) (.int .i64 z)) b (j + 1) zs
theorem setI_size : ∀ (zs : List Int) (cs : Array Value) (b j : Nat), (setI cs b j zs).size = cs.size
  | [], cs, b, j => rfl
  | z :: zs, cs, b, j => by rw [setI, setI_size zs]; simp
theorem setI_old : ∀ (zs : List Int) (cs : Array Value) (b j q : Nat), q < b + j ∨ b + j + zs.length ≤ q → (setI cs b j zs)[q]? = cs[q]?
  | [], cs, b, j, q, _ => rfl
  | z :: zs, cs, b, j, q, h => by
    rw [setI, setI_old zs _ b (j + 1) q (by simp at h; omega), Array.getElem?_setIfInBounds_ne (by simp at h; omega)]
theorem setI_new : ∀ (zs : List Int) (cs : Array Value) (b j i : Nat) (z : Int), b + j + zs.length ≤ cs.size → zs[i]? = some z → (setI cs b j zs)[b + j + i]? = some (.int .i64 z)
  | [], cs, b, j, i, z, _, e => by simp at e
  | y :: zs, cs, b, j, 0, z, h, e => by
    simp at e h
    subst e
    rw [setI, setI_old zs _ b (j + 1) _ (by omega), Nat.add_zero, Array.getElem?_setIfInBounds_self_of_lt (by omega)]
  | y :: zs, cs, b, j, i + 1, z, h, e => by
    simp at h
    have := setI_new zs (cs.setIfInBounds (b + j) (.int .i64 y)) b (j + 1) i z (by simp; omega) (by simpa using e)
    rw [setI, show b + j + (i + 1) = b + (j + 1) + i by omega]
    exact this
theorem iPart_next {α : Type} {K : IK α} {l : List α} {k : Nat} {cs : Array Value} (h : iPart K l k cs) (hk : k < l.length) : iPart K l (k + 1) (setI cs (k * K.m) 0 (K.iv (atK K l k))) := by
  obtain ⟨h1, h2⟩ := h
  have hl := K.len (atK K l k)
  have hmul : (k + 1) * K.m ≤ l.length * K.m := Nat.mul_le_mul_right _ hk
  have e1 : (k + 1) * K.m = k * K.m + K.m := by rw [Nat.add_mul]; omega
  refine ⟨by rw [setI_size, h1], fun j hj => ?_⟩
  by_cases hlt : j < k * K.m
  · rw [setI_old _ _ _ _ _ (by omega), h2 j hlt]
  · obtain ⟨i, rfl⟩ : ∃ i, j = k * K.m + i := ⟨j - k * K.m, by omega⟩
    have hi : i < (K.iv (atK K l k)).length := by omega
    have e : (K.iv (atK K l k))[i]? = some ((K.iv (atK K l k))[i]) := by simp [hi]
    have := setI_new (K.iv (atK K l k)) cs (k * K.m) 0 i _ (by omega) e
    rw [Nat.add_zero] at this
    rw [this, iA_at i hk e]
end Go.Proofs.YtdgolaaheakfoaaGreatDoor.ctr
namespace Go.Proofs.YtdgolaaheakfoaaGreatDoor.kit
open Go.RowKit Go.WideShapes Go.Deep Go.ChangeShapes
theorem open_irow {H : Type} {enc : TypeId × Value → H} {P : Program} {w : World} {base : Nat} {spare : Nat → Bool} {held : Bool} {t e : TypeId} {fs : Array Field} {a : Option Addr} {len cap : Nat} {x : DataW H} {p : List MemPlace} {α : Type} (K : ctr.IK α)
    (ht : P.underlying t = some (.slice e)) (he : P.underlying e = some (.struct fs)) (ce : P.cellsOf e = K.m) (hsz : fs.size = K.m)
    (hf0 : ∀ (j : Nat) (f : Field), fs[j]? = some f → f.offset = j ∧ P.cellsOf f.type = 1 ∧ P.underlying f.type = some (.int .i64))
    (h : DataW.Trod enc P w base spare held t (.slice a len cap) x p) : ∃ l : List α, ctr.IIn K w a len cap l := by
  obtain ⟨fuel, h⟩ := h
  simp only [Value.cells] at h
  rcases open_slice ht h with ⟨h0, _⟩ | ⟨a', len', cap', m, n, D, Pl, e', hb, hl, hm, hmm, hxp, hx⟩
  · simp at h0
    obtain ⟨rfl, rfl, rfl⟩ := h0
    exact ⟨[], rfl, Nat.le_refl _, by unfold maxLen; omega, .inl ⟨rfl, rfl⟩⟩
  · simp at e'
    obtain ⟨rfl, rfl, rfl⟩ := e'
    have hlm : len ≤ m := by rw [hmm]; split <;> omega
    have each : ∀ i, i < len → ∃ r : α, ∀ (j : Nat) (z : Int), (K.iv r)[j]? = some z → w.cell? (a'.add (i * K.m + j)) = some (.int .i64 z) := by
      intro i hi
      obtain ⟨cs', h1, h2⟩ := hx i (by omega)
      rw [ce] at h1
      obtain ⟨_, hlen, hcell⟩ := World.cells?_some h1
      obtain ⟨xs, k, hk, hxy, _, hxl, hf⟩ := DataW.trod_struct he h2
      have cell : ∀ j, j < K.m → ∃ z : Int, cs'[j]? = some (.int .i64 z) := by
        intro j hj
        obtain ⟨f, hfe⟩ : ∃ f, fs[j]? = some f := ⟨fs[j]'(by omega), by simp [hsz, hj]⟩
        obtain ⟨o, c, u⟩ := hf0 j f hfe
        have g := hf j f (by simpa using hfe)
        rw [o, c] at g
        have hjl : j < cs'.length := by omega
        have e1 : (cs'.drop j).take 1 = [cs'[j]] := by rw [List.drop_eq_getElem_cons hjl]; rfl
        have hxj : j < xs.length := by have := hxl; omega
        rw [e1, List.getElem?_eq_getElem hxj] at g
        obtain ⟨z, q, _, _⟩ := DataW.trod_int u g
        exact ⟨z, by rw [List.getElem?_eq_getElem hjl]; simpa using q⟩
      obtain ⟨Z, hZ⟩ : ∃ Z : Nat → Int, ∀ j, j < K.m → cs'[j]? = some (.int .i64 (Z j)) := by
        classical
        refine ⟨fun j => if h : j < K.m then (cell j h).choose else 0, fun j hj => ?_⟩
        simp only [dif_pos hj]
        exact (cell j hj).choose_spec
      refine ⟨K.ofI ((List.range K.m).map Z), fun j z e => ?_⟩
      rw [K.back _ (by simp)] at e
      have hj : j < K.m := by have := (List.getElem?_eq_some_iff.1 e).1; simpa using this
      have ez : z = Z j := by simpa [hj] using e.symm
      have e0 := hcell j (by omega)
      rw [add_add] at e0
      rw [e0, ez]
      exact hZ j hj
    obtain ⟨R, hR⟩ : ∃ R : Nat → α, ∀ i, i < len → ∀ (j : Nat) (z : Int), (K.iv (R i))[j]? = some z → w.cell? (a'.add (i * K.m + j)) = some (.int .i64 z) := by
      classical
      refine ⟨fun i => if h : i < len then (each i h).choose else K.d, fun i hi => ?_⟩
      simp only [dif_pos hi]
      exact (each i hi).choose_spec
    have hat : ∀ k, k < len → ctr.atK K ((List.range len).map R) k = R k := fun k hk => by simp [ctr.atK, List.getD, hk]
    exact ⟨(List.range len).map R, by simp, hl, hm, .inr ⟨a', rfl, fun k hk => by rw [hat k hk]; exact hR k hk⟩⟩
end Go.Proofs.YtdgolaaheakfoaaGreatDoor.kit
