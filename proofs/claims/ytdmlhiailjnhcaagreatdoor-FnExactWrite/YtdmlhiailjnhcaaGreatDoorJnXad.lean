/- Lists of structs whose fields are all ints: a plain list, and that a slice value holds just it ('IRow': anywhe; and what else the law reaches. -/
import Derived.Test.YtdmlhiailjnhcaaGreatDoorJnXaa
import Derived.Deep.Slices
import Derived.Lib.SmallJoins
import Derived.Laws.AppendOwn
import Derived.Handy
import Derived.Test.YtdmlhiailjnhcaaGreatDoorJnXab
import Derived.ScopeJumps
import Derived.WalkMore
import Derived.Laws.OwnMore
import Derived.OwnWalk
import Derived.RangeFuncBox
import Derived.Maps.AppendAt
namespace Go.Proofs.YtdmlhiailjnhcaaGreatDoor.ctr
open Go.RowKit
structure IK (α : Type) where
 m : Nat
 iv : α → List Int
 ofI : List Int → α
 d : α
 len : ∀ a, (iv a).length = m
 back : ∀ zs : List Int, zs.length = m → iv (ofI zs) = zs
def icell {α : Type} (K : IK α) (a : α) : List Value := (K.iv a).map (Value.int .i64)
def icells {α : Type} (K : IK α) : List α → List Value
  | [] => []
  | a :: l => icell K a ++ icells K l
def iA {α : Type} (K : IK α) (l : List α) : Array Value := (icells K l).toArray
def atK {α : Type} (K : IK α) (l : List α) (k : Nat) : α := l.getD k K.d
theorem atK_eq {α : Type} {K : IK α} {l : List α} {k : Nat} (h : k < l.length) : atK K l k = l[k] := by unfold atK; rw [List.getD, List.getElem?_eq_getElem h]; rfl
theorem icells_len {α : Type} {K : IK α} : ∀ l : List α, (icells K l).length = l.length * K.m
  | [] => by simp [icells]
  | a :: l => by rw [icells, List.length_append, icells_len l]; simp [icell, K.len, Nat.add_mul]; omega
theorem icells_at {α : Type} {K : IK α} : ∀ (l : List α) (k j : Nat) (z : Int), k < l.length → (K.iv (atK K l k))[j]? = some z → (icells K l)[k * K.m + j]? = some (.int .i64 z)
  | [], k, j, z, h, _ => by simp at h
  | a :: l, 0, j, z, _, e => by
   have e' : (K.iv a)[j]? = some z := by simpa [atK] using e
   have hj : j < (K.iv a).length := (List.getElem?_eq_some_iff.1 e').1
   rw [icells, Nat.zero_mul, Nat.zero_add, List.getElem?_append_left (by simpa [icell] using hj)]
   simp [icell, e']
  | a :: l, k + 1, j, z, h, e => by
   rw [icells, List.getElem?_append_right (by simp [icell, K.len, Nat.add_mul]; omega)]
   have := icells_at l k j z (by simpa using h) (by simpa [atK] using e)
   simp only [icell, List.length_map, K.len]
   rw [show (k + 1) * K.m + j - K.m = k * K.m + j by rw [Nat.add_mul]; omega]
   exact this
theorem iA_size {α : Type} {K : IK α} (l : List α) : (iA K l).size = l.length * K.m := by simp [iA, icells_len]
theorem iA_at {α : Type} {K : IK α} {l : List α} {k : Nat} (j : Nat) {z : Int} (h : k < l.length) (e : (K.iv (atK K l k))[j]? = some z) : (iA K l)[k * K.m + j]? = some (.int .i64 z) := by
 simpa [iA] using icells_at l k j z h e
def IAt {α : Type} (K : IK α) (w : World) (g k : Nat) (a : α) : Prop := ∀ (j : Nat) (z : Int), (K.iv a)[j]? = some z → w.cell? ⟨g, k * K.m + j, none⟩ = some (.int .i64 z)
theorem IAt.below {α : Type} {K : IK α} {w w' : World} {g k : Nat} {a : α} {B : Nat} (h : IAt K w g k a) (hb : Below B w w') (hg : g < B) : IAt K w' g k a := fun j z e => (hb.cell (p := ⟨g, k * K.m + j, none⟩) hg).trans (h j z e)
def IRow {α : Type} (K : IK α) (w : World) (v : Value) (l : List α) : Prop := ∃ ad cap, v = .slice ad l.length cap ∧ l.length ≤ cap ∧ cap ≤ maxLen ∧ ∀ k, k < l.length → ∃ g, ad = some ⟨g, 0, none⟩ ∧ g < w.heap.size ∧ IAt K w g k (atK K l k)
theorem IRow.below {α : Type} {K : IK α} {w w' : World} {v : Value} {l : List α} (h : IRow K w v l) (hb : Below w.heap.size w w') : IRow K w' v l := by
 obtain ⟨ad, cap, rfl, h1, h2, h⟩ := h
 exact ⟨ad, cap, rfl, h1, h2, fun k hk => by
  obtain ⟨g, e, hg, hc⟩ := h k hk
  exact ⟨g, e, Nat.lt_of_lt_of_le hg hb.size, hc.below hb hg⟩⟩
theorem IRow.later {α : Type} {K : IK α} {W : World} {v : Value} {l : List α} (h : IRow K W v l) (x : Later W) : IRow K x.w v l := h.below x.below
theorem IRow.drewN {α : Type} {K : IK α} {W : World} {v : Value} {l : List α} (h : IRow K W v l) (n : Nat) : IRow K (W.drewN n) v l := h
def INew {α : Type} (K : IK α) (w w' : World) (v : Value) (l : List α) : Prop := ∃ g t, v = .slice (some ⟨g, 0, none⟩) l.length l.length ∧ w.heap.size ≤ g ∧ Blk w' g (iA K l) t
theorem INew.row {α : Type} {K : IK α} {w w' : World} {v : Value} {l : List α} (h : INew K w w' v l) (hl : l.length ≤ maxLen) : IRow K w' v l := by
 obtain ⟨g, t, rfl, _, hb⟩ := h
 exact ⟨_, _, rfl, Nat.le_refl _, hl, fun k hk => ⟨g, rfl, hb.lt, fun j z e => hb.cell (k * K.m + j) (iA_at j hk e)⟩⟩
theorem INew.below {α : Type} {K : IK α} {w w' w'' : World} {v : Value} {l : List α} (h : INew K w w' v l) (hb : Below w'.heap.size w' w'') : INew K w w'' v l := by
 obtain ⟨g, t, rfl, hg, hB⟩ := h
 exact ⟨g, t, rfl, hg, hB.below hb hB.lt⟩
def IIn {α : Type} (K : IK α) (w : World) (a : Option Addr) (len cap : Nat) (l : List α) : Prop :=
 l.length = len ∧ len ≤ cap ∧ cap ≤ maxLen ∧
 ((a = none ∧ len = 0) ∨ ∃ x, a = some x ∧ ∀ k, k < len → ∀ (j : Nat) (z : Int), (K.iv (atK K l k))[j]? = some z → w.cell? (x.add (k * K.m + j)) = some (.int .i64 z))
theorem IIn.below {α : Type} {K : IK α} {w w' : World} {a : Option Addr} {len cap : Nat} {l : List α} (h : IIn K w a len cap l) (hb : Below w.heap.size w w') : IIn K w' a len cap l := by
 obtain ⟨h1, h2, h3, h4 | ⟨x, hx, h⟩⟩ := h
 · exact ⟨h1, h2, h3, .inl h4⟩
 · exact ⟨h1, h2, h3, .inr ⟨x, hx, fun k hk j z e => Later.at (h k hk j z e) ⟨w', hb⟩⟩⟩
theorem IIn.drewN {α : Type} {K : IK α} {W : World} {a : Option Addr} {len cap : Nat} {l : List α} (h : IIn K W a len cap l) (n : Nat) : IIn K (W.drewN n) a len cap l := h
def ifFrom {α : Type} (p : α → Bool) : List α → Nat → Int
  | [], _ => -1
  | r :: l, k => if p r = true then (k : Int) else ifFrom p l (k + 1)
def ifind {α : Type} (p : α → Bool) (l : List α) : Int := ifFrom p l 0
theorem if_hit {α : Type} {K : IK α} {p : α → Bool} {l : List α} {k : Nat} {R : Int} (h : k < l.length) (hp : p (atK K l k) = true) (H : ifFrom p (l.drop k) k = R) : R = (k : Int) := by
 rw [List.drop_eq_getElem_cons h, ifFrom, ← atK_eq (K := K) h, if_pos hp] at H
 exact H.symm
theorem if_miss {α : Type} {K : IK α} {p : α → Bool} {l : List α} {k : Nat} {R : Int} (h : k < l.length) (hp : p (atK K l k) = false) (H : ifFrom p (l.drop k) k = R) : ifFrom p (l.drop (k + 1)) (k + 1) = R := by
 rw [List.drop_eq_getElem_cons h, ifFrom, ← atK_eq (K := K) h, if_neg (by rw [hp]; simp)] at H
 exact H
theorem if_end {α : Type} {p : α → Bool} {l : List α} {k : Nat} {R : Int} (h : l.length ≤ k) (H : ifFrom p (l.drop k) k = R) : R = -1 := by
 rw [List.drop_of_length_le h] at H
 exact H.symm
def iPart {α : Type} (K : IK α) (l : List α) (k : Nat) (cs : Array Value) : Prop := cs.size = l.length * K.m ∧ ∀ j, j < k * K.m → cs[j]? = (iA K l)[j]?
theorem iPart_all {α : Type} {K : IK α} {l : List α} {cs : Array Value} (h : iPart K l l.length cs) : cs = iA K l := by
 apply Array.ext_getElem?
 intro j
 by_cases hj : j < l.length * K.m
 · exact h.2 j hj
 · rw [Array.getElem?_eq_none (by rw [h.1]; omega), Array.getElem?_eq_none (by rw [iA_size]; omega)]
def setI (cs : Array Value) (b : Nat) : Nat → List Int → Array Value
  | _, [] => cs
  | j, z :: zs => setI (cs.setIfInBounds (b + j) (.int .i64 z)) b (j + 1) zs
theorem setI_size : ∀ (zs : List Int) (cs : Array Value) (b j : Nat), (setI cs b j zs).size = cs.size
  | [], cs, b, j => rfl
  | z :: zs, cs, b, j => by rw [setI, setI_size zs]; simp
theorem setI_old : ∀ (zs : List Int) (cs : Array Value) (b j q : Nat), q < b + j ∨ b + j + zs.length ≤ q → (setI cs b j zs)[q]? = cs[q]?
  | [], cs, b, j, q, _ => rfl
  | z :: zs, cs, b, j, q, h => by
   rw [setI, setI_old zs _ b (j + 1) q (by simp at h; omega), Array.getElem?_setIfInBounds_ne (by simp at h; omega)]
theorem setI_new : ∀ (zs : List Int) (cs : Array Value) (b j i : Nat) (z : Int), b + j + zs.length ≤ cs.size → zs[i]? = some z → (setI cs b j zs)[b + j + i]? = some (.int .i64 z)
  | [], cs, b, j, i, z, _, e => by simp at e
  | y :: zs, cs, b, j, 0, z, h, e => by
   simp at e h
   subst e
   rw [setI, setI_old zs _ b (j + 1) _ (by omega), Nat.add_zero, Array.getElem?_setIfInBounds_self_of_lt (by omega)]
  | y :: zs, cs, b, j, i + 1, z, h, e => by
   simp at h
   have := setI_new zs (cs.setIfInBounds (b + j) (.int .i64 y)) b (j + 1) i z (by simp; omega) (by simpa using e)
   rw [setI, show b + j + (i + 1) = b + (j + 1) + i by omega]
   exact this
theorem iPart_next {α : Type} {K : IK α} {l : List α} {k : Nat} {cs : Array Value} (h : iPart K l k cs) (hk : k < l.length) : iPart K l (k + 1) (setI cs (k * K.m) 0 (K.iv (atK K l k))) := by
 obtain ⟨h1, h2⟩ := h
 have hl := K.len (atK K l k)
 have hmul : (k + 1) * K.m ≤ l.length * K.m := Nat.mul_le_mul_right _ hk
 have e1 : (k + 1) * K.m = k * K.m + K.m := by rw [Nat.add_mul]; omega
 refine ⟨by rw [setI_size, h1], fun j hj => ?_⟩
 by_cases hlt : j < k * K.m
 · rw [setI_old _ _ _ _ _ (by omega), h2 j hlt]
 · obtain ⟨i, rfl⟩ : ∃ i, j = k * K.m + i := ⟨j - k * K.m, by omega⟩
   have hi : i < (K.iv (atK K l k)).length := by omega
   have e : (K.iv (atK K l k))[i]? = some ((K.iv (atK K l k))[i]) := by simp [hi]
   have := setI_new (K.iv (atK K l k)) cs (k * K.m) 0 i _ (by omega) e
   rw [Nat.add_zero] at this
   rw [this, iA_at i hk e]
end Go.Proofs.YtdmlhiailjnhcaaGreatDoor.ctr
namespace Go.Proofs.YtdmlhiailjnhcaaGreatDoor.kit
open Go.RowKit Go.WideShapes Go.Deep Go.ChangeShapes
theorem open_irow {H : Type} {enc : TypeId × Value → H} {P : Program} {w : World} {base : Nat} {spare : Nat → Bool} {held : Bool} {t e : TypeId} {fs : Array Field} {a : Option Addr} {len cap : Nat} {x : DataW H} {p : List MemPlace} {α : Type} (K : ctr.IK α)
    (ht : P.underlying t = some (.slice e)) (he : P.underlying e = some (.struct fs)) (ce : P.cellsOf e = K.m) (hsz : fs.size = K.m)
    (hf0 : ∀ (j : Nat) (f : Field), fs[j]? = some f → f.offset = j ∧ P.cellsOf f.type = 1 ∧ P.underlying f.type = some (.int .i64))
    (h : DataW.Trod enc P w base spare held t (.slice a len cap) x p) : ∃ l : List α, ctr.IIn K w a len cap l := by
  obtain ⟨fuel, h⟩ := h
  simp only [Value.cells] at h
  rcases open_slice ht h with ⟨h0, _⟩ | ⟨a', len', cap', m, n, D, Pl, e', hb, hl, hm, hmm, hxp, hx⟩
  · simp at h0
    obtain ⟨rfl, rfl, rfl⟩ := h0
    exact ⟨[], rfl, Nat.le_refl _, by unfold maxLen; omega, .inl ⟨rfl, rfl⟩⟩
  · simp at e'
    obtain ⟨rfl, rfl, rfl⟩ := e'
    have hlm : len ≤ m := by rw [hmm]; split <;> omega
    have each : ∀ i, i < len → ∃ r : α, ∀ (j : Nat) (z : Int), (K.iv r)[j]? = some z → w.cell? (a'.add (i * K.m + j)) = some (.int .i64 z) := by
     intro i hi
     obtain ⟨cs', h1, h2⟩ := hx i (by omega)
     rw [ce] at h1
     obtain ⟨_, hlen, hcell⟩ := World.cells?_some h1
     obtain ⟨xs, k, hk, hxy, _, hxl, hf⟩ := DataW.trod_struct he h2
     have cell : ∀ j, j < K.m → ∃ z : Int, cs'[j]? = some (.int .i64 z) := by
      intro j hj
      obtain ⟨f, hfe⟩ : ∃ f, fs[j]? = some f := ⟨fs[j]'(by omega), by simp [hsz, hj]⟩
      obtain ⟨o, c, u⟩ := hf0 j f hfe
      have g := hf j f (by simpa using hfe)
      rw [o, c] at g
      have hjl : j < cs'.length := by omega
      have e1 : (cs'.drop j).take 1 = [cs'[j]] := by rw [List.drop_eq_getElem_cons hjl]; rfl
      have hxj : j < xs.length := by have := hxl; omega
      rw [e1, List.getElem?_eq_getElem hxj] at g
      obtain ⟨z, q, _, _⟩ := DataW.trod_int u g
      exact ⟨z, by rw [List.getElem?_eq_getElem hjl]; simpa using q⟩
     obtain ⟨Z, hZ⟩ : ∃ Z : Nat → Int, ∀ j, j < K.m → cs'[j]? = some (.int .i64 (Z j)) := by
      classical
      refine ⟨fun j => if h : j < K.m then (cell j h).choose else 0, fun j hj => ?_⟩
      simp only [dif_pos hj]
      exact (cell j hj).choose_spec
     refine ⟨K.ofI ((List.range K.m).map Z), fun j z e => ?_⟩
     rw [K.back _ (by simp)] at e
     have hj : j < K.m := by have := (List.getElem?_eq_some_iff.1 e).1; simpa using this
     have ez : z = Z j := by simpa [hj] using e.symm
     have e0 := hcell j (by omega)
     rw [add_add] at e0
     rw [e0, ez]
     exact hZ j hj
    obtain ⟨R, hR⟩ : ∃ R : Nat → α, ∀ i, i < len → ∀ (j : Nat) (z : Int), (K.iv (R i))[j]? = some z → w.cell? (a'.add (i * K.m + j)) = some (.int .i64 z) := by
     classical
     refine ⟨fun i => if h : i < len then (each i h).choose else K.d, fun i hi => ?_⟩
     simp only [dif_pos hi]
     exact (each i hi).choose_spec
    have hat : ∀ k, k < len → ctr.atK K ((List.range len).map R) k = R k := fun k hk => by simp [ctr.atK, List.getD, hk]
    exact ⟨(List.range len).map R, by simp, hl, hm, .inr ⟨a', rfl, fun k hk => by rw [hat k hk]; exact hR k hk⟩⟩
end Go.Proofs.YtdmlhiailjnhcaaGreatDoor.kit
namespace Go.Proofs.YtdmlhiailjnhcaaGreatDoor.ctr
open Go.RowKit
def CIs {α : Type} (K : IK α) (cur : Array Value) (L : List α) : Prop := ∀ k, k < L.length → ∀ (j : Nat) (z : Int), (K.iv (atK K L k))[j]? = some z → cur[k * K.m + j]? = some (.int .i64 z)
def PRow {α : Type} (K : IK α) (T : TypeId) (w : World) (g cap : Nat) (L : List α) : Prop := ∃ cur, Blk w g cur T ∧ cur.size = cap * K.m ∧ L.length ≤ cap ∧ cap ≤ maxLen ∧ CIs K cur L
theorem atK_set {α : Type} {K : IK α} {L : List α} {i k : Nat} {x : α} (hi : i < L.length) : atK K (L.set i x) k = if k = i then x else atK K L k := by
 unfold atK
 simp only [List.getD, List.getElem?_set]
 by_cases e : i = k
 · subst e; simp [hi]
 · simp [e, Ne.symm e]
theorem CIs.set {α : Type} {K : IK α} {cur : Array Value} {L : List α} (h : CIs K cur L) {i cap : Nat} (x : α) (hi : i < L.length) (hc : L.length ≤ cap) (hs : cur.size = cap * K.m) : CIs K (setI cur (i * K.m) 0 (K.iv x)) (L.set i x) := by
 intro k hk j z e
 have hk' : k < L.length := by simpa using hk
 have hl : (K.iv x).length = K.m := K.len x
 have h1 : (i + 1) * K.m ≤ cap * K.m := Nat.mul_le_mul_right _ (by omega)
 have e1 : (i + 1) * K.m = i * K.m + K.m := by rw [Nat.add_mul]; omega
 rw [atK_set hi] at e
 by_cases q : k = i
 · subst q
   rw [if_pos rfl] at e
   have := setI_new (K.iv x) cur (k * K.m) 0 j z (by omega) e
   rw [Nat.add_zero] at this
   exact this
 · rw [if_neg q] at e
   have hj : j < K.m := by rw [← K.len (atK K L k)]; exact (List.getElem?_eq_some_iff.1 e).1
   rw [setI_old _ _ _ _ _ (by
    rcases Nat.lt_or_gt_of_ne q with q | q
    · left
      have : (k + 1) * K.m ≤ i * K.m := Nat.mul_le_mul_right _ q
      rw [Nat.add_mul] at this
      omega
    · right
      have : (i + 1) * K.m ≤ k * K.m := Nat.mul_le_mul_right _ q
      omega)]
   exact h k hk' j z e
theorem PRow.lt {α : Type} {K : IK α} {T : TypeId} {w : World} {g cap : Nat} {L : List α} (h : PRow K T w g cap L) : g < w.heap.size := by obtain ⟨cur, h, _⟩ := h; exact h.lt
theorem PRow.at {α : Type} {K : IK α} {T : TypeId} {w : World} {g cap : Nat} {L : List α} (h : PRow K T w g cap L) {k : Nat} (hk : k < L.length) : IAt K w g k (atK K L k) := by
 obtain ⟨cur, hB, _, _, _, hC⟩ := h
 exact fun j z e => hB.cell _ (hC k hk j z e)
theorem PRow.below {α : Type} {K : IK α} {T : TypeId} {B : Nat} {w w' : World} {g cap : Nat} {L : List α} (h : PRow K T w g cap L) (hb : Below B w w') (hg : g < B) : PRow K T w' g cap L := by
 obtain ⟨cur, hB, r⟩ := h
 exact ⟨cur, hB.below hb hg, r⟩
theorem PRow.grown {α : Type} {K : IK α} {T : TypeId} {w w' : World} {g cap : Nat} {L : List α} {r : Option Nat} (h : PRow K T w g cap L) (hb : w.grownBy w' r) (hg : some g ≠ r) : PRow K T w' g cap L := by
 obtain ⟨cur, hB, q⟩ := h
 exact ⟨cur, (hb.block g hB.lt hg).trans hB, q⟩
theorem PRow.row {α : Type} {K : IK α} {T : TypeId} {w : World} {g cap : Nat} {L : List α} (h : PRow K T w g cap L) : IRow K w (.slice (some ⟨g, 0, none⟩) L.length cap) L := by
 obtain ⟨cur, hB, _, h1, h2, hC⟩ := h
 exact ⟨_, cap, rfl, h1, h2, fun k hk => ⟨g, rfl, hB.lt, fun j z e => hB.cell _ (hC k hk j z e)⟩⟩
theorem CIs.take {α : Type} {K : IK α} {cur : Array Value} {L : List α} (h : CIs K cur L) (hm : 0 < K.m) {cap : Nat} (hc : L.length ≤ cap) (hs : cur.size = cap * K.m) : cur.toList.take (L.length * K.m) = icells K L := by
 have h1 : L.length * K.m ≤ cap * K.m := Nat.mul_le_mul_right _ hc
 apply List.ext_getElem?
 intro q
 by_cases hq : q < L.length * K.m
 · rw [List.getElem?_take, if_pos hq]
   have hk : q / K.m < L.length := Nat.div_lt_of_lt_mul (by rw [Nat.mul_comm]; exact hq)
   have hj : q % K.m < K.m := Nat.mod_lt _ hm
   have hd : q / K.m * K.m + q % K.m = q := by rw [Nat.mul_comm]; exact Nat.div_add_mod q K.m
   have e : (K.iv (atK K L (q / K.m)))[q % K.m]? = some ((K.iv (atK K L (q / K.m)))[q % K.m]'(by rw [K.len]; exact hj)) := by simp
   have a := h _ hk _ _ e
   have b := icells_at L _ _ _ hk e
   rw [hd] at a b
   rw [b]
   simpa using a
 · rw [List.getElem?_eq_none (by simp; omega), List.getElem?_eq_none (by rw [icells_len]; omega)]
theorem CIs.of_take {α : Type} {K : IK α} {cur : Array Value} {L : List α} (h : cur.toList.take (L.length * K.m) = icells K L) : CIs K cur L := by
 intro k hk j z e
 have hj : j < K.m := by rw [← K.len (atK K L k)]; exact (List.getElem?_eq_some_iff.1 e).1
 have b := icells_at L k j z hk e
 have hq : k * K.m + j < L.length * K.m := by
  have : (k + 1) * K.m ≤ L.length * K.m := Nat.mul_le_mul_right _ hk
  rw [Nat.add_mul] at this
  omega
 rw [← h, List.getElem?_take, if_pos hq] at b
 simpa using b
theorem PRow.owns {α : Type} {K : IK α} {T : TypeId} {w : World} {g cap base : Nat} {L : List α} (h : PRow K T w g cap L) (hm : 0 < K.m) (hg : base ≤ g) : w.ownsRow base T K.m (.slice (some ⟨g, 0, none⟩) L.length cap) L.length (icells K L) := by
 obtain ⟨cur, hB, hs, h1, h2, hC⟩ := h
 exact ⟨icells_len L, .inr ⟨g, cap, cur, rfl, hg, hB, h1, h2, hs, hC.take hm h1 hs⟩⟩
theorem PRow.of_owns {α : Type} {K : IK α} {T : TypeId} {w : World} {base : Nat} {v : Value} {L : List α} (h : w.ownsRow base T K.m v L.length (icells K L)) (h0 : 0 < L.length) : ∃ g cap, v = .slice (some ⟨g, 0, none⟩) L.length cap ∧ base ≤ g ∧ PRow K T w g cap L := by
 obtain ⟨_, ⟨_, h⟩ | ⟨g, cap, cur, rfl, hg, hB, h1, h2, hs, hC⟩⟩ := h
 · omega
 · exact ⟨g, cap, rfl, hg, cur, hB, hs, h1, h2, CIs.of_take hC⟩
theorem icells_app {α : Type} {K : IK α} : ∀ (l l' : List α), icells K (l ++ l') = icells K l ++ icells K l'
  | [], l' => rfl
  | a :: l, l' => by rw [List.cons_append, icells, icells, icells_app l l', List.append_assoc]
theorem icell_one {α : Type} {K : IK α} {l : List α} : ∀ u ∈ icells K l, u.oneCell' = true := by
 induction l with
 | nil => simp [icells]
 | cons a l ih =>
  intro u hu
  rcases List.mem_append.1 hu with h | h
  · obtain ⟨z, _, rfl⟩ := List.mem_map.1 h
    rfl
  · exact ih u h
theorem PRow.shorter {α : Type} {K : IK α} {T : TypeId} {w : World} {g cap : Nat} {L : List α} (h : PRow K T w g cap L) (n : Nat) : PRow K T w g cap (L.take n) := by
 obtain ⟨cur, hB, hs, h1, h2, hC⟩ := h
 refine ⟨cur, hB, hs, by simp; omega, h2, fun k hk j z e => hC k (by simp at hk; omega) j z ?_⟩
 simp at hk
 have hkn : k < n := by omega
 have : atK K (L.take n) k = atK K L k := by simp [atK, List.getD, hkn]
 rw [← this]
 exact e
end Go.Proofs.YtdmlhiailjnhcaaGreatDoor.ctr
namespace Go.Proofs.YtdmlhiailjnhcaaGreatDoor.kit
open Go.RowKit Go.WideShapes Go.Deep Go.ChangeShapes
theorem wf_bounds {z : Int} (h : (Lit.int .i64 z).wf = true) : -9223372036854775808 ≤ z ∧ z ≤ 9223372036854775807 := by
 have h' : (decide (IntKind.i64.min ≤ z) && decide (z ≤ IntKind.i64.max)) = true := h
 rw [show IntKind.i64.min = -9223372036854775808 from rfl, show IntKind.i64.max = 9223372036854775807 from rfl] at h'
 simpa using h'
end Go.Proofs.YtdmlhiailjnhcaaGreatDoor.kit
namespace Go.Proofs.YtdmlhiailjnhcaaGreatDoor.kit
open Go.RowKit Go.WideShapes Go.Deep Go.ChangeShapes
end Go.Proofs.YtdmlhiailjnhcaaGreatDoor.kit
namespace Go.Proofs.YtdmlhiailjnhcaaGreatDoor.ctr
open Go.RowKit
def calT (c : Int) : TypeId := if c = 0 then 175 else 176
theorem implCal (c : Int) (h : c = 0 ∨ c = 1) (w : World) : Calls Tryz.prog 138 #[.int .i64 c] w fun e w' => e = .returned (.iface (calT c) (.agg #[])) ∧ w' = w := by
 rcases h with rfl | rfl
 · exact implCal0 w
 · exact implCal1 w
abbrev Tab (w : World) : Prop := Lib.TabIs Tryz.prog w "loop.example/g00638/impl.monthLengths" .i64 tab12
theorem tabCell {w : World} (h : Tab w) (i : Nat) (hi : i < 12) : w.cell? ⟨1, i, none⟩ = some (.int .i64 (tab12.getD i 0)) :=
 h.cell (by kernel_rfl) i hi
theorem Tab.later {w w1 : World} (h : Tab w) (hb : Below w.heap.size w w1) : Tab w1 := kit.tab_below h hb (g := 1) (by kernel_rfl)
set_option maxHeartbeats 2000000 in
theorem implMonthDays (c y m : Int) (w : World) (hT : Tab w) : CR 180 #[.int .i64 c, .int .i64 y, .int .i64 m] w (.int .i64 (monthDays c y m)) := by
 by_cases hc : c = 0 ∨ c = 1
 · have KC := fun W => implCal c hc W
   by_cases h1 : m < 1
   · rw [monthDays_no (by omega)]
     clear hT hc
     go_enter Tryz.func180, Tryz.ntmps180
     go_wp2_with (go_at_call 138; refine (KC _).mono ?_; rintro e w1 ⟨rfl, rfl⟩)
     go_ret
     exact ⟨rfl, Below.refl _ _⟩
   by_cases h2 : 12 < m
   · rw [monthDays_no (by omega)]
     clear hT hc
     go_enter Tryz.func180, Tryz.ntmps180
     go_wp2_with (go_at_call 138; refine (KC _).mono ?_; rintro e w1 ⟨rfl, rfl⟩)
     go_ret
     exact ⟨rfl, Below.refl _ _⟩
   by_cases hm : m = 2
   · subst hm
     have hL : ∀ W, CR 211 #[.int .i64 c, .int .i64 y] W (.bool (leapB c y)) := implLeap c y
     have c1 : ∀ x : Later w, x.w.cell? ⟨1, 1, none⟩ = some (.int .i64 28) := Later.at (tabCell hT 1 (by omega))
     by_cases hl : leapP c y
     focus
       rw [leapB_true hl] at hL
       rw [monthDays_leap hc hl]
     rotate_left
     focus
       rw [leapB_false hl] at hL
       rw [monthDays_plain hc (by omega) (by omega) (fun h => hl h.2)]
     rotate_left
     all_goals
      clear hT hc hl
      go_enter Tryz.func180, Tryz.ntmps180
      go_wp2_with (first | (go_at_call 138; refine (KC _).mono ?_; rintro e w1 ⟨rfl, rfl⟩) | (go_at_call 211; refine (hL _).mono ?_; rintro e w2 ⟨rfl, hb⟩; obtain ⟨x, rfl⟩ := Later.of hb))
      go_ret
      exact ⟨rfl, x.below⟩
   rw [monthDays_plain hc (by omega) (by omega) (fun h => hm h.1)]
   clear hc
   rcases month_cases (m := m) (by omega) (by omega) with rfl | rfl | rfl | rfl | rfl | rfl | rfl | rfl | rfl | rfl | rfl | rfl
   · have c1 := tabCell hT 0 (by omega)
     clear hT h1 h2 hm
     go_enter Tryz.func180, Tryz.ntmps180
     go_wp2_with (go_at_call 138; refine (KC _).mono ?_; rintro e w1 ⟨rfl, rfl⟩)
     go_ret
     exact ⟨rfl, Below.refl _ _⟩
   · exact absurd rfl hm
   focus
     have c1 := tabCell hT 2 (by omega)
   rotate_left
   focus
     have c1 := tabCell hT 3 (by omega)
   rotate_left
   focus
     have c1 := tabCell hT 4 (by omega)
   rotate_left
   focus
     have c1 := tabCell hT 5 (by omega)
   rotate_left
   focus
     have c1 := tabCell hT 6 (by omega)
   rotate_left
   focus
     have c1 := tabCell hT 7 (by omega)
   rotate_left
   focus
     have c1 := tabCell hT 8 (by omega)
   rotate_left
   focus
     have c1 := tabCell hT 9 (by omega)
   rotate_left
   focus
     have c1 := tabCell hT 10 (by omega)
   rotate_left
   focus
     have c1 := tabCell hT 11 (by omega)
   rotate_left
   all_goals
    clear hT h1 h2 hm
    go_enter Tryz.func180, Tryz.ntmps180
    go_wp2_with (go_at_call 138; refine (KC _).mono ?_; rintro e w1 ⟨rfl, rfl⟩)
    go_ret
    exact ⟨rfl, Below.refl _ _⟩
 rw [monthDays_no (fun h => hc h.1)]
 clear hT
 go_enter Tryz.func180, Tryz.ntmps180
 go_wp2_with (go_at_call 138; refine (implCalNo c (by omega) (by omega) _).mono ?_; rintro e w1 ⟨rfl, rfl⟩)
 go_ret
 exact ⟨rfl, Below.refl _ _⟩
abbrev dateO (c y m d : Int) : Obj := .cells #[.int .i64 c, .int .i64 y, .int .i64 m, .int .i64 d] 99
set_option maxHeartbeats 1000000 in
theorem implDateOk (c y m d : Int) (w : World) (hT : Tab w) : CR 163 #[.agg #[.int .i64 c, .int .i64 y, .int .i64 m, .int .i64 d]] w (.bool (dateOk c y m d)) := by
 obtain ⟨W0, hW0⟩ : ∃ W0, W0 = w.alloc (.cells #[.int .i64 c, .int .i64 y, .int .i64 m, .int .i64 d] 99) := ⟨_, rfl⟩
 have c0 : ∀ x : Later W0, x.w.cell? ⟨w.heap.size, 0, none⟩ = some (.int .i64 c) := Later.new hW0 0 rfl
 have c1 : ∀ x : Later W0, x.w.cell? ⟨w.heap.size, 1, none⟩ = some (.int .i64 y) := Later.new hW0 1 rfl
 have c2 : ∀ x : Later W0, x.w.cell? ⟨w.heap.size, 2, none⟩ = some (.int .i64 m) := Later.new hW0 2 rfl
 have c3 : ∀ x : Later W0, x.w.cell? ⟨w.heap.size, 3, none⟩ = some (.int .i64 d) := Later.new hW0 3 rfl
 have HW0 : Hid (W0 = _) := hW0
 have KM : ∀ x : Later W0, CR 180 #[.int .i64 c, .int .i64 y, .int .i64 m] x.w (.int .i64 (monthDays c y m)) :=
  fun x => implMonthDays c y m x.w (hT.later (below_of_alloc HW0.out x.below))
 clear hW0 hT
 by_cases h1 : y < 1
 · rw [dateOk_false (fun h => by have := h.2.1; omega)]
   clear KM
   have g1 : decide (1 ≤ y) = false := decide_eq_false (by omega)
   go_enter Tryz.func163, Tryz.ntmps163
   go_wp2
   rw [← HW0.out]
   refine wp_region_later (W := W0) (Below.refl _ _) (by kernel_rfl) (by kernel_rfl) ?_
   repeat (go_big_quiet_step (fail))
   refine wpQuiet_nil ?_
   intro _ hw'
   obtain ⟨x, rfl⟩ := hw'
   go_wp2
   go_ret
   exact ⟨by first | rfl | exact ret_bool (by simp [*]), below_of_alloc HW0.out x.below⟩
 by_cases h2 : 3000 < y
 · rw [dateOk_false (fun h => by have := h.2.2.1; omega)]
   clear KM
   have g1 : decide (1 ≤ y) = true := decide_eq_true (by omega)
   have g2 : decide (y ≤ 3000) = false := decide_eq_false (by omega)
   go_enter Tryz.func163, Tryz.ntmps163
   go_wp2
   rw [← HW0.out]
   refine wp_region_later (W := W0) (Below.refl _ _) (by kernel_rfl) (by kernel_rfl) ?_
   repeat (go_big_quiet_step (fail))
   refine wpQuiet_nil ?_
   intro _ hw'
   obtain ⟨x, rfl⟩ := hw'
   go_wp2
   go_ret
   exact ⟨by first | rfl | exact ret_bool (by simp [*]), below_of_alloc HW0.out x.below⟩
 by_cases h3 : d < 1
 · rw [dateOk_false (fun h => by have := h.2.2.2.1; omega)]
   clear KM
   have g1 : decide (1 ≤ y) = true := decide_eq_true (by omega)
   have g2 : decide (y ≤ 3000) = true := decide_eq_true (by omega)
   have g3 : decide (1 ≤ d) = false := decide_eq_false (by omega)
   go_enter Tryz.func163, Tryz.ntmps163
   go_wp2
   rw [← HW0.out]
   refine wp_region_later (W := W0) (Below.refl _ _) (by kernel_rfl) (by kernel_rfl) ?_
   repeat (go_big_quiet_step (fail))
   refine wpQuiet_nil ?_
   intro _ hw'
   obtain ⟨x, rfl⟩ := hw'
   go_wp2
   go_ret
   exact ⟨by first | rfl | exact ret_bool (by simp [*]), below_of_alloc HW0.out x.below⟩
 have hD : dateOk c y m d = decide (d ≤ monthDays c y m) := by
  by_cases h : d ≤ monthDays c y m
  · have hc : c = 0 ∨ c = 1 := by
     by_cases hc : c = 0 ∨ c = 1
     · exact hc
     · rw [monthDays_no (fun h => hc h.1)] at h
       omega
    rw [dateOk_true ⟨hc, by omega, by omega, by omega, h⟩, decide_eq_true h]
  · rw [dateOk_false (fun k => h k.2.2.2.2), decide_eq_false h]
 rw [hD]
 clear hD
 generalize monthDays c y m = md at *
 have g1 : decide (1 ≤ y) = true := decide_eq_true (by omega)
 have g2 : decide (y ≤ 3000) = true := decide_eq_true (by omega)
 have g3 : decide (1 ≤ d) = true := decide_eq_true (by omega)
 go_enter Tryz.func163, Tryz.ntmps163
 go_wp2
 rw [← HW0.out]
 refine wp_region_later (W := W0) (Below.refl _ _) (by kernel_rfl) (by kernel_rfl) ?_
 repeat (go_big_quiet_step ((go_at_call 180; exact calls_later (KM _))))
 refine wpQuiet_nil ?_
 intro _ hw'
 obtain ⟨x, rfl⟩ := hw'
 go_wp2
 go_ret
 exact ⟨by first | rfl | exact ret_bool (by simp [*]), below_of_alloc HW0.out x.below⟩
theorem before_next (c y : Int) (k : Nat) : before c y (k + 1) = before c y k + monthDays c y ((k : Int) + 1) := by
 simp [before]
set_option maxHeartbeats 400000 in
theorem specBefore (c y m : Int) (w : World) (hm : m ≤ 13) : CR 208 #[.int .i64 c, .int .i64 y, .int .i64 m] w (.int .i64 (before c y (m - 1).toNat)) := by
 obtain ⟨R, hR⟩ : ∃ R, R = before c y (m - 1).toNat := ⟨_, rfl⟩
 rw [← hR]
 have HR := hideP hR
 clear hR
 go_enter Tryz.func208, Tryz.ntmps208
 go_wp2
 go_loopw [7, 8] (fun n i wr => ∃ k : Nat, (k = 0 ∨ (k : Int) + 1 ≤ m) ∧ i = .int .i64 ((k : Int) + 1) ∧ n = .int .i64 (before c y k) ∧ Below w.heap.size w wr) (fun _ i _ => 14 - (intOf i).toNat)
 case atStart => exact ⟨0, by omega, rfl, rfl, Below.refl _ _⟩
 case round =>
  obtain ⟨k, hk, rfl, rfl, hb⟩ := hrel
  have h1 := before_bound c y k
  have h2 := monthDays_le c y ((k : Int) + 1)
  have HN := hideP (before_next c y k)
  have KM : ∀ W, CR 114 #[.int .i64 c, .int .i64 y, .int .i64 ((k : Int) + 1)] W (.int .i64 (monthDays c y ((k : Int) + 1))) := specMonthDays c y _
  generalize monthDays c y ((k : Int) + 1) = md at *
  by_cases hlt : (k : Int) + 1 < m
  · go_wp2_with (go_at_call 114; refine (KM _).mono ?_; rintro e w' ⟨rfl, hb'⟩)
    exact ⟨⟨k + 1, by omega, by go_num, by first | (rw [HN.out]; done) | (rw [HN.out]; go_num), hb.trans (hb'.mono hb.size)⟩, by simp [intOf]; omega⟩
  · have HK : Hid ((m - 1).toNat = k) := by unfold Hid; omega
    go_wp2_with fail
    go_ret
    exact ⟨ret_int (by rw [HR.out, HK.out]), hb⟩
set_option maxHeartbeats 400000 in
theorem implUpTo (c y m d : Int) (w : World) (hT : Tab w) (hm1 : 1 ≤ m) (hm2 : m ≤ 13) (hd1 : -100 ≤ d) (hd2 : d ≤ 1000) : CR 256 #[.agg #[.int .i64 c, .int .i64 y, .int .i64 m, .int .i64 d]] w (.int .i64 (before c y (m - 1).toNat + d)) := by
 obtain ⟨W0, hW0⟩ : ∃ W0, W0 = w.alloc (.cells #[.int .i64 c, .int .i64 y, .int .i64 m, .int .i64 d] 99) := ⟨_, rfl⟩
 have c0 : ∀ x : Later W0, x.w.cell? ⟨w.heap.size, 0, none⟩ = some (.int .i64 c) := Later.new hW0 0 rfl
 have c1 : ∀ x : Later W0, x.w.cell? ⟨w.heap.size, 1, none⟩ = some (.int .i64 y) := Later.new hW0 1 rfl
 have c2 : ∀ x : Later W0, x.w.cell? ⟨w.heap.size, 2, none⟩ = some (.int .i64 m) := Later.new hW0 2 rfl
 have c3 : ∀ x : Later W0, x.w.cell? ⟨w.heap.size, 3, none⟩ = some (.int .i64 d) := Later.new hW0 3 rfl
 have HW0 : Hid (W0 = _) := hW0
 have HT : Hid (∀ x : Later W0, Tab x.w) := fun x => hT.later (below_of_alloc HW0.out x.below)
 clear hW0 hT
 obtain ⟨R, hR⟩ : ∃ R, R = before c y (m - 1).toNat + d := ⟨_, rfl⟩
 rw [← hR]
 have HD := hideP hR
 clear hR
 obtain ⟨x0, e0⟩ : ∃ x : Later W0, W0 = x.w := ⟨⟨W0, Below.refl _ _⟩, rfl⟩
 have E0 := hideP e0
 clear e0
 go_enter Tryz.func256, Tryz.ntmps256
 go_wp2_with fail
 go_loopw [3, 4] (fun n i wr => ∃ (k : Nat) (x : Later W0), (k : Int) + 1 ≤ m ∧ i = .int .i64 ((k : Int) + 1) ∧ n = .int .i64 (before c y k + d) ∧ wr = x.w) (fun _ i _ => 14 - (intOf i).toNat)
 case atStart => exact ⟨0, x0, by omega, rfl, by simp [before], by rw [← HW0.out]; exact E0.out⟩
 case round =>
  obtain ⟨k, x, hk, rfl, rfl, rfl⟩ := hrel
  have h1 := before_bound c y k
  have h2 := monthDays_le c y ((k : Int) + 1)
  have HN := hideP (before_next c y k)
  have KM : CR 180 #[.int .i64 c, .int .i64 y, .int .i64 ((k : Int) + 1)] x.w (.int .i64 (monthDays c y ((k : Int) + 1))) := implMonthDays c y _ _ (HT.out x)
  generalize monthDays c y ((k : Int) + 1) = md at *
  by_cases hlt : (k : Int) + 1 < m
  · go_wp2_with (go_at_call 180; refine KM.mono ?_; rintro e w' ⟨rfl, hb'⟩; obtain ⟨x', rfl⟩ := x.next hb')
    exact ⟨⟨k + 1, x', by omega, by go_num, by first | (rw [HN.out]; done) | (rw [HN.out]; go_num), rfl⟩, by simp [intOf]; omega⟩
  · have HK : Hid ((m - 1).toNat = k) := by unfold Hid; omega
    go_wp2_with fail
    go_ret
    exact ⟨ret_int (by rw [HD.out, HK.out]), below_of_alloc HW0.out x.below⟩
set_option maxHeartbeats 400000 in
theorem specFirst (c y : Int) (w : World) (hc : c = 0 ∨ c = 1) (hy1 : -5 ≤ y) (hy2 : y ≤ 4000) : Calls Tryz.prog 113 #[.int .i64 c, .int .i64 y] w fun e w' => e = .returned (.int .i64 (first c y)) ∧ w' = w := by
 have K4 : ∀ W, Calls Tryz.prog 158 #[.int .i64 (y - 1), .int .i64 4] W fun e w' => e = .returned (.int .i64 ((y - 1) / 4)) ∧ w' = W := fun W => by rw [← floorDiv_small (by omega) (by omega) (by omega)]; exact specFloorDiv _ _ W
 have K100 : ∀ W, Calls Tryz.prog 158 #[.int .i64 (y - 1), .int .i64 100] W fun e w' => e = .returned (.int .i64 ((y - 1) / 100)) ∧ w' = W := fun W => by rw [← floorDiv_small (by omega) (by omega) (by omega)]; exact specFloorDiv _ _ W
 have K400 : ∀ W, Calls Tryz.prog 158 #[.int .i64 (y - 1), .int .i64 400] W fun e w' => e = .returned (.int .i64 ((y - 1) / 400)) ∧ w' = W := fun W => by rw [← floorDiv_small (by omega) (by omega) (by omega)]; exact specFloorDiv _ _ W
 have b4 : -2 ≤ (y - 1) / 4 ∧ (y - 1) / 4 ≤ 1000 := by omega
 have b100 : -2 ≤ (y - 1) / 100 ∧ (y - 1) / 100 ≤ 1000 := by omega
 have b400 : -2 ≤ (y - 1) / 400 ∧ (y - 1) / 400 ≤ 1000 := by omega
 obtain ⟨R, hR⟩ : ∃ R, R = first c y := ⟨_, rfl⟩
 rw [← hR]
 rcases hc with rfl | rfl
 · rw [first_jul] at hR
   have HR := hideP hR
   clear hR K100 K400 b100 b400
   generalize (y - 1) / 4 = q4 at *
   go_enter Tryz.func113, Tryz.ntmps113
   go_wp2_with (go_at_call 158; refine (K4 _).mono ?_; rintro e w1 ⟨rfl, rfl⟩)
   go_ret
   exact ⟨ret_int (by rw [HR.out]), rfl⟩
 · rw [first_gre] at hR
   have HR := hideP hR
   clear hR
   generalize (y - 1) / 4 = q4 at *
   generalize (y - 1) / 100 = q100 at *
   generalize (y - 1) / 400 = q400 at *
   go_enter Tryz.func113, Tryz.ntmps113
   go_wp2_with (first | (go_at_call_of 158 (4 : Int); refine (K4 _).mono ?_; rintro e w1 ⟨rfl, rfl⟩) | (go_at_call_of 158 (100 : Int); refine (K100 _).mono ?_; rintro e w1 ⟨rfl, rfl⟩) | (go_at_call_of 158 (400 : Int); refine (K400 _).mono ?_; rintro e w1 ⟨rfl, rfl⟩))
   go_ret
   exact ⟨ret_int (by rw [HR.out]), rfl⟩
set_option maxHeartbeats 400000 in
theorem specDay (c y m d : Int) (w : World) (hc : c = 0 ∨ c = 1) (hy1 : -5 ≤ y) (hy2 : y ≤ 4000) (hm : m ≤ 13) (hd1 : -100 ≤ d) (hd2 : d ≤ 1000) : CR 161 #[.int .i64 c, .int .i64 y, .int .i64 m, .int .i64 d] w (.int .i64 (first c y + before c y (m - 1).toNat + d - 1)) := by
 have KF : ∀ W, Calls Tryz.prog 113 #[.int .i64 c, .int .i64 y] W fun e w' => e = .returned (.int .i64 (first c y)) ∧ w' = W := fun W => specFirst c y W hc hy1 hy2
 have KB : ∀ W, CR 208 #[.int .i64 c, .int .i64 y, .int .i64 m] W (.int .i64 (before c y (m - 1).toNat)) := fun W => specBefore c y m W hm
 have b1 := first_bound hc hy1 hy2
 have b2 := before_bound c y (m - 1).toNat
 have b3 : before c y (m - 1).toNat ≤ 372 := by omega
 have b4 := b2.1
 clear b2
 generalize first c y = F at *
 generalize before c y (m - 1).toNat = B at *
 go_enter Tryz.func161, Tryz.ntmps161
 go_wp2_with (first | (go_at_call 113; refine (KF _).mono ?_; rintro e w1 ⟨rfl, rfl⟩) | (go_at_call 208; refine (KB _).mono ?_; rintro e w1 ⟨rfl, hb⟩))
 go_ret
 exact ⟨rfl, hb⟩
set_option maxHeartbeats 400000 in
theorem implEve (c y : Int) (w : World) (hc : c = 0 ∨ c = 1) (hy1 : -5 ≤ y) (hy2 : y ≤ 4000) : Calls Tryz.prog 178 #[.iface (calT c) (.agg #[]), .int .i64 y] w fun e w' => e = .returned (.int .i64 (first c y - 1)) ∧ w' = w := by
 have K4 : ∀ W, Calls Tryz.prog 224 #[.int .i64 (y - 1), .int .i64 4] W fun e w' => e = .returned (.int .i64 ((y - 1) / 4)) ∧ w' = W := fun W => by rw [← floorDiv_small (by omega) (by omega) (by omega)]; exact implFloorDiv _ _ W
 have K100 : ∀ W, Calls Tryz.prog 224 #[.int .i64 (y - 1), .int .i64 100] W fun e w' => e = .returned (.int .i64 ((y - 1) / 100)) ∧ w' = W := fun W => by rw [← floorDiv_small (by omega) (by omega) (by omega)]; exact implFloorDiv _ _ W
 have K400 : ∀ W, Calls Tryz.prog 224 #[.int .i64 (y - 1), .int .i64 400] W fun e w' => e = .returned (.int .i64 ((y - 1) / 400)) ∧ w' = W := fun W => by rw [← floorDiv_small (by omega) (by omega) (by omega)]; exact implFloorDiv _ _ W
 have b4 : -2 ≤ (y - 1) / 4 ∧ (y - 1) / 4 ≤ 1000 := by omega
 have b100 : -2 ≤ (y - 1) / 100 ∧ (y - 1) / 100 ≤ 1000 := by omega
 have b400 : -2 ≤ (y - 1) / 400 ∧ (y - 1) / 400 ≤ 1000 := by omega
 obtain ⟨R, hR⟩ : ∃ R, R = first c y - 1 := ⟨_, rfl⟩
 rw [← hR]
 rcases hc with rfl | rfl
 · rw [first_jul] at hR
   have HR := hideP hR
   clear hR K100 K400 b100 b400
   generalize (y - 1) / 4 = q4 at *
   have q1 := isJulJul
   rw [show calT 0 = 175 from rfl]
   go_enter Tryz.func178, Tryz.ntmps178
   go_wp2_with (go_at_call 224; refine (K4 _).mono ?_; rintro e w1 ⟨rfl, rfl⟩)
   go_ret
   exact ⟨ret_int (by rw [HR.out]; omega), rfl⟩
 · rw [first_gre] at hR
   have HR := hideP hR
   clear hR
   generalize (y - 1) / 4 = q4 at *
   generalize (y - 1) / 100 = q100 at *
   generalize (y - 1) / 400 = q400 at *
   have q1 := isJulGre
   have q2 := isGreGre
   rw [show calT 1 = 176 from rfl]
   go_enter Tryz.func178, Tryz.ntmps178
   go_wp2_with (first | (go_at_call_of 224 (4 : Int); refine (K4 _).mono ?_; rintro e w1 ⟨rfl, rfl⟩) | (go_at_call_of 224 (100 : Int); refine (K100 _).mono ?_; rintro e w1 ⟨rfl, rfl⟩) | (go_at_call_of 224 (400 : Int); refine (K400 _).mono ?_; rintro e w1 ⟨rfl, rfl⟩))
   go_ret
   exact ⟨ret_int (by rw [HR.out]; omega), rfl⟩
set_option maxHeartbeats 400000 in
theorem implLine (c y m d : Int) (w : World) (hT : Tab w) (hc : c = 0 ∨ c = 1) (hy1 : -5 ≤ y) (hy2 : y ≤ 4000) (hm1 : 1 ≤ m) (hm2 : m ≤ 13) (hd1 : -100 ≤ d) (hd2 : d ≤ 1000) : CR 216 #[.agg #[.int .i64 c, .int .i64 y, .int .i64 m, .int .i64 d]] w (.int .i64 (first c y + before c y (m - 1).toNat + d - 1)) := by
 obtain ⟨W0, hW0⟩ : ∃ W0, W0 = w.alloc (.cells #[.int .i64 c, .int .i64 y, .int .i64 m, .int .i64 d] 99) := ⟨_, rfl⟩
 have c0 : ∀ x : Later W0, x.w.cell? ⟨w.heap.size, 0, none⟩ = some (.int .i64 c) := Later.new hW0 0 rfl
 have c1 : ∀ x : Later W0, x.w.cell? ⟨w.heap.size, 1, none⟩ = some (.int .i64 y) := Later.new hW0 1 rfl
 have c2 : ∀ x : Later W0, x.w.cell? ⟨w.heap.size, 2, none⟩ = some (.int .i64 m) := Later.new hW0 2 rfl
 have c3 : ∀ x : Later W0, x.w.cell? ⟨w.heap.size, 3, none⟩ = some (.int .i64 d) := Later.new hW0 3 rfl
 have HW0 : Hid (W0 = _) := hW0
 have HT : Hid (∀ x : Later W0, Tab x.w) := fun x => hT.later (below_of_alloc HW0.out x.below)
 clear hW0 hT
 have KC := fun W => implCal c hc W
 have KE : ∀ W, Calls Tryz.prog 178 #[.iface (calT c) (.agg #[]), .int .i64 y] W fun e w' => e = .returned (.int .i64 (first c y - 1)) ∧ w' = W := fun W => implEve c y W hc hy1 hy2
 have KY : ∀ x : Later W0, CR 256 #[.agg #[.int .i64 c, .int .i64 y, .int .i64 m, .int .i64 d]] x.w (.int .i64 (before c y (m - 1).toNat + d)) := fun x => implUpTo c y m d x.w (HT.out x) hm1 hm2 hd1 hd2
 have b1 := first_bound hc hy1 hy2
 have b2 := before_bound c y (m - 1).toNat
 have b3 : -100 ≤ before c y (m - 1).toNat + d ∧ before c y (m - 1).toNat + d ≤ 2000 := by omega
 obtain ⟨R, hR⟩ : ∃ R, R = first c y + before c y (m - 1).toNat + d - 1 := ⟨_, rfl⟩
 rw [← hR]
 have hR' : R = first c y - 1 + (before c y (m - 1).toNat + d) := by omega
 have HR := hideP hR'
 clear hR hR' b2 hc
 generalize before c y (m - 1).toNat + d = Y at *
 generalize first c y = F at *
 generalize calT c = T at *
 go_enter Tryz.func216, Tryz.ntmps216
 go_wp2_with fail
 rw [← HW0.out]
 refine wp_region_later (W := W0) (Below.refl _ _) (by kernel_rfl) (by kernel_rfl) ?_
 repeat (go_big_quiet_step (first | (go_at_call 138; exact calls_same (KC _)) | (go_at_call 178; exact calls_same (KE _)) | (go_at_call 256; exact calls_later (KY _))))
 refine wpQuiet_nil ?_
 intro _ hw'
 obtain ⟨x, rfl⟩ := hw'
 go_wp2
 go_ret
 exact ⟨ret_int HR.out.symm, below_of_alloc HW0.out x.below⟩
set_option maxHeartbeats 400000 in
theorem implDayOf (c y m d : Int) (w : World) (hT : Tab w) : CR 170 #[.agg #[.int .i64 c, .int .i64 y, .int .i64 m, .int .i64 d]] w (.int .i64 (dayOf c y m d)) := by
 obtain ⟨W0, hW0⟩ : ∃ W0, W0 = w.alloc (.cells #[.int .i64 c, .int .i64 y, .int .i64 m, .int .i64 d] 99) := ⟨_, rfl⟩
 have c0 : ∀ x : Later W0, x.w.cell? ⟨w.heap.size, 0, none⟩ = some (.int .i64 c) := Later.new hW0 0 rfl
 have c1 : ∀ x : Later W0, x.w.cell? ⟨w.heap.size, 1, none⟩ = some (.int .i64 y) := Later.new hW0 1 rfl
 have c2 : ∀ x : Later W0, x.w.cell? ⟨w.heap.size, 2, none⟩ = some (.int .i64 m) := Later.new hW0 2 rfl
 have c3 : ∀ x : Later W0, x.w.cell? ⟨w.heap.size, 3, none⟩ = some (.int .i64 d) := Later.new hW0 3 rfl
 have HW0 : Hid (W0 = _) := hW0
 have HT : Hid (∀ x : Later W0, Tab x.w) := fun x => hT.later (below_of_alloc HW0.out x.below)
 have K0 : CR 163 #[.agg #[.int .i64 c, .int .i64 y, .int .i64 m, .int .i64 d]] W0 (.bool (dateOk c y m d)) := implDateOk c y m d W0 (HT.out ⟨W0, Below.refl _ _⟩)
 clear hW0 hT
 by_cases hp : dateP c y m d
 · rw [dateOk_true hp] at K0
   have hm := dateP_month hp
   have hd := dateP_day hp
   have KU : ∀ x : Later W0, CR 216 #[.agg #[.int .i64 c, .int .i64 y, .int .i64 m, .int .i64 d]] x.w (.int .i64 (first c y + before c y (m - 1).toNat + d - 1)) := fun x => implLine c y m d x.w (HT.out x) hp.1 (by have := hp.2.1; omega) (by have := hp.2.2.1; omega) (by omega) (by omega) (by omega) (by omega)
   have e1 : dayOf c y m d = first c y + before c y (m - 1).toNat + d - 1 := by unfold dayOf; rw [if_pos hp]
   rw [e1]
   clear hp e1 hm hd
   generalize first c y + before c y (m - 1).toNat + d - 1 = R at *
   go_enter Tryz.func170, Tryz.ntmps170
   go_wp2_with (go_at_call 163; rw [← HW0.out]; refine K0.mono ?_; rintro e w1 ⟨rfl, hb⟩; obtain ⟨x0, rfl⟩ := Later.of hb)
   refine (KU x0).mono ?_
   rintro e w1 ⟨rfl, hb1⟩
   go_wp2
   go_ret
   exact ⟨rfl, below_of_alloc HW0.out (x0.on hb1)⟩
 · rw [dateOk_false hp] at K0
   have HD : Hid (dayOf c y m d = 0) := by unfold Hid dayOf; rw [if_neg hp]
   clear hp
   go_enter Tryz.func170, Tryz.ntmps170
   go_wp2_with (go_at_call 163; rw [← HW0.out]; refine K0.mono ?_; rintro e w1 ⟨rfl, hb⟩)
   go_ret
   exact ⟨ret_int HD.out.symm, below_of_alloc HW0.out hb⟩
theorem year_low {c n : Int} (hc : c = 0 ∨ c = 1) (h1 : -1000 ≤ n) (h2 : n ≤ 1200000) : first c (n / 366) ≤ n ∧ -5 ≤ n / 366 ∧ n / 366 ≤ 3300 := by
 rcases hc with rfl | rfl
 · rw [first_jul]; omega
 · rw [first_gre]; omega
theorem year_top {c y n : Int} (hc : c = 0 ∨ c = 1) (h1 : first c y ≤ n) (h2 : n ≤ 1200000) : y ≤ 3300 := by
 rcases hc with rfl | rfl
 · rw [first_jul] at h1; omega
 · rw [first_gre] at h1; omega
theorem year_mean {c n q : Int} (hc : c = 0 ∨ c = 1) (h2 : n ≤ 1200000) (hq : q = (n * 400).tdiv 146097) (h1 : 1 ≤ q) : first c q ≤ n := by
 have hn : 0 ≤ n := by
  by_cases hn : 0 ≤ n
  · exact hn
  · have e := Int.neg_tdiv (n * 400) 146097
    have e2 : (-(n * 400)).tdiv 146097 = -(n * 400) / 146097 := Int.tdiv_eq_ediv_of_nonneg (by omega)
    omega
 have e : (n * 400).tdiv 146097 = n * 400 / 146097 := Int.tdiv_eq_ediv_of_nonneg (by omega)
 rw [e] at hq
 rcases hc with rfl | rfl
 · rw [first_jul]; omega
 · rw [first_gre]; omega
set_option maxHeartbeats 400000 in
theorem specYear (c n : Int) (w : World) (hc : c = 0 ∨ c = 1) (h1 : -1000 ≤ n) (h2 : n ≤ 1200000) : Calls Tryz.prog 112 #[.int .i64 c, .int .i64 n] w fun e w' => e = .returned (.int .i64 (yearOf c n)) ∧ w' = w ∧ first c (yearOf c n) ≤ n ∧ n < first c (yearOf c n + 1) ∧ -5 ≤ yearOf c n ∧ yearOf c n ≤ 3300 := by
 have HL := hideP (year_low hc h1 h2)
 have HC := hideP hc
 have KD : ∀ W, Calls Tryz.prog 158 #[.int .i64 n, .int .i64 366] W fun e w' => e = .returned (.int .i64 (n / 366)) ∧ w' = W := fun W => by rw [← floorDiv_small (by omega) (by omega) (by omega)]; exact specFloorDiv _ _ W
 obtain ⟨R, hR⟩ : ∃ R, R = yearOf c n := ⟨_, rfl⟩
 rw [← hR]
 have HR := hideP hR
 clear hR hc
 generalize n / 366 = q at *
 go_enter Tryz.func112, Tryz.ntmps112
 go_wp2_with (go_at_call 158; refine (KD _).mono ?_; rintro e w1 ⟨rfl, rfl⟩)
 rename_i w
 go_loop [5] (fun v => ∃ y : Int, v = .int .i64 y ∧ Hid (first c y ≤ n) ∧ -5 ≤ y ∧ y ≤ 3300) (fun v => (4000 - intOf v).toNat)
 case atStart => exact ⟨q, rfl, HL.out.1, HL.out.2.1, HL.out.2.2⟩
 case round =>
  obtain ⟨y, rfl, HY, y1, y2⟩ := hrel
  have KF : ∀ W, Calls Tryz.prog 113 #[.int .i64 c, .int .i64 (y + 1)] W fun e w' => e = .returned (.int .i64 (first c (y + 1))) ∧ w' = W := fun W => specFirst c (y + 1) W HC.out (by omega) (by omega)
  by_cases h : first c (y + 1) ≤ n
  · have ht := year_top HC.out h h2
    have HN := hideP h
    obtain ⟨F, eF⟩ : ∃ F, first c (y + 1) = F := ⟨_, rfl⟩
    rw [eF] at KF h
    clear eF
    go_wp2_with (go_at_call 113; refine (KF _).mono ?_; rintro e w1 ⟨rfl, rfl⟩)
    exact ⟨⟨y + 1, by go_num, HN, by omega, by omega⟩, by simp [intOf]; omega⟩
  · have HE : Hid (R = y) := by unfold Hid; rw [HR.out]; exact yearOf_eq HC.out HY.out (by omega)
    have HF : Hid (n < first c (y + 1)) := by unfold Hid; omega
    have h' : n < first c (y + 1) := by omega
    clear h
    obtain ⟨F, eF⟩ : ∃ F, first c (y + 1) = F := ⟨_, rfl⟩
    rw [eF] at KF h'
    clear eF
    go_wp2_with (go_at_call 113; refine (KF _).mono ?_; rintro e w1 ⟨rfl, rfl⟩)
    go_ret
    obtain rfl : R = y := HE.out
    exact ⟨rfl, rfl, HY.out, HF.out, y1, y2⟩
set_option maxHeartbeats 400000 in
theorem implYear (c n : Int) (w : World) (hc : c = 0 ∨ c = 1) (h1 : first c 1 ≤ n) (h2 : n ≤ 1200000) : Calls Tryz.prog 179 #[.iface (calT c) (.agg #[]), .int .i64 n] w fun e w' => e = .returned (.int .i64 (yearOf c n)) ∧ w' = w := by
 have hl : -1000 ≤ n := by
  rcases hc with rfl | rfl
  · rw [first_jul] at h1; omega
  · rw [first_gre] at h1; omega
 have HC := hideP hc
 have H1 := hideP h1
 obtain ⟨R, hR⟩ : ∃ R, R = yearOf c n := ⟨_, rfl⟩
 rw [← hR]
 have HR := hideP hR
 have KE : ∀ y : Int, Hid (-6 ≤ y ∧ y ≤ 3900) → ∀ W, Calls Tryz.prog 178 #[.iface (calT c) (.agg #[]), .int .i64 (y + 1)] W fun e w' => e = .returned (.int .i64 (first c (y + 1) - 1)) ∧ w' = W := fun y hy W => implEve c (y + 1) W HC.out (by have := hy.out; omega) (by have := hy.out; omega)
 obtain ⟨q, hq⟩ : ∃ q, q = (n * 400).tdiv 146097 := ⟨_, rfl⟩
 have HM : Hid (1 ≤ q → first c q ≤ n) := fun h => year_mean HC.out h2 hq h
 have HT : Hid (∀ y, first c y ≤ n → y ≤ 3300) := fun y h => year_top HC.out h h2
 generalize calT c = T at *
 clear hR hc h1
 by_cases hq1 : q < 1
 · go_enter Tryz.func179, Tryz.ntmps179
   go_wp2_with fail
   go_loop [5] (fun v => ∃ y : Int, v = .int .i64 y ∧ Hid (first c y ≤ n) ∧ 1 ≤ y ∧ y ≤ 3300) (fun v => (4000 - intOf v).toNat)
   case atStart => exact ⟨1, rfl, H1, by omega, by omega⟩
   case round =>
    obtain ⟨y, rfl, HY, y1, y2⟩ := hrel
    have KF := KE y (by unfold Hid; omega)
    by_cases h : first c (y + 1) ≤ n
    · have ht := HT.out _ h
      have HN := hideP h
      have b1 := first_bound HC.out (show -5 ≤ y + 1 by omega) (show y + 1 ≤ 4000 by omega)
      obtain ⟨F, eF⟩ : ∃ F, first c (y + 1) = F := ⟨_, rfl⟩
      rw [eF] at KF h b1
      clear eF
      go_wp2_with (go_at_call 178; refine (KF _).mono ?_; rintro e w1 ⟨rfl, rfl⟩)
      exact ⟨⟨y + 1, by go_num, HN, by omega, by omega⟩, by simp [intOf]; omega⟩
    · have HE : Hid (R = y) := by unfold Hid; rw [HR.out]; exact yearOf_eq HC.out HY.out (by omega)
      have b1 := first_bound HC.out (show -5 ≤ y + 1 by omega) (show y + 1 ≤ 4000 by omega)
      obtain ⟨F, eF⟩ : ∃ F, first c (y + 1) = F := ⟨_, rfl⟩
      rw [eF] at KF h b1
      clear eF
      go_wp2_with (go_at_call 178; refine (KF _).mono ?_; rintro e w1 ⟨rfl, rfl⟩)
      go_ret
      exact ⟨ret_int HE.out.symm, rfl⟩
 · have hb : 1 ≤ q ∧ q ≤ 3300 := ⟨by omega, HT.out _ (HM.out (by omega))⟩
   go_enter Tryz.func179, Tryz.ntmps179
   go_wp2_with fail
   go_loop [5] (fun v => ∃ y : Int, v = .int .i64 y ∧ Hid (first c y ≤ n) ∧ 1 ≤ y ∧ y ≤ 3300) (fun v => (4000 - intOf v).toNat)
   case atStart => exact ⟨q, by rw [hq], HM.out hb.1, hb.1, hb.2⟩
   case round =>
    obtain ⟨y, rfl, HY, y1, y2⟩ := hrel
    have KF := KE y (by unfold Hid; omega)
    by_cases h : first c (y + 1) ≤ n
    · have ht := HT.out _ h
      have HN := hideP h
      have b1 := first_bound HC.out (show -5 ≤ y + 1 by omega) (show y + 1 ≤ 4000 by omega)
      obtain ⟨F, eF⟩ : ∃ F, first c (y + 1) = F := ⟨_, rfl⟩
      rw [eF] at KF h b1
      clear eF
      go_wp2_with (go_at_call 178; refine (KF _).mono ?_; rintro e w1 ⟨rfl, rfl⟩)
      exact ⟨⟨y + 1, by go_num, HN, by omega, by omega⟩, by simp [intOf]; omega⟩
    · have HE : Hid (R = y) := by unfold Hid; rw [HR.out]; exact yearOf_eq HC.out HY.out (by omega)
      have b1 := first_bound HC.out (show -5 ≤ y + 1 by omega) (show y + 1 ≤ 4000 by omega)
      obtain ⟨F, eF⟩ : ∃ F, first c (y + 1) = F := ⟨_, rfl⟩
      rw [eF] at KF h b1
      clear eF
      go_wp2_with (go_at_call 178; refine (KF _).mono ?_; rintro e w1 ⟨rfl, rfl⟩)
      go_ret
      exact ⟨ret_int HE.out.symm, rfl⟩
abbrev z4 : Array Value := #[.int .i64 0, .int .i64 0, .int .i64 0, .int .i64 0]
theorem dateOf_no {c n : Int} (h : ¬ ((c = 0 ∨ c = 1) ∧ 1 ≤ yearOf c n ∧ yearOf c n ≤ 3000 ∧ -1000 ≤ n ∧ n ≤ 1200000)) : dateOf c n = (0, 0, 0, 0, false) := by unfold dateOf; rw [if_neg h]
theorem dateOf_yes {c n y : Int} {k : Nat} (hc : c = 0 ∨ c = 1) (h1 : -1000 ≤ n) (h2 : n ≤ 1200000) (hy : yearOf c n = y) (hk : monthOf c y (n - first c y) = k) (y1 : 1 ≤ y) (y2 : y ≤ 3000) : dateOf c n = (c, y, (k : Int) + 1, n - first c y - before c y k + 1, true) := by
 unfold dateOf
 rw [hy, hk, if_pos ⟨hc, y1, y2, h1, h2⟩]
noncomputable def dateR (c n : Int) : Value := .tuple #[.agg #[.int .i64 (dateOf c n).1, .int .i64 (dateOf c n).2.1, .int .i64 (dateOf c n).2.2.1, .int .i64 (dateOf c n).2.2.2.1], .bool (dateOf c n).2.2.2.2]
theorem dateR_no {c n : Int} (h : dateOf c n = (0, 0, 0, 0, false)) : dateR c n = .tuple #[.agg z4, .bool false] := by unfold dateR; rw [h]
theorem dateR_yes {c n y m d : Int} (h : dateOf c n = (c, y, m, d, true)) : dateR c n = .tuple #[.agg #[.int .i64 c, .int .i64 y, .int .i64 m, .int .i64 d], .bool true] := by unfold dateR; rw [h]
set_option maxHeartbeats 1000000 in
theorem specDateOf (c n : Int) (w : World) : CR 64 #[.int .i64 c, .int .i64 n] w (dateR c n) := by
 by_cases hc : c = 0 ∨ c = 1
 case neg =>
  rw [dateR_no (dateOf_no (fun h => hc h.1))]
  have KC := fun W => specCal c W
  rw [calB_no hc] at KC
  clear hc
  go_enter Tryz.func64, Tryz.ntmps64
  go_wp2_with (go_at_call 111; refine (KC _).mono ?_; rintro e w1 ⟨rfl, rfl⟩)
  go_returns
  refine ⟨rfl, ?_⟩
  go_grown
 have KC := fun W => specCal c W
 rw [calB_iff.2 hc] at KC
 have KI := fun W => l01In n (-1000) 1200000 W
 by_cases hn : -1000 ≤ n ∧ n ≤ 1200000
 case neg =>
  rw [dateR_no (dateOf_no (fun h => hn h.2.2.2))]
  rw [inB_false (by omega)] at KI
  clear hc hn
  go_enter Tryz.func64, Tryz.ntmps64
  go_wp2_with (first | (go_at_call 111; refine (KC _).mono ?_; rintro e w1 ⟨rfl, rfl⟩) | (go_at_call 45; refine (KI _).mono ?_; rintro e w1 ⟨rfl, rfl⟩))
  go_returns
  refine ⟨rfl, ?_⟩
  go_grown
 obtain ⟨h1, h2⟩ := hn
 rw [inB_true h1 h2] at KI
 have KY := fun W => specYear c n W hc h1 h2
 obtain ⟨y, hy⟩ : ∃ y, yearOf c n = y := ⟨_, rfl⟩
 rw [hy] at KY
 have KF := fun a b W => specFirst c y W hc a b
 obtain ⟨F, hF⟩ : ∃ F, first c y = F := ⟨_, rfl⟩
 have hs := first_step hc y
 rw [hF] at KF hs
 obtain ⟨V, hV⟩ : ∃ V, dateR c n = V := ⟨_, rfl⟩
 rw [hV]
 have HH : Hid ((c = 0 ∨ c = 1) ∧ yearOf c n = y ∧ first c y = F ∧ first c (y + 1) = F + before c y 12 ∧ dateR c n = V) := ⟨hc, hy, hF, hs, hV⟩
 have hb0 := fun (hh : -5 ≤ y) (hh2 : y ≤ 3300) => first_bound hc hh (show y ≤ 4000 by omega)
 rw [hF] at hb0
 clear hc hy hF hs hV
 go_enter Tryz.func64, Tryz.ntmps64
 go_wp2_with (first | (go_at_call 111; refine (KC _).mono ?_; rintro e w1 ⟨rfl, rfl⟩) | (go_at_call 45; refine (KI _).mono ?_; rintro e w1 ⟨rfl, rfl⟩) | (go_at_call 112; refine (KY _).mono ?_; rintro e w1 ⟨rfl, rfl, q1, q2, q3, q4⟩; have b0 := hb0 q3 q4; rw [HH.out.2.2.1] at q1; rw [HH.out.2.2.2.1] at q2; have Q2 := hideP q2; clear q2) | (go_at_call 113; refine (KF (by omega) (by omega) _).mono ?_; rintro e w1 ⟨rfl, rfl⟩))
 go_loopw [7] (fun v wr => ∃ k : Nat, k < 12 ∧ v = .int .i64 (n - F - before c y k) ∧ before c y k ≤ n - F ∧ Below w.heap.size w wr ∧ Blk wr w.heap.size z4 99 ∧ Blk wr (w.heap.size + 1) #[.int .i64 c, .int .i64 y, .int .i64 ((k : Int) + 1), .int .i64 0] 99) (fun v _ => (intOf v).toNat)
 case atStart =>
  refine ⟨0, by omega, by simp [before], by simp [before]; omega, ?_, ?_, ?_⟩
  · exact ((Below.refl _ _).alloc (Nat.le_refl _) _).alloc (by rw [World.size_alloc]; omega) _
  · exact (Blk.new w _ _).alloc _
  · have := Blk.new (w.alloc (.cells z4 99)) #[.int .i64 c, .int .i64 y, .int .i64 (((0 : Nat) : Int) + 1), .int .i64 0] 99
    rw [World.size_alloc] at this
    exact this
 case round =>
  obtain ⟨k, hk, rfl, hle, hb, hz, hd⟩ := hrel
  have c1 : ∀ x : Later wr, x.w.cell? ⟨w.heap.size + 1, 1, none⟩ = some (.int .i64 y) := fun x => (hd.later x).cell 1 rfl
  have c2 : ∀ x : Later wr, x.w.cell? ⟨w.heap.size + 1, 2, none⟩ = some (.int .i64 ((k : Int) + 1)) := fun x => (hd.later x).cell 2 rfl
  have c0 : ∀ x : Later wr, x.w.cell? ⟨w.heap.size + 1, 0, none⟩ = some (.int .i64 c) := fun x => (hd.later x).cell 0 rfl
  have c3 : ∀ x : Later wr, x.w.cell? ⟨w.heap.size + 1, 3, none⟩ = some (.int .i64 0) := fun x => (hd.later x).cell 3 rfl
  have f3 : ∀ x : Later wr, x.w.frozen? ⟨w.heap.size + 1, 3, none⟩ = false := fun x => (hd.later x).thaw 3
  have c10 := hd.cell 1 rfl
  have c20 := hd.cell 2 rfl
  have f2 : ∀ x : Later wr, x.w.frozen? ⟨w.heap.size + 1, 2, none⟩ = false := fun x => (hd.later x).thaw 2
  have KM : ∀ W, CR 114 #[.int .i64 c, .int .i64 y, .int .i64 ((k : Int) + 1)] W (.int .i64 (monthDays c y ((k : Int) + 1))) := specMonthDays c y _
  have b1 := before_bound c y k
  have b2 := monthDays_le c y ((k : Int) + 1)
  have b3 := monthDays_ge (y := y) HH.out.1 (show 1 ≤ (k : Int) + 1 by omega) (show (k : Int) + 1 ≤ 12 by omega)
  have HN := hideP (before_next c y k)
  have HD := hideP hd
  have HZ := hideP hz
  have HB := hideP hb
  clear hd hz hb
  obtain ⟨md, em⟩ : ∃ md, monthDays c y ((k : Int) + 1) = md := ⟨_, rfl⟩
  rw [em] at KM b2 b3 HN
  have HE := hideP em
  clear em
  obtain ⟨B, eB⟩ : ∃ B, before c y k = B := ⟨_, rfl⟩
  have HBk := hideP eB
  rw [eB] at HN b1 hle
  rw [eB]
  clear eB
  by_cases hge : md ≤ n - F - B
  · go_wp2_with fail
    refine (KM _).mono ?_
    rintro e w1 ⟨rfl, hb1⟩
    obtain ⟨x1, rfl⟩ := Later.of hb1
    clear hb1
    go_wp2_with fail
    refine (KM _).mono ?_
    rintro e w1 ⟨rfl, hb1⟩
    obtain ⟨x2, rfl⟩ := x1.next hb1
    clear hb1
    go_wp2_with fail
    refine ⟨⟨k + 1, ?_, ?_, ?_, below_store (HB.out.trans (x2.below.mono HB.out.size)) _ (by omega), ((HZ.out.later x2).other (by omega)), ?_⟩, ?_⟩
    · by_cases hq : k + 1 < 12
      · exact hq
      · obtain rfl : k = 11 := by omega
        have := HN.out
        have := Q2.out
        simp only [Nat.reduceAdd] at *
        omega
    · exact congrArg (Value.int .i64) (by rw [HN.out]; omega)
    · rw [HN.out]; omega
    · rw [show ((k + 1 : Nat) : Int) + 1 = (k : Int) + 1 + 1 by omega]
      exact (HD.out.later x2).set 2 _
    · simp [intOf]; omega
  · go_wp2_with fail
    refine (KM _).mono ?_
    rintro e w1 ⟨rfl, hb1⟩
    obtain ⟨x1, rfl⟩ := Later.of hb1
    clear hb1
    go_wp2_with fail
    obtain ⟨W3, e3⟩ : ∃ W3, W3 = x1.w.setCell ⟨w.heap.size + 1, 3, none⟩ (.int .i64 (n - F - B + 1)) := ⟨_, rfl⟩
    have D3 : Blk W3 (w.heap.size + 1) #[.int .i64 c, .int .i64 y, .int .i64 ((k : Int) + 1), .int .i64 (n - F - B + 1)] 99 := by rw [e3]; exact (HD.out.later x1).set 3 _
    have Z3 : Blk W3 w.heap.size z4 99 := by rw [e3]; exact (HZ.out.later x1).other (by omega)
    have B3 : Below w.heap.size w W3 := by rw [e3]; exact below_store (HB.out.trans (x1.below.mono HB.out.size)) _ (by omega)
    rw [← e3]
    have HB3 := hideP B3
    have HZ3 := hideP Z3
    clear e3 c0 c1 c2 c3 c10 c20 f2 f3
    obtain ⟨c0, c1, c2, c3⟩ := cells4 D3.later
    have g0 : ∀ x : Later W3, x.w.cell? ⟨w.heap.size, 0, none⟩ = some (.int .i64 0) := fun x => (Z3.later x).cell 0 rfl
    have f0 : ∀ x : Later W3, x.w.frozen? ⟨w.heap.size, 0, none⟩ = false := fun x => (Z3.later x).thaw 0
    have g1 : ∀ x : Later W3, x.w.cell? ⟨w.heap.size, 1, none⟩ = some (.int .i64 0) := fun x => (Z3.later x).cell 1 rfl
    have f1 : ∀ x : Later W3, x.w.frozen? ⟨w.heap.size, 1, none⟩ = false := fun x => (Z3.later x).thaw 1
    have g2 : ∀ x : Later W3, x.w.cell? ⟨w.heap.size, 2, none⟩ = some (.int .i64 0) := fun x => (Z3.later x).cell 2 rfl
    have f2 : ∀ x : Later W3, x.w.frozen? ⟨w.heap.size, 2, none⟩ = false := fun x => (Z3.later x).thaw 2
    have g3 : ∀ x : Later W3, x.w.cell? ⟨w.heap.size, 3, none⟩ = some (.int .i64 0) := fun x => (Z3.later x).cell 3 rfl
    have f3 : ∀ x : Later W3, x.w.frozen? ⟨w.heap.size, 3, none⟩ = false := fun x => (Z3.later x).thaw 3
    have hmon : monthOf c y (n - first c y) = k := by rw [HH.out.2.2.1]; exact monthOf_eq (by rw [HBk.out]; exact hle) (by rw [HN.out]; omega)
    have K0 := specDateOk c y ((k : Int) + 1) (n - F - B + 1) W3
    by_cases hyr : 1 ≤ y ∧ y ≤ 3000
    · have hp : dateP c y ((k : Int) + 1) (n - F - B + 1) := ⟨HH.out.1, hyr.1, hyr.2, by omega, by rw [HE.out]; omega⟩
      rw [dateOk_true hp] at K0
      have eV := dateR_yes (dateOf_yes HH.out.1 h1 h2 HH.out.2.1 hmon hyr.1 hyr.2)
      rw [HH.out.2.2.1, HBk.out, HH.out.2.2.2.2] at eV
      have HV := hideP eV
      clear eV hp hmon hyr D3 Z3 B3
      refine K0.mono ?_
      rintro e w1 ⟨rfl, hb1⟩
      obtain ⟨x4, rfl⟩ := Later.of hb1
      clear hb1 K0
      go_wp2_with fail
      obtain ⟨W5, e5⟩ : ∃ W5, W5 = ((((x4.w.setCell ⟨w.heap.size, 0, none⟩ (.int .i64 c)).setCell ⟨w.heap.size, 1, none⟩ (.int .i64 y)).setCell ⟨w.heap.size, 2, none⟩ (.int .i64 ((k : Int) + 1))).setCell ⟨w.heap.size, 3, none⟩ (.int .i64 (n - F - B + 1))) := ⟨_, rfl⟩
      have Z5 : Blk W5 w.heap.size #[.int .i64 c, .int .i64 y, .int .i64 ((k : Int) + 1), .int .i64 (n - F - B + 1)] 99 := by rw [e5]; exact ((((HZ3.out.later x4).set 0 _).set 1 _).set 2 _).set 3 _
      have B5 : Below w.heap.size w W5 := by
       rw [e5]
       have hw := HB3.out.trans (x4.below.mono HB3.out.size)
       exact below_store (below_store (below_store (below_store hw _ (Nat.le_refl _)) _ (Nat.le_refl _)) _ (Nat.le_refl _)) _ (Nat.le_refl _)
      rw [← e5]
      clear e5
      have r0 : W5.cell? ⟨w.heap.size, 0, none⟩ = some (.int .i64 c) := Z5.cell 0 rfl
      have r1 : W5.cell? ⟨w.heap.size, 1, none⟩ = some (.int .i64 y) := Z5.cell 1 rfl
      have r2 : W5.cell? ⟨w.heap.size, 2, none⟩ = some (.int .i64 ((k : Int) + 1)) := Z5.cell 2 rfl
      have r3 : W5.cell? ⟨w.heap.size, 3, none⟩ = some (.int .i64 (n - F - B + 1)) := Z5.cell 3 rfl
      refine bodyPost_ret (by simp [results, Tryz.results64, go_sem, r0, r1, r2, r3]; try rfl) rfl ?_
      exact ⟨by rw [HV.out], B5⟩
    · have hp : ¬ dateP c y ((k : Int) + 1) (n - F - B + 1) := fun h => hyr ⟨h.2.1, h.2.2.1⟩
      rw [dateOk_false hp] at K0
      have eV : V = .tuple #[.agg z4, .bool false] := by rw [← HH.out.2.2.2.2]; exact dateR_no (dateOf_no (fun h => hyr ⟨HH.out.2.1 ▸ h.2.1, HH.out.2.1 ▸ h.2.2.1⟩))
      have HV := hideP eV
      clear eV hp hmon hyr D3 Z3 B3
      refine K0.mono ?_
      rintro e w1 ⟨rfl, hb1⟩
      obtain ⟨x4, rfl⟩ := Later.of hb1
      clear hb1 K0
      go_wp2_with fail
      obtain ⟨W5, e5⟩ : ∃ W5, W5 = ((((x4.w.setCell ⟨w.heap.size, 0, none⟩ (.int .i64 0)).setCell ⟨w.heap.size, 1, none⟩ (.int .i64 0)).setCell ⟨w.heap.size, 2, none⟩ (.int .i64 0)).setCell ⟨w.heap.size, 3, none⟩ (.int .i64 0)) := ⟨_, rfl⟩
      have Z5 : Blk W5 w.heap.size #[.int .i64 0, .int .i64 0, .int .i64 0, .int .i64 0] 99 := by rw [e5]; exact ((((HZ3.out.later x4).set 0 _).set 1 _).set 2 _).set 3 _
      have B5 : Below w.heap.size w W5 := by
       rw [e5]
       have hw := HB3.out.trans (x4.below.mono HB3.out.size)
       exact below_store (below_store (below_store (below_store hw _ (Nat.le_refl _)) _ (Nat.le_refl _)) _ (Nat.le_refl _)) _ (Nat.le_refl _)
      rw [← e5]
      clear e5
      have r0 : W5.cell? ⟨w.heap.size, 0, none⟩ = some (.int .i64 0) := Z5.cell 0 rfl
      have r1 : W5.cell? ⟨w.heap.size, 1, none⟩ = some (.int .i64 0) := Z5.cell 1 rfl
      have r2 : W5.cell? ⟨w.heap.size, 2, none⟩ = some (.int .i64 0) := Z5.cell 2 rfl
      have r3 : W5.cell? ⟨w.heap.size, 3, none⟩ = some (.int .i64 0) := Z5.cell 3 rfl
      refine bodyPost_ret (by simp [results, Tryz.results64, go_sem, r0, r1, r2, r3]; try rfl) rfl ?_
      exact ⟨by rw [HV.out], B5⟩
structure Rdg where
 cal : Int
 year : Int
 sol : Int
 mon : Int
 day : Int
deriving DecidableEq
abbrev rdgV (x : Rdg) : Value := .agg #[.int .i64 x.cal, .int .i64 x.year, .int .i64 x.sol, .int .i64 x.mon, .int .i64 x.day]
def plainR (c : Int) (x : Rdg) : Value := if dateOk c x.sol x.mon x.day = true then .tuple #[.agg #[.int .i64 c, .int .i64 x.sol, .int .i64 x.mon, .int .i64 x.day], .bool true] else .tuple #[.agg #[.int .i64 0, .int .i64 0, .int .i64 0, .int .i64 0], .bool false]
theorem box3 (w : World) (o : Obj) (u v : Array Value) (t s : TypeId) : ∃ W0, W0 = ((w.alloc o).alloc (.cells u t)).alloc (.cells v s) ∧ Hid (∀ x : Later W0, Blk x.w (w.heap.size + 1) u t) ∧ Hid (∀ x : Later W0, Blk x.w (w.heap.size + 2) v s) ∧ Hid (∀ x : Later W0, Below w.heap.size w x.w) := by
 refine ⟨_, rfl, fun x => ?_, fun x => ?_, fun x => ?_⟩
 · have h := Blk.new (w.alloc o) u t
   rw [World.size_alloc] at h
   exact (h.alloc _).later x
 · have h := Blk.new ((w.alloc o).alloc (.cells u t)) v s
   rw [World.size_alloc, World.size_alloc] at h
   exact h.later x
 · exact below_alloc (below_alloc (below_alloc x.below))
theorem box2 (w : World) (o : Obj) (u : Array Value) (t : TypeId) : ∃ W0, W0 = (w.alloc o).alloc (.cells u t) ∧ Hid (∀ x : Later W0, Blk x.w (w.heap.size + 1) u t) ∧ Hid (∀ x : Later W0, Below w.heap.size w x.w) := by
 refine ⟨_, rfl, fun x => ?_, fun x => ?_⟩
 · have h := Blk.new (w.alloc o) u t
   rw [World.size_alloc] at h
   exact h.later x
 · exact below_alloc (below_alloc x.below)
set_option maxHeartbeats 1000000 in
theorem implSolarDate (c : Int) (x : Rdg) (w : World) (hT : Tab w) : CR 162 #[.int .i64 c, rdgV x] w (plainR c x) := by
 obtain ⟨W0, hW0, H1, H2, HB⟩ := box3 w (.cells #[.int .i64 x.cal, .int .i64 x.year, .int .i64 x.sol, .int .i64 x.mon, .int .i64 x.day] 69) #[.int .i64 0, .int .i64 0, .int .i64 0, .int .i64 0] #[.int .i64 (c), .int .i64 x.sol, .int .i64 x.mon, .int .i64 x.day] 99 99
 have HW0 := hideP hW0
 have KO : CR 163 #[.agg #[.int .i64 c, .int .i64 x.sol, .int .i64 x.mon, .int .i64 x.day]] W0 (.bool (dateOk c x.sol x.mon x.day)) := implDateOk c x.sol x.mon x.day W0 (hT.later (HB.out ⟨W0, Below.refl _ _⟩))
 obtain ⟨u0, u1, u2, u3⟩ := cells4 H1.out
 obtain ⟨c0, c1, c2, c3⟩ := cells4 H2.out
 obtain ⟨f0, f1, f2, f3⟩ := thaws4 H1.out
 clear hW0 hT
 unfold plainR
 generalize dateOk c x.sol x.mon x.day = b at *
 cases b
 focus
   rw [if_neg (by simp)]
 rotate_left
 focus
   rw [if_pos rfl]
 rotate_left
 all_goals
  go_enter Tryz.func162, Tryz.ntmps162
  go_wp2_with fail
  rw [← HW0.out]
  refine latO KO fun x1 => ?_
  go_wp2
  exact ret4 (H1.out x1) (HB.out x1) (by omega) rfl (fun _ q0 q1 q2 q3 B9 => ⟨by simp [results, Tryz.results162, go_sem, q0, q1, q2, q3]; try rfl, rfl, B9⟩)
set_option maxHeartbeats 1000000 in
theorem implPlain (x : Rdg) (w : World) (hT : Tab w) : CR 128 #[rdgV x] w (plainR x.cal x) := by
 obtain ⟨W0, hW0, H1, HB⟩ := box2 w (.cells #[.int .i64 x.cal, .int .i64 x.year, .int .i64 x.sol, .int .i64 x.mon, .int .i64 x.day] 69) #[.int .i64 0, .int .i64 0, .int .i64 0, .int .i64 0] 99
 have HW0 := hideP hW0
 have KO : CR 162 #[.int .i64 x.cal, rdgV x] W0 (plainR x.cal x) := implSolarDate x.cal x W0 (hT.later (HB.out ⟨W0, Below.refl _ _⟩))
 obtain ⟨a, b, m, d, ok, h⟩ : ∃ a b m d ok, plainR x.cal x = .tuple #[.agg #[.int .i64 a, .int .i64 b, .int .i64 m, .int .i64 d], .bool ok] := by
  unfold plainR
  split
  · exact ⟨_, _, _, _, _, rfl⟩
  · exact ⟨_, _, _, _, _, rfl⟩
 rw [h] at KO ⊢
 obtain ⟨u0, u1, u2, u3⟩ := cells4 H1.out
 obtain ⟨f0, f1, f2, f3⟩ := thaws4 H1.out
 clear hW0 hT h
 go_enter Tryz.func128, Tryz.ntmps128
 go_wp2_with fail
 rw [← HW0.out]
 refine latO KO fun x1 => ?_
 go_wp2
 exact ret4 (H1.out x1) (HB.out x1) (by omega) rfl (fun _ q0 q1 q2 q3 B9 => ⟨by simp [results, Tryz.results128, go_sem, q0, q1, q2, q3]; try rfl, rfl, B9⟩)
theorem wp_scope_fwd {P : Program} {Q : Exit → Act → World → Prop} {a : Act} {w : World} {c rest : Code} (l : Nat) (hf : findLabel c l = some rest) (first : c.wp P (Exit.jump l (fun a w => rest.wp P (Exit.noGoto Q) a w) Q) a w) : (Code.scope c).wp P Q a w :=
 wp_scope_jumps l (fun a w => rest.wp P (Exit.noGoto Q) a w) (fun _ _ => 0) hf first fun a w h => wp_mono h fun e a w hq => by
  cases e with
  | goto l' => exact hq.elim
  | normal => exact hq
  | exit id => exact hq
  | ret => exact hq
  | panic ch => exact hq
  | outgrown => exact hq
theorem jump_ret {l : Nat} {J : Act → World → Prop} {Q : Exit → Act → World → Prop} {a : Act} {w : World} (h : Q .ret a w) : Exit.jump l J Q .ret a w := h
abbrev romV (r : Rom) : Value := .agg #[.int .i64 r.count, .int .i64 r.mark, .int .i64 r.month, .bool r.twice]
abbrev romZ : Array Value := #[.int .i64 0, .int .i64 0, .int .i64 0, .bool false]
abbrev romO (a b c : Int) (t : Bool) : Obj := .cells #[.int .i64 a, .int .i64 b, .int .i64 c, .bool t] 29
theorem date_box (w : World) (c y m d : Int) : ∃ W0, W0 = w.alloc (dateO c y m d) ∧ (∀ x : Later W0, x.w.cell? ⟨w.heap.size, 0, none⟩ = some (.int .i64 c)) ∧ (∀ x : Later W0, x.w.cell? ⟨w.heap.size, 1, none⟩ = some (.int .i64 y)) ∧ (∀ x : Later W0, x.w.cell? ⟨w.heap.size, 2, none⟩ = some (.int .i64 m)) ∧ (∀ x : Later W0, x.w.cell? ⟨w.heap.size, 3, none⟩ = some (.int .i64 d)) ∧ (∀ x : Later W0, Below w.heap.size w x.w) :=
 ⟨_, rfl, Later.new rfl 0 rfl, Later.new rfl 1 rfl, Later.new rfl 2 rfl, Later.new rfl 3 rfl, fun x => below_of_alloc rfl x.below⟩
theorem rom_box (w : World) (a b c : Int) (t : Bool) : ∃ W0, W0 = w.alloc (romO a b c t) ∧ (∀ x : Later W0, x.w.cell? ⟨w.heap.size, 0, none⟩ = some (.int .i64 a)) ∧ (∀ x : Later W0, x.w.cell? ⟨w.heap.size, 1, none⟩ = some (.int .i64 b)) ∧ (∀ x : Later W0, x.w.cell? ⟨w.heap.size, 2, none⟩ = some (.int .i64 c)) ∧ (∀ x : Later W0, x.w.cell? ⟨w.heap.size, 3, none⟩ = some (.bool t)) ∧ (∀ x : Later W0, Below w.heap.size w x.w) :=
 ⟨_, rfl, Later.new rfl 0 rfl, Later.new rfl 1 rfl, Later.new rfl 2 rfl, Later.new rfl 3 rfl, fun x => below_of_alloc rfl x.below⟩
theorem box_size (W : World) (o : Obj) : (W.alloc o).heap.size = W.heap.size + 1 := by simp [World.alloc, -World.alloc_eq]
theorem two_box (w : World) (us vs : Array Value) (s t : TypeId) : ∃ W0, W0 = (w.alloc (.cells us s)).alloc (.cells vs t) ∧ (∀ x : Later W0, Blk x.w w.heap.size us s) ∧ (∀ x : Later W0, Blk x.w (w.heap.size + 1) vs t) ∧ (∀ x : Later W0, Below w.heap.size w x.w) := by
 refine ⟨_, rfl, fun x => ((Blk.new w us s).alloc _).later x, fun x => ?_, fun x => ?_⟩
 · have h := Blk.new (w.alloc (.cells us s)) vs t
   rw [box_size] at h
   exact h.later x
 · exact below_alloc (below_alloc x.below)
def put4 (W : World) (b : Nat) (v0 v1 v2 v3 : Value) : World := (((W.setCell ⟨b, 0, none⟩ v0).setCell ⟨b, 1, none⟩ v1).setCell ⟨b, 2, none⟩ v2).setCell ⟨b, 3, none⟩ v3
theorem put4_blk {W : World} {b : Nat} {u0 u1 u2 u3 v0 v1 v2 v3 : Value} {t : TypeId} (h : Blk W b #[u0, u1, u2, u3] t) : Blk (put4 W b v0 v1 v2 v3) b #[v0, v1, v2, v3] t := (((h.set 0 v0).set 1 v1).set 2 v2).set 3 v3
theorem put4_below {w W : World} {n b : Nat} {v0 v1 v2 v3 : Value} (h : Below n w W) (hb : n ≤ b) : Below n w (put4 W b v0 v1 v2 v3) := (((h.setCell (p := ⟨b, 0, none⟩) hb v0).setCell (p := ⟨b, 1, none⟩) hb v1).setCell (p := ⟨b, 2, none⟩) hb v2).setCell (p := ⟨b, 3, none⟩) hb v3
theorem put4_eq (W : World) (b : Nat) (v0 v1 v2 v3 : Value) : (((W.setCell ⟨b, 0, none⟩ v0).setCell ⟨b, 1, none⟩ v1).setCell ⟨b, 2, none⟩ v2).setCell ⟨b, 3, none⟩ v3 = put4 W b v0 v1 v2 v3 := rfl
set_option maxHeartbeats 1000000 in
theorem implIsTwice (c y m d : Int) (w : World) : CR 167 #[.agg #[.int .i64 c, .int .i64 y, .int .i64 m, .int .i64 d]] w (.bool (decide (m = 2 ∧ d = 24 ∧ leapP c y))) := by
 obtain ⟨W0, hW0, c0, c1, c2, c3, hBl⟩ := date_box w c y m d
 have HW0 := hideP hW0
 have HBl := hideP hBl
 obtain ⟨x0, hx0⟩ := Later.of (Below.refl W0.heap.size W0)
 have KL : ∀ W, CR 211 #[.int .i64 c, .int .i64 y] W (.bool (leapB c y)) := implLeap c y
 have k0 := c0 x0
 have k1 := c1 x0
 have k2 := c2 x0
 have k3 := c3 x0
 have HX0 := hideP hx0
 rw [← hx0] at k0 k1 k2 k3
 clear hW0 hBl hx0 c0 c1 c2 c3
 by_cases h1 : m = 2
 case neg =>
  have hm : (m == 2) = false := by simp [h1]
  rw [show decide (m = 2 ∧ d = 24 ∧ leapP c y) = false from by simp [h1]]
  clear KL
  go_enter Tryz.func167, Tryz.ntmps167
  go_wp2_with fail
  rw [← HW0.out]
  go_wp2
  go_ret
  rw [HX0.out]
  exact ⟨rfl, HBl.out x0⟩
 have hm : (m == 2) = true := by simp [h1]
 by_cases h2 : d = 24
 case neg =>
  have hd : (d == 24) = false := by simp [h2]
  rw [show decide (m = 2 ∧ d = 24 ∧ leapP c y) = false from by simp [h2]]
  clear KL h1
  go_enter Tryz.func167, Tryz.ntmps167
  go_wp2_with fail
  rw [← HW0.out]
  go_wp2
  go_ret
  rw [HX0.out]
  exact ⟨rfl, HBl.out x0⟩
 have hd : (d == 24) = true := by simp [h2]
 rw [show decide (m = 2 ∧ d = 24 ∧ leapP c y) = leapB c y from by simp [h1, h2, leapB]]
 clear h1 h2
 generalize leapB c y = lb at *
 go_enter Tryz.func167, Tryz.ntmps167
 go_wp2_with fail
 rw [← HW0.out]
 go_wp2_with fail
 refine latO (KL _) fun x1 => ?_
 go_wp2
 go_ret
 exact ⟨rfl, HBl.out x1⟩
set_option maxHeartbeats 1000000 in
theorem implKalends (c y m d : Int) (w : World) (hT : Tab w) : CR 166 #[.agg #[.int .i64 c, .int .i64 y, .int .i64 m, .int .i64 d]] w (.int .i64 (countDays c y m d + 1)) := by
 obtain ⟨W0, hW0, c0, c1, c2, c3, hBl⟩ := date_box w c y m d
 obtain ⟨x0, hx0⟩ := Later.of (Below.refl W0.heap.size W0)
 have KM : ∀ x : Later W0, CR 180 #[.int .i64 c, .int .i64 y, .int .i64 m] x.w (.int .i64 (monthDays c y m)) := fun x => implMonthDays c y m x.w (hT.later (hBl x))
 have hM := KM x0
 have k0 := c0 x0
 have k1 := c1 x0
 have k2 := c2 x0
 have k3 := c3 x0
 have k4 := tabCell (hT.later (hBl x0)) 1 (by omega)
 rw [show tab12.getD 1 0 = 28 from rfl] at k4
 have hmd := monthDays_le c y m
 have HW0 := hideP hW0
 have HBl := hideP hBl
 have HX0 := hideP hx0
 rw [← hx0] at k0 k1 k2 k3 k4 hM
 clear hW0 hBl hx0 c0 c1 c2 c3 hT KM
 by_cases h1 : m = 2
 · have hm : (m == 2) = true := by simp [h1]
   by_cases h2 : d ≤ 24
   · rw [show countDays c y m d = 28 from by unfold countDays; rw [if_pos ⟨h1, h2⟩]]
     have g2 : decide (d ≤ 24) = true := decide_eq_true h2
     rw [HW0.out] at k4
     clear hM h1 hmd
     go_enter Tryz.func166, Tryz.ntmps166
     go_wp2_with fail
     rw [← HW0.out]
     go_wp2
     go_ret
     rw [HX0.out]
     exact ⟨rfl, HBl.out x0⟩
   · rw [show countDays c y m d = monthDays c y m from by unfold countDays; rw [if_neg (fun h => h2 h.2)]]
     have g2 : decide (d ≤ 24) = false := decide_eq_false h2
     clear h1 k4
     generalize monthDays c y m = md at *
     go_enter Tryz.func166, Tryz.ntmps166
     go_wp2_with fail
     rw [← HW0.out]
     go_wp2_with fail
     refine latO hM fun x1 => ?_
     go_wp2
     go_ret
     exact ⟨rfl, HBl.out x1⟩
 · have hm : (m == 2) = false := by simp [h1]
   rw [show countDays c y m d = monthDays c y m from by unfold countDays; rw [if_neg (fun h => h1 h.1)]]
   clear h1 k4
   generalize monthDays c y m = md at *
   go_enter Tryz.func166, Tryz.ntmps166
   go_wp2_with fail
   rw [← HW0.out]
   go_wp2_with fail
   refine latO hM fun x1 => ?_
   go_wp2
   go_ret
   exact ⟨rfl, HBl.out x1⟩
set_option maxRecDepth 100000 in
set_option maxHeartbeats 4000000 in
theorem implRomanOf (c y m d : Int) (w : World) (hT : Tab w) : CR 129 #[.agg #[.int .i64 c, .int .i64 y, .int .i64 m, .int .i64 d]] w (romV (romanOf c y m d)) := by
 obtain ⟨W0, hW0, hD, hR, hBl⟩ := two_box w #[.int .i64 c, .int .i64 y, .int .i64 m, .int .i64 d] romZ 99 29
 obtain ⟨c0, c1, c2, c3⟩ := cells4 hD
 obtain ⟨r0, r1, r2, r3⟩ := cells4 hR
 obtain ⟨f0, f1, f2, f3⟩ := thaws4 hR
 have KO : ∀ x : Later W0, CR 163 #[.agg #[.int .i64 c, .int .i64 y, .int .i64 m, .int .i64 d]] x.w (.bool (dateOk c y m d)) := fun x => implDateOk c y m d x.w (hT.later (hBl x))
 have KK : ∀ x : Later W0, CR 166 #[.agg #[.int .i64 c, .int .i64 y, .int .i64 m, .int .i64 d]] x.w (.int .i64 (countDays c y m d + 1)) := fun x => implKalends c y m d x.w (hT.later (hBl x))
 have KW : ∀ x : Later W0, CR 167 #[.agg #[.int .i64 c, .int .i64 y, .int .i64 m, .int .i64 d]] x.w (.bool (decide (m = 2 ∧ d = 24 ∧ leapP c y))) := fun x => implIsTwice c y m d x.w
 have HW0 := hideP hW0
 have HBl := hideP hBl
 have HR := hideP hR
 obtain ⟨x0, hx0⟩ := Later.of (Below.refl W0.heap.size W0)
 have HX0 := hideP hx0
 clear hW0 hBl hD hR hT hx0
 by_cases hok : dateP c y m d
 case neg =>
  rw [dateOk_false hok] at KO
  have HV : Hid (romanOf c y m d = ⟨0, 0, 0, false⟩) := by unfold Hid romanOf; rw [if_neg hok]
  rw [HV.out]
  clear HV KK KW hok
  go_enter Tryz.func129, Tryz.ntmps129
  go_wp2_with fail
  rw [← HW0.out, HX0.out]
  refine wp_scope_fwd 0 (by rfl) ?_
  go_wp2_with fail
  refine lat (KO _) fun x1 => ?_
  go_wp2_with fail
  rw [put4_eq]
  have Z := put4_blk (v0 := .int .i64 0) (v1 := .int .i64 0) (v2 := .int .i64 0) (v3 := .bool false) (HR.out x1)
  have z0 := Z.cell 0 rfl
  have z1 := Z.cell 1 rfl
  have z2 := Z.cell 2 rfl
  have z3 := Z.cell 3 rfl
  refine jump_ret ?_
  exact bodyPost_ret (by simp [results, Tryz.results129, go_sem, z0, z1, z2, z3]; try rfl) rfl ⟨rfl, put4_below (HBl.out x1) (by omega)⟩
 rw [dateOk_true hok] at KO
 have hm := dateP_month hok
 have hd := dateP_day hok
 have hm1 := hm.1
 have hm2 := hm.2
 have hd1 := hd.1
 have hd2 := hd.2
 have hmd := monthDays_le c y m
 have hcb : 0 ≤ countDays c y m d ∧ countDays c y m d ≤ 31 := by unfold countDays; split <;> omega
 have HV : Hid (romanOf c y m d = romanIn c y m d) := by unfold Hid romanOf; rw [if_pos hok]
 rw [HV.out]
 have KB : ∀ W, Calls Tryz.prog 165 #[.int .i64 m] W fun e w' => e = .returned (.int .i64 (m % 12 + 1)) ∧ w' = W := fun W => implMonthBehind m W hm1 hm2
 have KD : ∀ k W, Calls Tryz.prog 164 #[.int .i64 m, .int .i64 k] W fun e w' => e = .returned (.int .i64 (markN m k)) ∧ w' = W := fun k W => implMarkDay m k W
 -- what each way answers
 have HA : Hid (∀ k : Nat, k ≤ 2 → d ≤ markN m k → (∀ j : Nat, j < k → markN m j < d) → romanIn c y m d = ⟨markN m k - d + 1, k, m, decide (m = 2 ∧ d = 24 ∧ leapP c y)⟩) := by
  intro k hk h1 h2
  have hn := nones_in hm1 hm2
  have hi := ides_in hm1 hm2
  have hn7 := nones_b m
  have tw : decide (m = 2 ∧ d = 24 ∧ leapP c y) = false := by
   apply decide_eq_false
   rintro ⟨rfl, rfl, _⟩
   have : markN 2 k ≤ 13 := by
    have : k = 0 ∨ k = 1 ∨ k = 2 := by omega
    rcases this with rfl | rfl | rfl <;> decide
   omega
  rw [tw]
  have : k = 0 ∨ k = 1 ∨ k = 2 := by omega
  rcases this with rfl | rfl | rfl
  · have e1 : d = 1 := by have : markN m ((0 : Nat) : Int) = 1 := rfl
                          omega
    subst e1
    rfl
  · have a0 := h2 0 (by omega)
    have b0 : markN m ((0 : Nat) : Int) = 1 := rfl
    have b1 : markN m ((1 : Nat) : Int) = nones m := rfl
    rw [b1] at h1
    unfold romanIn
    rw [if_neg (by omega), if_pos h1, b1]
    rfl
  · have a0 := h2 0 (by omega)
    have a1 := h2 1 (by omega)
    have b0 : markN m ((0 : Nat) : Int) = 1 := rfl
    have b1 : markN m ((1 : Nat) : Int) = nones m := rfl
    have b2 : markN m ((2 : Nat) : Int) = ides m := rfl
    rw [b2] at h1
    unfold romanIn
    rw [if_neg (by omega), if_neg (by omega), if_pos h1, b2]
    rfl
 have HE : Hid ((∀ j : Nat, j < 3 → markN m j < d) → romanIn c y m d = ⟨countDays c y m d + 1 - d + 1, 0, m % 12 + 1, decide (m = 2 ∧ d = 24 ∧ leapP c y)⟩) := by
  intro h2
  have a0 := h2 0 (by omega)
  have a1 := h2 1 (by omega)
  have a2 := h2 2 (by omega)
  have b0 : markN m ((0 : Nat) : Int) = 1 := rfl
  have b1 : markN m ((1 : Nat) : Int) = nones m := rfl
  have b2 : markN m ((2 : Nat) : Int) = ides m := rfl
  unfold romanIn
  rw [if_neg (by omega), if_neg (by omega), if_neg (by omega), show countDays c y m d - d + 2 = countDays c y m d + 1 - d + 1 from by omega]
 clear HV hok hm hd hmd
 generalize decide (m = 2 ∧ d = 24 ∧ leapP c y) = tw at *
 generalize romanIn c y m d = R at *
 generalize countDays c y m d = cd at *
 go_enter Tryz.func129, Tryz.ntmps129
 go_wp2_with fail
 rw [← HW0.out, HX0.out]
 refine wp_scope_fwd 0 (by rfl) ?_
 go_wp2_with fail
 refine lat (KO _) fun x1 => ?_
 go_wp2_with fail
 go_loopw [4, 5] (fun o s wr => ∃ (k : Nat) (z : Int), k ≤ 3 ∧ o = .int .i64 (k : Int) ∧ s = .int .i64 z ∧ wr = x1.w ∧ (∀ j : Nat, j < k → markN m j < d)) (fun o _ _ => 3 - (intOf o).toNat)
 case atStart => exact ⟨0, 0, by omega, rfl, rfl, rfl, by omega⟩
 case round =>
  obtain ⟨k, z, hk, rfl, rfl, hwr, hj⟩ := hrel
  rw [hwr]
  clear hwr
  have HJ := hideP hj
  clear hj
  by_cases hlt : k < 3
  · have hmb := markN_b m k
    have KK1 := KD k
    by_cases hle : d ≤ markN m k
    · have HF := hideP (HA.out k (by omega) hle HJ.out)
      clear HA HE HJ KD KK
      generalize markN m k = mk at *
      go_wp2_with fail
      refine (KK1 _).mono ?_
      rintro e w2 ⟨rfl, rfl⟩
      go_wp2_with fail
      go_step3
      refine ⟨rfl, ?_⟩
      go_wp2_with fail
      obtain ⟨xd, hxd⟩ : ∃ xd : Later W0, x1.w.drew = xd.w := ⟨⟨x1.w.drew, (x1.below).drew⟩, rfl⟩
      refine wp_region_any (by kernel_rfl) ?_
      change wpAny _ _ _ _ (1 + 10) _ _ _
      refine any_prefix (C := fun w' => ∃ x : Later W0, w' = x.w) 10 1 (by decide) (by kernel_rfl) (by kernel_rfl) (by kernel_rfl) (by kernel_rfl) (by kernel_rfl) ⟨xd, hxd⟩ ?_
      simp only [List.take_succ_cons, List.take_zero]
      clear hxd xd
      repeat (go_big_quiet_step (first | (go_at_call 167; exact calls_later (KW _))))
      refine wpQuiet_nil ?_
      intro _ hw'
      obtain ⟨x5, rfl⟩ := hw'
      refine wpAny_ready (rs := [10]) (by kernel_rfl) (by simp) ?_
      refine AllReady.cons rfl (fun K hK => ?_) AllReady.nil
      go_simp
      refine hK _ _ ?_
      clear hK K
      refine wpAny_done (by kernel_rfl) ?_ _
      rw [put4_eq]
      go_wp2_with fail
      have Z := put4_blk (v0 := .int .i64 (mk - d + 1)) (v1 := .int .i64 (k : Int)) (v2 := .int .i64 m) (v3 := .bool tw) (HR.out x5)
      have z0 := Z.cell 0 rfl
      have z1 := Z.cell 1 rfl
      have z2 := Z.cell 2 rfl
      have z3 := Z.cell 3 rfl
      rw [Exit.noGoto_ret]
      exact bodyPost_ret (by simp [results, Tryz.results129, go_sem, z0, z1, z2, z3]; try rfl) rfl ⟨by rw [HF.out], put4_below (HBl.out x5) (by omega)⟩
    · have HJ' : Hid (∀ j : Nat, j < k + 1 → markN m j < d) := by
       intro j hj
       by_cases e : j = k
       · subst e
         omega
       · exact HJ.out j (by omega)
      clear HA HE HJ KD KK
      generalize markN m k = mk at *
      go_wp2_with fail
      refine (KK1 _).mono ?_
      rintro e w2 ⟨rfl, rfl⟩
      go_wp2
      exact ⟨⟨k + 1, mk, by omega, by go_num, rfl, (by first | rfl | trivial), HJ'.out⟩, by simp [intOf]; omega⟩
  · have hk3 : k = 3 := by omega
    subst hk3
    have HF := hideP (HE.out HJ.out)
    clear HA HE HJ KD
    go_wp2_with fail
    refine wp_region_later (W := W0) x1.below (by kernel_rfl) (by kernel_rfl) ?_
    repeat (go_big_quiet_step (first | (go_at_call 165; exact calls_same (KB _)) | (go_at_call 166; exact calls_later (KK _))))
    refine wpQuiet_nil ?_
    intro _ hw'
    obtain ⟨x4, rfl⟩ := hw'
    go_wp2_with fail
    go_step3
    go_wp2_with fail
    obtain ⟨xd, hxd⟩ : ∃ xd : Later W0, x4.w.drew = xd.w := ⟨⟨x4.w.drew, (x4.below).drew⟩, rfl⟩
    refine wp_region_any (by kernel_rfl) ?_
    change wpAny _ _ _ _ (1 + 10) _ _ _
    refine any_prefix (C := fun w' => ∃ x : Later W0, w' = x.w) 10 1 (by decide) (by kernel_rfl) (by kernel_rfl) (by kernel_rfl) (by kernel_rfl) (by kernel_rfl) ⟨xd, hxd⟩ ?_
    simp only [List.take_succ_cons, List.take_zero]
    clear hxd xd
    repeat (go_big_quiet_step (first | (go_at_call 167; exact calls_later (KW _))))
    refine wpQuiet_nil ?_
    intro _ hw'
    obtain ⟨x5, rfl⟩ := hw'
    refine wpAny_ready (rs := [10]) (by kernel_rfl) (by simp) ?_
    refine AllReady.cons rfl (fun K hK => ?_) AllReady.nil
    go_simp
    refine hK _ _ ?_
    clear hK K
    refine wpAny_done (by kernel_rfl) ?_ _
    rw [put4_eq]
    go_wp2_with fail
    have Z := put4_blk (v0 := .int .i64 ((cd + 1) - d + 1)) (v1 := .int .i64 0) (v2 := .int .i64 (m % 12 + 1)) (v3 := .bool tw) (HR.out x5)
    have z0 := Z.cell 0 rfl
    have z1 := Z.cell 1 rfl
    have z2 := Z.cell 2 rfl
    have z3 := Z.cell 3 rfl
    refine jump_ret ?_
    exact bodyPost_ret (by simp [results, Tryz.results129, go_sem, z0, z1, z2, z3]; try rfl) rfl ⟨by rw [HF.out], put4_below (HBl.out x5) (by omega)⟩
structure Only (X : World) where
 w : World
 eq : w = X
instance (X : World) : Nonempty (Only X) := ⟨⟨X, rfl⟩⟩
theorem calls_only {P : Program} {f : FuncId} {args : Array Value} {X : World} {x : Only X} {v : Value}
    (h : Calls P f args x.w fun e w' => e = .returned v ∧ w' = x.w) : Calls P f args x.w fun e w'' => e = .returned v ∧ ∃ y : Only X, w'' = y.w :=
  h.mono fun _ _ ⟨he, hm⟩ => ⟨he, x, hm⟩
theorem Only.at {X : World} {p : Addr} {v : Value} (h : X.cell? p = some v) (x : Only X) : x.w.cell? p = some v := by rw [x.eq]; exact h
section
variable {P : Program} {ops : Array Oper} {md : Region.Mode} {C0 C1 : World → Prop}
def waitAll (md : Region.Mode) (ops : Array Oper) (N : Nat) : Bool := (List.range ops.size).all fun j => decide (j < N) || (List.range N).all fun i => ((ops[j]?).map fun o => o.after.any fun e => Region.binds md e && e.on == i).getD false
theorem wait_all {N i j : Nat} {listed : Array Bool} (hw : waitAll md ops N = true) (hi : i < N) (hun : listed.getD i true = false) (hj : j ∈ Region.ready md ops listed) : j < N := by
 rcases Nat.lt_or_ge j N with h | h
 · exact h
 · exfalso
   obtain ⟨_, o, ho, hall⟩ := mem_ready.1 hj
   have hsz : j < ops.size := (Array.getElem?_eq_some_iff.1 ho).1
   have h1 := List.all_eq_true.1 hw j (List.mem_range.2 hsz)
   simp only [Bool.or_eq_true, decide_eq_true_eq] at h1
   rcases h1 with h1 | h1
   · omega
   · have h2 := List.all_eq_true.1 h1 i (List.mem_range.2 hi)
     simp only [ho, Option.map_some, Option.getD_some] at h2
     obtain ⟨x, hx, hxe⟩ := Array.any_eq_true'.1 h2
     simp only [Bool.and_eq_true, beq_iff_eq] at hxe
     have hlx := hall x hx hxe.1
     rw [hxe.2] at hlx
     exact yes_no hlx hun
def wpM (P : Program) (md : Region.Mode) (ops : Array Oper) (C0 C1 : World → Prop) (n : Nat) (d : Tmp) (p : Value) (R : Array Bool → Act → Prop) : Nat → Bool → Array Bool → Act → Prop
  | 0, al, listed, a => al = true ∧ (∀ j, j ≤ n → listed.getD j false = true) ∧ R listed a
  | m + 1, al, listed, a => Region.ready md ops listed ≠ [] ∧ ∀ i ∈ Region.ready md ops listed, i ≤ n ∧ ((i = n ∧ al = false ∧ wpM P md ops C0 C1 n d p R m true (listed.setIfInBounds n true) (a.put (some d) p)) ∨ (i ≠ n ∧ qOp P ops (if al = true then C1 else C0) i (wpM P md ops C0 C1 n d p R m al (listed.setIfInBounds i true)) a))
theorem any_of_M {n f : Nat} {d : Tmp} {p : Value} {R : Array Bool → Act → Prop} {Q : Exit → Act → World → Prop} (hAl : ∀ a w K, C0 w → (∀ w', C1 w' → K (a.put (some d) p) w') → wpOp P ops Q n K a w) (hR : ∀ listed a w, C1 w → R listed a → wpAny P md ops Q f listed a w) :
    ∀ (m : Nat) (al : Bool) (listed : Array Bool) (a : Act) (w : World), (if al = true then C1 else C0) w → wpM P md ops C0 C1 n d p R m al listed a → wpAny P md ops Q (f + m) listed a w
  | 0, al, listed, a, w, hw, h => by
   obtain ⟨rfl, _, h3⟩ := h
   exact hR _ _ _ hw h3
  | m + 1, al, listed, a, w, hw, h => ⟨fun h0 => absurd h0 h.1, fun i hi => by
   rcases (h.2 i hi).2 with ⟨rfl, rfl, h3⟩ | ⟨_, h3⟩
   · exact hAl _ _ _ hw fun w' hw' => any_of_M hAl hR m true _ _ w' hw' h3
   · exact wpOp_of_qOp hw (fun a' w' hw' k => any_of_M hAl hR m al _ a' w' hw' k) h3⟩
theorem qOp_put2 {C : World → Prop} {j : Nat} {oi oj : Oper} {v : Value} (hj : ops[j]? = some oj) (hap : oi.apart ops oj = true)
    (hsj : ∀ cs b, oj.op ≠ .select cs b) {K : Act → Prop} {a : Act} (h : qOp P ops C j K (a.put oi.dst v)) :
    qOp P ops C j (fun a' => (∃ u, a' = a.put oj.dst u) ∧ K (a'.put oi.dst v)) a := by
  obtain ⟨h1, h2, h3⟩ := Oper.apart_spec hap
  unfold qOp at *
  simp only [hj] at *
  rw [wanted_put oj a oi.dst v h1] at h
  split
  · rename_i hw
    simp only [hw, if_true] at h
    obtain ⟨u, hu, hn⟩ := h
    refine ⟨u, fun w hw' => ?_, ⟨u, rfl⟩, by rw [← Act.put_comm a v u h2]; exact hn⟩
    have := hu w hw'
    unfold Oper.quietAt at *
    rwa [execOp_put oj hsj a oi.dst v h1] at this
  · rename_i hw
    simp only [hw] at h
    exact ⟨⟨undef, rfl⟩, by rw [← Act.put_comm a v undef h2]; exact h⟩
def Y2 (P : Program) (ops : Array Oper) (C0 C1 : World → Prop) (o : Oper) (v : Value) (a : Act) : Prop := YieldsIn P ops C0 o v a ∧ YieldsIn P ops C1 o v a
theorem Y2.of {o : Oper} {v : Value} {a : Act} (h : Y2 P ops C0 C1 o v a) (al : Bool) : YieldsIn P ops (if al = true then C1 else C0) o v a := by
 cases al
 · exact h.1
 · exact h.2
theorem M_first {n : Nat} {d : Tmp} {p : Value} {R : Array Bool → Act → Prop} (hwt : waitAll md ops (n + 1) = true) {i : Nat} {oi on : Oper} {v : Value} (hi : ops[i]? = some oi) (hin : i < n) (hn : ops[n]? = some on) (hd : on.dst = some d) (hsel : ∀ (j : Nat) (o : Oper) cs b, ops[j]? = some o → o.op ≠ .select cs b) :
    ∀ (m : Nat) (al : Bool) (listed : Array Bool) (a : Act),
     (∀ j oj, ops[j]? = some oj → j ≠ i → listed.getD j true = false → (∀ e ∈ oj.after, Region.binds md e = true → e.on ≠ i) → oi.apart ops oj = true) →
     i ∈ Region.ready md ops listed → Y2 P ops C0 C1 oi v a →
     wpM P md ops C0 C1 n d p R m al (listed.setIfInBounds i true) (a.put oi.dst v) → wpM P md ops C0 C1 n d p R (m + 1) al listed a := by
  intro m
  induction m with
  | zero =>
   intro al listed a _ hr hy H
   have hun := (mem_ready.1 hr).1
   refine ⟨fun h => (by rw [h] at hr; cases hr), fun j hj => ⟨Nat.le_of_lt_succ (wait_all hwt (by omega) hun hj), ?_⟩⟩
   by_cases hji : j = i
   · subst hji
     exact .inr ⟨by omega, (hy.of al).qOp hi H⟩
   · have h1 := H.2.1 j (Nat.le_of_lt_succ (wait_all hwt (by omega) hun hj))
     rw [getD_set_ne false (Ne.symm hji)] at h1
     exact absurd (mem_ready.1 hj).1 (fun h => yes_no h1 h)
  | succ m ih =>
   intro al listed a hfree hr hy H
   have hun := (mem_ready.1 hr).1
   refine ⟨fun h => (by rw [h] at hr; cases hr), fun j hj => ⟨Nat.le_of_lt_succ (wait_all hwt (by omega) hun hj), ?_⟩⟩
   by_cases hji : j = i
   · subst hji
     exact .inr ⟨by omega, (hy.of al).qOp hi H⟩
   · obtain ⟨hjn, h1⟩ := H.2 j (ready_mono hj hji)
     obtain ⟨hjun, oj, hoj, hall⟩ := mem_ready.1 hj
     have hnot : ∀ e ∈ oj.after, Region.binds md e = true → e.on ≠ i := fun e he hb heq => by
      have k1 := hall e he hb
      rw [heq] at k1
      exact yes_no k1 hun
     have hap := hfree j oj hoj hji hjun hnot
     obtain ⟨p1, p2, p3⟩ := Oper.apart_spec hap
     have keep : ∀ u, Y2 P ops C0 C1 oi v (a.put oj.dst u) := fun u =>
      ⟨hy.1.of_same (execOp_put oi (fun cs b => hsel i oi cs b hi) a oj.dst u p3) (wanted_put oi a oj.dst u p3), hy.2.of_same (execOp_put oi (fun cs b => hsel i oi cs b hi) a oj.dst u p3) (wanted_put oi a oj.dst u p3)⟩
     have hfree' : ∀ k ok, ops[k]? = some ok → k ≠ i → (listed.setIfInBounds j true).getD k true = false → (∀ e ∈ ok.after, Region.binds md e = true → e.on ≠ i) → oi.apart ops ok = true := fun k ok hk hki hun' hno => by
      refine hfree k ok hk hki ?_ hno
      by_cases hjk : j = k
      · subst hjk
        exact hjun
      · rw [getD_set_ne true hjk] at hun'
        exact hun'
     rcases h1 with ⟨rfl, hal, h1⟩ | ⟨hjn', h1⟩
     · obtain rfl := Option.some.inj (hoj.symm.trans hn)
       refine .inl ⟨rfl, hal, ih true (listed.setIfInBounds j true) (a.put (some d) p) hfree' (ready_mono hr (Ne.symm hji)) (by rw [← hd]; exact keep p) ?_⟩
       rw [Array.setIfInBounds_comm _ _ hji]
       rw [hd] at p2
       have := Act.put_comm a v p (y := some d) p2
       rw [← this]
       exact h1
     · refine .inr ⟨hjn', qOp_mono (fun a' h3 => ?_) (qOp_put2 hoj hap (fun cs b => hsel j oj cs b hoj) h1)⟩
       obtain ⟨⟨u, rfl⟩, h4⟩ := h3
       refine ih al (listed.setIfInBounds j true) _ hfree' (ready_mono hr (Ne.symm hji)) (keep u) ?_
       rw [Array.setIfInBounds_comm _ _ hji]
       exact h4
def wpQ2 (P : Program) (ops : Array Oper) (C0 C1 : World → Prop) (Qe : Act → Prop) : List Oper → Act → Prop
  | [], a => Qe a
  | o :: l, a => ∃ v, Y2 P ops C0 C1 o v a ∧ wpQ2 P ops C0 C1 Qe l (a.put o.dst v)
theorem M_lex {n : Nat} {d : Tmp} {p : Value} {R : Array Bool → Act → Prop} (hwt : waitAll md ops (n + 1) = true) {on : Oper} (hn : ops[n]? = some on) (hd : on.dst = some d) (haf : on.after = #[]) (hs : Region.noSelect ops = true) :
    ∀ (l : List Oper) (k : Nat) (listed : Array Bool) (a : Act), k + l.length = n → (∀ j, j < l.length → l[j]? = ops[k + j]?) → (∀ j, j < k → listed.getD j false = true) → listed.getD n true = false →
      lexP md ops l.length k listed = true → wpQ2 P ops C0 C1 (fun a' => R ((setN l.length k listed).setIfInBounds n true) (a'.put (some d) p)) l a → wpM P md ops C0 C1 n d p R (l.length + 1) false listed a
  | [], k, listed, a, hk, _, hlow, hun, _, h => by
   have hk' : k = n := by simpa using hk
   subst hk'
   have hrd : k ∈ Region.ready md ops listed := mem_ready.2 ⟨hun, on, hn, fun e he => by rw [haf] at he; simp at he⟩
   refine ⟨fun h0 => (by rw [h0] at hrd; cases hrd), fun j hj => ?_⟩
   have hjk := Nat.le_of_lt_succ (wait_all hwt (show k < k + 1 by omega) hun hj)
   refine ⟨hjk, .inl ?_⟩
   have hjk' : j = k := by
    rcases Nat.lt_or_ge j k with hlt | hge
    · exact (yes_no (hlow j hlt) (mem_ready.1 hj).1).elim
    · omega
   refine ⟨hjk', rfl, rfl, fun i hi => ?_, h⟩
   by_cases hik : k = i
   · subst hik
     have hsz : k < listed.size := by
      rcases Nat.lt_or_ge k listed.size with h' | h'
      · exact h'
      · simp [Array.getElem?_eq_none h'] at hun
     simp [hsz]
   · rw [getD_set_ne false hik]
     exact hlow i (by omega)
  | o :: l, k, listed, a, hk, hll, hlow, hun, hB, h => by
   have h0 : ops[k]? = some o := by simpa using (hll 0 (by simp)).symm
   simp only [List.length_cons] at hk
   simp only [List.length_cons, lexP, Bool.and_eq_true] at hB
   obtain ⟨⟨hr, hf⟩, hB'⟩ := hB
   have hr' : k ∈ Region.ready md ops listed := by simpa using hr
   obtain ⟨v, hy, hK⟩ := h
   refine M_first hwt h0 (by omega) hn hd (Region.noSelect_spec hs) (l.length + 1) false listed a (Region.free_spec h0 hf) hr' hy ?_
   refine M_lex hwt hn hd haf hs l (k + 1) _ _ (by omega) (fun j hj => by have := hll (j + 1) (by simpa using hj); simpa [Nat.add_assoc, Nat.add_comm 1 j] using this) (fun j hj => ?_) ?_ hB' hK
   · by_cases hjk : k = j
     · subst hjk
       have hsz : k < listed.size := by
        rcases Nat.lt_or_ge k listed.size with h' | h'
        · exact h'
        · have hu := (mem_ready.1 hr').1
          simp [Array.getElem?_eq_none h'] at hu
       simp [hsz]
     · rw [getD_set_ne false hjk]
       exact hlow j (by omega)
   · rw [getD_set_ne true (by omega)]
     exact hun
def ownDst : List Oper → Nat → Bool
  | [], _ => true
  | o :: l, s => (match o.dst with | some d => decide (d < s) && l.all fun o' => !(o'.dst == some d) | none => false) && ownDst l s
theorem put_size (a : Act) (x : Option Tmp) (v : Value) : (a.put x v).tmps.size = a.tmps.size := by
 cases x with
 | none => rfl
 | some d => show (a.tmps.setIfInBounds d v).size = _; simp
theorem quiet_keep {C : World → Prop} {A : Act} {d : Tmp} : ∀ (l : List Oper) (a : Act), (l.all fun o' => !(o'.dst == some d)) = true → wpQuiet P ops C (fun a' => a' = A) l a → A.tmps[d]? = a.tmps[d]?
  | [], a, _, h => by rw [show a = A from h]
  | o :: l, a, hl, h => by
   simp only [List.all_cons, Bool.and_eq_true, Bool.not_eq_true', beq_eq_false_iff_ne] at hl
   have hput : ∀ v, (a.put o.dst v).tmps[d]? = a.tmps[d]? := fun v => by
    cases ho : o.dst with
    | none => rfl
    | some e =>
     show (a.tmps.setIfInBounds e v)[d]? = _
     rw [Array.getElem?_setIfInBounds_ne]
     intro he
     exact hl.1 (by rw [ho, he])
   unfold wpQuiet at h
   split at h
   · obtain ⟨v, _, h2⟩ := h
     rw [quiet_keep l _ hl.2 h2, hput]
   · rw [quiet_keep l _ hl.2 h, hput]
theorem Q2_of_quiet {A : Act} : ∀ (l : List Oper) (a : Act), ownDst l a.tmps.size = true → wpQuiet P ops C0 (fun a' => a' = A) l a → wpQuiet P ops C1 (fun a' => a' = A) l a → wpQ2 P ops C0 C1 (fun a' => a' = A) l a
  | [], _, _, h, _ => h
  | o :: l, a, hd, h0, h1 => by
   unfold ownDst at hd
   simp only [Bool.and_eq_true] at hd
   obtain ⟨hd1, hd2⟩ := hd
   cases ho : o.dst with
   | none => rw [ho] at hd1; simp at hd1
   | some e =>
    rw [ho] at hd1
    simp only [Bool.and_eq_true, decide_eq_true_eq] at hd1
    obtain ⟨hlt, hall⟩ := hd1
    have hat : ∀ v, (a.put o.dst v).tmps[e]? = some v := fun v => by
     rw [ho]
     show (a.tmps.setIfInBounds e v)[e]? = _
     simp [hlt]
    unfold wpQuiet at h0 h1
    by_cases hw : Region.wanted o (yielded ops a.tmps) = true
    · rw [if_pos hw] at h0 h1
      obtain ⟨v, hv, h0'⟩ := h0
      obtain ⟨u, hu, h1'⟩ := h1
      have e1 := (quiet_keep l _ hall h0').trans (hat v)
      have e2 := (quiet_keep l _ hall h1').trans (hat u)
      obtain rfl : v = u := Option.some.inj (e1.symm.trans e2)
      exact ⟨v, ⟨.inl ⟨hw, hv⟩, .inl ⟨hw, hu⟩⟩, Q2_of_quiet l _ (by rw [put_size]; exact hd2) h0' h1'⟩
    · rw [if_neg hw] at h0 h1
      exact ⟨undef, ⟨.inr ⟨by simpa using hw, rfl⟩, .inr ⟨by simpa using hw, rfl⟩⟩, Q2_of_quiet l _ (by rw [put_size]; exact hd2) h0 h1⟩
theorem Q2_mono {Q1 Q2 : Act → Prop} (hq : ∀ a, Q1 a → Q2 a) : ∀ (l : List Oper) (a : Act), wpQ2 P ops C0 C1 Q1 l a → wpQ2 P ops C0 C1 Q2 l a
  | [], _, h => hq _ h
  | _ :: l, _, ⟨v, h1, h2⟩ => ⟨v, h1, Q2_mono hq l _ h2⟩
end
theorem any_alloc {P : Program} {Q : Exit → Act → World → Prop} {big : List Oper} (n f : Nat) (d : Tmp) {on : Oper} {p : Value} {a A : Act} {W W1 : World} (hlen : n < big.length) (hn : big.toArray[n]? = some on) (hd : on.dst = some d) (haf : on.after = #[]) (hs : Region.noSelect big.toArray = true)
    (hB : lexP .any big.toArray n 0 (Array.replicate big.length false) = true) (hwt : waitAll .any big.toArray (n + 1) = true) (hown : ownDst (big.take n) a.tmps.size = true)
    (hAl : ∀ a K, K (a.put (some d) p) W1 → wpOp P big.toArray Q n K a W)
    (hq : ∀ X, X = W ∨ X = W1 → wpQuiet P big.toArray (fun w' => ∃ x : Only X, w' = x.w) (fun a' => a' = A) (big.take n) a)
    (h : wpAny P .any big.toArray Q f ((setN n 0 (Array.replicate big.length false)).setIfInBounds n true) (A.put (some d) p) W1) : wpAny P .any big.toArray Q (f + (n + 1)) (Array.replicate big.length false) a W := by
  have hl : (big.take n).length = n := by rw [List.length_take]; omega
  have h2 := Q2_of_quiet (big.take n) a hown (hq W (.inl rfl)) (hq W1 (.inr rfl))
  have hm := M_lex (P := P) (md := .any) (ops := big.toArray) (C0 := fun w' => ∃ x : Only W, w' = x.w) (C1 := fun w' => ∃ x : Only W1, w' = x.w) (d := d) (p := p) (R := fun listed a => wpAny P .any big.toArray Q f listed a W1) hwt hn hd haf hs (big.take n) 0 (Array.replicate big.length false) a (by omega)
    (fun j hj => by rw [hl] at hj; simp [hj]) (fun j hj => by omega) (by simp [hlen]) (by rw [hl]; exact hB) (Q2_mono (fun a' e => by rw [e, hl]; exact h) _ _ h2)
  rw [hl] at hm
  exact any_of_M (C0 := fun w' => ∃ x : Only W, w' = x.w) (C1 := fun w' => ∃ x : Only W1, w' = x.w) (R := fun listed a => wpAny P .any big.toArray Q f listed a W1) (fun a w K ⟨x, hx⟩ hK => by rw [hx, x.eq]; exact hAl a K (hK W1 ⟨⟨W1, rfl⟩, rfl⟩)) (fun listed a w ⟨x, hx⟩ hR => by rw [hx, x.eq]; exact hR) (n + 1) false _ a W ⟨⟨W, rfl⟩, rfl⟩ hm
section
variable {P : Program} {ops : Array Oper} {md : Region.Mode} {C : World → Prop}
theorem mixA_first {N : Nat} {R : Array Bool → Act → Prop} (hRl : ∀ listed a, R listed a → ∀ j, j < N → listed.getD j false = true) (hwt : waitAll md ops N = true) {i : Nat} {oi : Oper} {v : Value} (hi : ops[i]? = some oi) (hN : i < N) (hsel : ∀ (j : Nat) (o : Oper) cs b, ops[j]? = some o → o.op ≠ .select cs b) :
    ∀ (m : Nat) (listed : Array Bool) (a : Act),
     (∀ j oj, ops[j]? = some oj → j ≠ i → listed.getD j true = false → (∀ e ∈ oj.after, Region.binds md e = true → e.on ≠ i) → oi.apart ops oj = true) →
     i ∈ Region.ready md ops listed → YieldsIn P ops C oi v a →
     wpMix P md ops C N R m (listed.setIfInBounds i true) (a.put oi.dst v) → wpMix P md ops C N R (m + 1) listed a := by
  intro m
  induction m with
  | zero =>
   intro listed a _ hr hy H
   have hun := (mem_ready.1 hr).1
   refine ⟨fun h => (by rw [h] at hr; cases hr), fun j hj => ?_⟩
   have hjN := wait_all hwt hN hun hj
   by_cases hji : j = i
   · subst hji
     exact ⟨hjN, hy.qOp hi H⟩
   · have h1 := hRl _ _ H j hjN
     rw [getD_set_ne false (Ne.symm hji)] at h1
     exact absurd (mem_ready.1 hj).1 (fun h => yes_no h1 h)
  | succ m ih =>
   intro listed a hfree hr hy H
   refine ⟨fun h => (by rw [h] at hr; cases hr), fun j hj => ?_⟩
   by_cases hji : j = i
   · subst hji
     exact ⟨hN, hy.qOp hi H⟩
   · obtain ⟨hjN, h1⟩ := H.2 j (ready_mono hj hji)
     refine ⟨hjN, ?_⟩
     obtain ⟨hjun, oj, hoj, hall⟩ := mem_ready.1 hj
     have hnot : ∀ e ∈ oj.after, Region.binds md e = true → e.on ≠ i := fun e he hb heq => by
      have k1 := hall e he hb
      rw [heq] at k1
      exact yes_no k1 (mem_ready.1 hr).1
     have h2 := qOp_put hoj (hfree j oj hoj hji hjun hnot) (fun cs b => hsel i oi cs b hi) (fun cs b => hsel j oj cs b hoj) hy h1
     have hfree' : ∀ k ok, ops[k]? = some ok → k ≠ i → (listed.setIfInBounds j true).getD k true = false → (∀ e ∈ ok.after, Region.binds md e = true → e.on ≠ i) → oi.apart ops ok = true := fun k ok hk hki hun hno => by
      refine hfree k ok hk hki ?_ hno
      by_cases hjk : j = k
      · subst hjk
        exact hjun
      · rw [getD_set_ne true hjk] at hun
        exact hun
     refine qOp_mono (fun a' h3 => ih (listed.setIfInBounds j true) a' hfree' (ready_mono hr (Ne.symm hji)) h3.1 ?_) h2
     rw [Array.setIfInBounds_comm _ _ hji]
     exact h3.2
theorem mixA_lex {N : Nat} {R : Array Bool → Act → Prop} (hRl : ∀ listed a, R listed a → ∀ j, j < N → listed.getD j false = true) (hwt : waitAll md ops N = true) (hs : Region.noSelect ops = true) : ∀ (l : List Oper) (k : Nat) (listed : Array Bool) (a : Act), k + l.length ≤ N → (∀ j, j < l.length → l[j]? = ops[k + j]?) →
    lexP md ops l.length k listed = true → wpQuiet P ops C (fun a' => R (setN l.length k listed) a') l a → wpMix P md ops C N R l.length listed a
  | [], _, _, _, _, _, _, h => h
  | o :: l, k, listed, a, hk, hll, hB, h => by
   have h0 : ops[k]? = some o := by simpa using (hll 0 (by simp)).symm
   simp only [List.length_cons] at hk
   simp only [List.length_cons, lexP, Bool.and_eq_true] at hB
   obtain ⟨⟨hr, hf⟩, hB'⟩ := hB
   have hr' : k ∈ Region.ready md ops listed := by simpa using hr
   have hst : qOp P ops C k (wpQuiet P ops C (fun a' => R (setN (o :: l).length k listed) a') l) a := by unfold qOp; simp only [h0]; exact h
   obtain ⟨v, hy, hK⟩ := yieldsIn_of_qOp h0 hst
   exact mixA_first hRl hwt h0 (by omega) (Region.noSelect_spec hs) l.length listed a (Region.free_spec h0 hf) hr' hy
     (mixA_lex hRl hwt hs l (k + 1) _ _ (by omega) (fun j hj => by have := hll (j + 1) (by simpa using hj); simpa [Nat.add_assoc, Nat.add_comm 1 j] using this) hB' hK)
end
theorem any_prefixA {P : Program} {C : World → Prop} {Q : Exit → Act → World → Prop} {big : List Oper} (n f : Nat) {a : Act} {w : World} (hn : n ≤ big.length) (hs : Region.noSelect big.toArray = true) (hB : lexP .any big.toArray n 0 (Array.replicate big.length false) = true) (hwt : waitAll .any big.toArray n = true)
    (hA : ((List.range n).all fun j => (setN n 0 (Array.replicate big.length false)).getD j false) = true) (hw : C w)
    (h : wpQuiet P big.toArray C (fun a' => ∀ w', C w' → wpAny P .any big.toArray Q f (setN n 0 (Array.replicate big.length false)) a' w') (big.take n) a) : wpAny P .any big.toArray Q (f + n) (Array.replicate big.length false) a w := by
  have hlen : (big.take n).length = n := by rw [List.length_take]; omega
  have hAll : ∀ j, j < n → (setN n 0 (Array.replicate big.length false)).getD j false = true := fun j hj => List.all_eq_true.1 hA j (List.mem_range.2 hj)
  have hm := mixA_lex (P := P) (md := .any) (ops := big.toArray) (C := C) (N := n) (R := fun listed a => (∀ j, j < n → listed.getD j false = true) ∧ ∀ w', C w' → wpAny P .any big.toArray Q f listed a w') (fun _ _ h => h.1) hwt hs (big.take n) 0 (Array.replicate big.length false) a (by omega)
    (fun j hj => by rw [hlen] at hj; simp [hj]) (by rw [hlen]; exact hB)
    (by rw [hlen]; exact wpQuiet_mono (fun a' h => ⟨hAll, h⟩) _ _ h)
  rw [hlen] at hm
  exact wpAny_of_mix (N := n) (R := fun listed a => (∀ j, j < n → listed.getD j false = true) ∧ ∀ w', C w' → wpAny P .any big.toArray Q f listed a w') (fun _ _ w h1 h2 => h2.2 w h1) n _ a w hw hm
def bAt (s : ByteArray) (k : Nat) : Int := ((s.data.toList.getD k 0).toNat : Int)
theorem bAt_eq (s : ByteArray) (k : Nat) (h : k < s.size) : (s[k].toNat : Int) = bAt s k := by
 have h' : k < s.data.toList.length := h
 unfold bAt
 rw [List.getD, List.getElem?_eq_getElem h']
 rfl
def startAt (s : ByteArray) (g : Int) : Nat → Nat
  | 0 => 0
  | k + 1 => if bAt s k = g then k + 1 else startAt s g k
def partsTo (s : ByteArray) (g : Int) : Nat → List ByteArray
  | 0 => []
  | k + 1 => if bAt s k = g then partsTo s g k ++ [s.extract (startAt s g k) k] else partsTo s g k
def cut (s : ByteArray) (g : Int) : List ByteArray := partsTo s g s.size ++ [s.extract (startAt s g s.size) s.size]
theorem start_le (s : ByteArray) (g : Int) : ∀ k, startAt s g k ≤ k
  | 0 => Nat.le_refl _
  | k + 1 => by
   have := start_le s g k
   unfold startAt
   split <;> omega
theorem parts_len (s : ByteArray) (g : Int) : ∀ k, (partsTo s g k).length ≤ k
  | 0 => Nat.le_refl _
  | k + 1 => by
   have := parts_len s g k
   unfold partsTo
   split
   · rw [List.length_append]; simp; omega
   · omega
theorem parts_hit (s : ByteArray) (g : Int) (k : Nat) (h : bAt s k = g) : partsTo s g (k + 1) = partsTo s g k ++ [s.extract (startAt s g k) k] ∧ startAt s g (k + 1) = k + 1 := by
 constructor
 · rw [partsTo, if_pos h]
 · rw [startAt, if_pos h]
theorem parts_miss (s : ByteArray) (g : Int) (k : Nat) (h : bAt s k ≠ g) : partsTo s g (k + 1) = partsTo s g k ∧ startAt s g (k + 1) = startAt s g k := by
 constructor
 · rw [partsTo, if_neg h]
 · rw [startAt, if_neg h]
theorem own_base {w : World} {base e size : Nat} {v : Value} {n : Nat} {xs : List Value} (h : w.ownsRow base e size v n xs) : ∀ k, v.ownBlock = some k → base ≤ k := by
 obtain ⟨_, h | ⟨g, cap, cur, rfl, hb, _⟩⟩ := h
 · obtain ⟨rfl, _⟩ := h
   intro k hk
   cases hk
 · intro k hk
   cases hk
   exact hb
theorem size_new' (W : World) (o : Obj) : (W.alloc o).heap.size = W.heap.size + 1 := by simp [World.alloc, -World.alloc_eq]
theorem own_empty (w : World) (e : TypeId) : (w.alloc (.cells #[] e)).ownsRow w.heap.size e 1 (.slice (some ⟨w.heap.size, 0, none⟩) 0 0) 0 [] :=
 ⟨rfl, .inr ⟨w.heap.size, 0, #[], rfl, Nat.le_refl _, by simp [World.alloc, -World.alloc_eq], Nat.le_refl _, Nat.zero_le _, rfl, rfl⟩⟩
theorem info_str : (Tryz.prog.info? 9).map (fun i => (i.zero, i.size, i.bytes)) = some (some (.string ⟨#[]⟩), 1, 16) := by kernel_rfl
set_option maxHeartbeats 1000000 in
theorem l01Cut (s : ByteArray) (g : Int) (w : World) (hs : s.size ≤ 1048576) :
    Calls Tryz.prog 119 #[.string s, .int .u8 g] w fun e w' => ∃ v, e = .returned v ∧ w'.ownsRow w.heap.size 9 1 v (cut s g).length ((cut s g).map Value.string) ∧ Below w.heap.size w w' := by
  obtain ⟨i0, hi, hz0, hz1, hz2⟩ := info_parts info_str
  go_enter Tryz.func119, Tryz.ntmps119
  go_wp2
  go_loopw [5, 6, 7] (fun o f i wr => ∃ k : Nat, k ≤ s.size ∧ i = .int .i64 (k : Int) ∧ f = .int .i64 (startAt s g k : Int) ∧ wr.ownsRow w.heap.size 9 1 o (partsTo s g k).length ((partsTo s g k).map Value.string) ∧ Below w.heap.size w wr) (fun _ _ i _ => s.size - (intOf i).toNat)
  case atStart => exact ⟨0, Nat.zero_le _, rfl, rfl, own_empty w _, (Below.refl _ _).alloc (Nat.le_refl _) _⟩
  case round =>
   obtain ⟨k, hk, rfl, rfl, hrow, hB⟩ := hrel
   have hsl := start_le s g k
   have hpl := parts_len s g k
   by_cases hlt : k < s.size
   · have hx := bAt_eq s k hlt
     by_cases hg : bAt s k = g
     · have hg' : (bAt s k == g) = true := by simp [hg]
       obtain ⟨HP, HS⟩ : Hid (partsTo s g (k + 1) = partsTo s g k ++ [s.extract (startAt s g k) k]) ∧ Hid (startAt s g (k + 1) = k + 1) := parts_hit s g k hg
       clear hg
       go_wp2_with (at_builtin; refine wpList_append_own _ rfl _ _ 51 rfl w.heap.size 9 i0 (.string ⟨#[]⟩) 1 16 Tryz.underlying51 hi hz0 hz1 hz2 rfl (by decide) _ _ _ rfl (hrow.alloc _) ⟨wr.heap.size, 0, none⟩ 1 1 [.string (s.extract (startAt s g k) k)] rfl rfl (cell_one_new _ _ _) (by simp [Value.oneCell']) (by unfold maxLen; omega) (by omega) (by have := hB.size; simp; omega) ?_; intro v' w1 hown' hgrow _)
       have hB1 : Below w.heap.size w w1 := (hB.alloc hB.size _).grown hgrow (by have := hB.size; rw [size_new']; omega) (own_base hrow)
       refine ⟨⟨k + 1, by omega, by go_num, by rw [HS.out]; go_num, ?_, hB1⟩, by simp [intOf]; omega⟩
       rw [HP.out, List.length_append, List.map_append]
       exact hown'
     · have hg' : (bAt s k == g) = false := by simp [hg]
       obtain ⟨HP, HS⟩ : Hid (partsTo s g (k + 1) = partsTo s g k) ∧ Hid (startAt s g (k + 1) = startAt s g k) := parts_miss s g k hg
       clear hg
       go_wp2
       exact ⟨⟨k + 1, by omega, by go_num, by rw [HS.out], by rw [HP.out]; exact hrow, hB⟩, by simp [intOf]; omega⟩
   · have hks : k = s.size := by omega
     subst hks
     have hlo : (startAt s g s.size : Int) ≤ (s.size : Int) := by omega
     go_wp2_with (at_builtin; refine wpList_append_own _ rfl _ _ 51 rfl w.heap.size 9 i0 (.string ⟨#[]⟩) 1 16 Tryz.underlying51 hi hz0 hz1 hz2 rfl (by decide) _ _ _ rfl (hrow.alloc _) ⟨wr.heap.size, 0, none⟩ 1 1 [.string (s.extract (startAt s g s.size) s.size)] rfl rfl (cell_one_new _ _ _) (by simp [Value.oneCell']) (by unfold maxLen; omega) (by omega) (by have := hB.size; simp; omega) ?_; intro v' w1 hown' hgrow _)
     have hB1 : Below w.heap.size w w1 := (hB.alloc hB.size _).grown hgrow (by have := hB.size; rw [size_new']; omega) (own_base hrow)
     go_ret
     refine ⟨v', rfl, ?_, hB1⟩
     unfold cut
     rw [List.length_append, List.map_append]
     exact hown'
end Go.Proofs.YtdmlhiailjnhcaaGreatDoor.ctr
namespace Go.Proofs.YtdmlhiailjnhcaaGreatDoor.kit
end Go.Proofs.YtdmlhiailjnhcaaGreatDoor.kit
namespace Go.Proofs.YtdmlhiailjnhcaaGreatDoor.ctr
open Go.RowKit
end Go.Proofs.YtdmlhiailjnhcaaGreatDoor.ctr
