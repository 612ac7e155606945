/- What a law is told of a list of structs of ints that comes in: its ints are ints of 64 bits. -/
import Derived.Test.YtaakgidndjoocaaGreatDoorSegA
namespace Go.Proofs.YtaakgidndjoocaaGreatDoor.kit
open Go.RowKit Go.WideShapes Go.Deep Go.ChangeShapes

theorem wf_bounds {z : Int} (h : (Lit.int .i64 z).wf = true) : -9223372036854775808 ≤ z ∧ z ≤ 9223372036854775807 := by
  have h' : (decide (IntKind.i64.min ≤ z) && decide (z ≤ IntKind.i64.max)) = true := h
  rw [show IntKind.i64.min = -9223372036854775808 from rfl, show IntKind.i64.max = 9223372036854775807 from rfl] at h'
  simpa using h'
theorem open_irowW {H : Type} {enc : TypeId × Value → H} {P : Program} {w : World} {base : Nat} {spare : Nat → Bool} {held : Bool} {t e : TypeId} {fs : Array Field} {a : Option Addr} {len cap : Nat} {x : DataW H} {p : List MemPlace} {α : Type} (K : ctr.IK α)
    (ht : P.underlying t = some (.slice e)) (he : P.underlying e = some (.struct fs)) (ce : P.cellsOf e = K.m) (hsz : fs.size = K.m)
    (hf0 : ∀ (j : Nat) (f : Field), fs[j]? = some f → f.offset = j ∧ P.cellsOf f.type = 1 ∧ P.underlying f.type = some (.int .i64))
    (h : DataW.Trod enc P w base spare held t (.slice a len cap) x p) : ∃ l : List α, ctr.IIn K w a len cap l ∧ ∀ k, k < len → ∀ z ∈ K.iv (ctr.atK K l k), (Lit.int .i64 z).wf = true := by
  obtain ⟨fuel, h⟩ := h
  simp only [Value.cells] at h
  rcases open_slice ht h with ⟨h0, _⟩ | ⟨a', len', cap', m, n, D, Pl, e', hb, hl, hm, hmm, hxp, hx⟩
  · simp at h0
    obtain ⟨rfl, rfl, rfl⟩ := h0
    exact ⟨[], ⟨rfl, Nat.le_refl _, by unfold maxLen; omega, .inl ⟨rfl, rfl⟩⟩, fun k hk => by omega⟩
  · simp at e'
    obtain ⟨rfl, rfl, rfl⟩ := e'
    have hlm : len ≤ m := by rw [hmm]; split <;> omega
    have each : ∀ i, i < len → ∃ r : α, (∀ (j : Nat) (z : Int), (K.iv r)[j]? = some z → w.cell? (a'.add (i * K.m + j)) = some (.int .i64 z)) ∧ ∀ z ∈ K.iv r, (Lit.int .i64 z).wf = true := by
      intro i hi
      obtain ⟨cs', h1, h2⟩ := hx i (by omega)
      rw [ce] at h1
      obtain ⟨_, hlen, hcell⟩ := World.cells?_some h1
      obtain ⟨xs, k, hk, hxy, _, hxl, hf⟩ := DataW.trod_struct he h2
      have cell : ∀ j, j < K.m → ∃ z : Int, cs'[j]? = some (.int .i64 z) ∧ (Lit.int .i64 z).wf = true := by
        intro j hj
        obtain ⟨f, hfe⟩ : ∃ f, fs[j]? = some f := ⟨fs[j]'(by omega), by simp [hsz, hj]⟩
        obtain ⟨o, c, u⟩ := hf0 j f hfe
        have g := hf j f (by simpa using hfe)
        rw [o, c] at g
        have hjl : j < cs'.length := by omega
        have e1 : (cs'.drop j).take 1 = [cs'[j]] := by rw [List.drop_eq_getElem_cons hjl]; rfl
        have hxj : j < xs.length := by have := hxl; omega
        rw [e1, List.getElem?_eq_getElem hxj] at g
        obtain ⟨z, q, _, hz⟩ := DataW.trod_int u g
        exact ⟨z, by rw [List.getElem?_eq_getElem hjl]; simpa using q, hz⟩
      obtain ⟨Z, hZ⟩ : ∃ Z : Nat → Int, ∀ j, j < K.m → cs'[j]? = some (.int .i64 (Z j)) ∧ (Lit.int .i64 (Z j)).wf = true := by
        classical
        refine ⟨fun j => if h : j < K.m then (cell j h).choose else 0, fun j hj => ?_⟩
        simp only [dif_pos hj]
        exact (cell j hj).choose_spec
      refine ⟨K.ofI ((List.range K.m).map Z), fun j z e => ?_, fun z hz => by
        rw [K.back _ (by simp)] at hz
        obtain ⟨j, hj, rfl⟩ := List.mem_map.1 hz
        exact (hZ j (by simpa using hj)).2⟩
      rw [K.back _ (by simp)] at e
      have hj : j < K.m := by have := (List.getElem?_eq_some_iff.1 e).1; simpa using this
      have ez : z = Z j := by simpa [hj] using e.symm
      have e0 := hcell j (by omega)
      rw [add_add] at e0
      rw [e0, ez]
      exact (hZ j hj).1
    obtain ⟨R, hR⟩ : ∃ R : Nat → α, ∀ i, i < len → (∀ (j : Nat) (z : Int), (K.iv (R i))[j]? = some z → w.cell? (a'.add (i * K.m + j)) = some (.int .i64 z)) ∧ ∀ z ∈ K.iv (R i), (Lit.int .i64 z).wf = true := by
      classical
      refine ⟨fun i => if h : i < len then (each i h).choose else K.d, fun i hi => ?_⟩
      simp only [dif_pos hi]
      exact (each i hi).choose_spec
    have hat : ∀ k, k < len → ctr.atK K ((List.range len).map R) k = R k := fun k hk => by simp [ctr.atK, List.getD, hk]
    exact ⟨(List.range len).map R, ⟨by simp, hl, hm, .inr ⟨a', rfl, fun k hk => by rw [hat k hk]; exact (hR k hk).1⟩⟩, fun k hk => by rw [hat k hk]; exact (hR k hk).2⟩
end Go.Proofs.YtaakgidndjoocaaGreatDoor.kit
