/- A regime under way that is spoilt sometimes: what is said of it, and the contract of l09Regime as a word. -/
import Derived.Test.YtchhdoipkimbgaaGreatDoorRgmDrawM
import Derived.Test.YtchhdoipkimbgaaGreatDoorHeapSwapM
namespace Go.Proofs.YtchhdoipkimbgaaGreatDoor.ctr
open Go.RowKit

theorem PRow.field {α : Type} {K : IK α} {T : TypeId} {w : World} {g cap : Nat} {L : List α} (h : PRow K T w g cap L) {i j : Nat} (hi : i < L.length) (hj : j < K.m) (z : Int) : PRow K T (w.setCell ⟨g, i * K.m + j, none⟩ (.int .i64 z)) g cap (L.set i (K.ofI ((K.iv (atK K L i)).set j z))) := by
  obtain ⟨cur, hB, hs, h1, h2, hC⟩ := h
  have hb : K.iv (K.ofI ((K.iv (atK K L i)).set j z)) = (K.iv (atK K L i)).set j z := K.back _ (by rw [List.length_set, K.len])
  have hlt : i * K.m + j < cur.size := by
    have : (i + 1) * K.m ≤ cap * K.m := Nat.mul_le_mul_right _ (by omega)
    rw [Nat.add_mul] at this
    omega
  refine ⟨_, hB.set _ _, by simpa using hs, by simpa using h1, h2, fun k hk j' z' e => ?_⟩
  have hk' : k < L.length := by simpa using hk
  rw [atK_set hi] at e
  by_cases q : k = i
  · subst q
    rw [if_pos rfl, hb] at e
    by_cases p : j' = j
    · subst p
      have e' : z = z' := by
        rw [List.getElem?_set_self (by rw [K.len]; exact hj)] at e
        exact Option.some.inj e
      rw [Array.getElem?_setIfInBounds_self_of_lt hlt, e']
    · rw [List.getElem?_set_ne (by omega)] at e
      rw [Array.getElem?_setIfInBounds_ne (by omega)]
      exact hC k hk' j' z' e
  · rw [if_neg q] at e
    have hj' : j' < K.m := by rw [← K.len (atK K L k)]; exact (List.getElem?_eq_some_iff.1 e).1
    rw [Array.getElem?_setIfInBounds_ne (by
      intro c
      rcases Nat.lt_or_gt_of_ne q with q | q
      · have : (k + 1) * K.m ≤ i * K.m := Nat.mul_le_mul_right _ q
        rw [Nat.add_mul] at this
        omega
      · have : (i + 1) * K.m ≤ k * K.m := Nat.mul_le_mul_right _ q
        rw [Nat.add_mul] at this
        omega)]
    exact hC k hk' j' z' e
/-- Reigns in memory between M and R. -/
def RMid (M R : Nat) (W : World) (v : Value) (l : List Rgn) : Prop := RDrawn W v l ∧ (l = [] ∨ ∃ g n c, v = .slice (some ⟨g, 0, none⟩) n c ∧ M ≤ g ∧ g < R)
theorem RMid.of {M : Nat} {W : World} {v : Value} {l : List Rgn} (h : RNewR M W v l) : RMid M W.heap.size W v l := by
  obtain ⟨h1, rfl | ⟨g, n, c, rfl, hg⟩⟩ := h
  · exact ⟨h1, .inl rfl⟩
  · refine ⟨h1, ?_⟩
    by_cases hl : l = []
    · exact .inl hl
    · obtain ⟨ad, cap, e, _, _, _, hc⟩ := h1.1
      obtain ⟨g', e', hg', _⟩ := hc 0 (by cases l with | nil => exact absurd rfl hl | cons a l => simp)
      cases e
      cases e'
      exact .inr ⟨_, _, _, rfl, hg, hg'⟩
theorem RMid.new {M R : Nat} {W : World} {v : Value} {l : List Rgn} (h : RMid M R W v l) : RNewR M W v l := by
  obtain ⟨h1, rfl | ⟨g, n, c, rfl, hg, _⟩⟩ := h
  · exact ⟨h1, .inl rfl⟩
  · exact ⟨h1, .inr ⟨g, n, c, rfl, hg⟩⟩
theorem RMid.grown {M R : Nat} {W W' : World} {v : Value} {l : List Rgn} {r : Option Nat} (h : RMid M R W v l) (hG : W.grownBy W' r) (hr : ∀ b, r = some b → b < M ∨ R ≤ b) : RMid M R W' v l := by
  obtain ⟨⟨h1, h2, h3⟩, rfl | ⟨g, n, c, rfl, hg, hR⟩⟩ := h
  · exact ⟨⟨rrow_nil h1, h2, h3⟩, .inl rfl⟩
  · refine ⟨⟨?_, h2, h3⟩, .inr ⟨g, n, c, rfl, hg, hR⟩⟩
    obtain ⟨ad, cap, e, q1, q2, q3, hc⟩ := h1
    cases e
    refine ⟨_, _, rfl, q1, q2, q3, fun k hk => ?_⟩
    obtain ⟨g', e, hg', c0, c1, c2⟩ := hc k hk
    cases e
    have hne : some g ≠ r := fun e => by
      rcases hr g e.symm with h | h <;> omega
    have hB := hG.block g hg' hne
    exact ⟨g, rfl, Nat.lt_of_lt_of_le hg' hG.size, (World.cell?_of_block (a := ⟨g, k * 3, none⟩) hB).trans c0, (World.cell?_of_block (a := ⟨g, k * 3 + 1, none⟩) hB).trans c1, (World.cell?_of_block (a := ⟨g, k * 3 + 2, none⟩) hB).trans c2⟩
section
variable {w W W' : World} {n0 : Nat} {a : Option Addr} {len cap B R : Nat} {vs : Array Value} {sv pv : Value} {L : List Seg} {P : List Pat}
/-- A number of a segment stored. -/
theorem GdSt.segSet {gs cs : Nat} (h : Hid (GdSt w n0 a len cap B R vs (.slice (some ⟨gs, 0, none⟩) L.length cs) pv L P W)) {i j : Nat} (hi : i < L.length) (hj : j < 5) (z : Int) : Hid (GdSt w n0 a len cap B R vs (.slice (some ⟨gs, 0, none⟩) L.length cs) pv (L.set i (segK.ofI ((segK.iv (atK segK L i)).set j z))) P (W.setCell ⟨gs, i * 5 + j, none⟩ (.int .i64 z))) := by
  have hB := h.out.hB
  have hlo := h.out.cur.lo
  obtain ⟨g, c, e, hg, hP⟩ := PRow.of_owns (K := segK) h.out.seg (by omega)
  have e2 : gs = g ∧ cs = c := by simpa using e
  obtain ⟨rfl, rfl⟩ := e2
  have n1 : gs ≠ w.heap.size := fun q => by
    have := own_apart h.out.seg h.out.zer (by decide)
    exact this (by rw [← q]; rfl)
  have n2 : gs ≠ R := fun q => by
    have := own_apart h.out.seg h.out.box (by decide)
    exact this (by rw [← q]; rfl)
  refine ⟨h.out.cur.store _ (by omega) (by omega), grown_store h.out.grown _ hg, hB, h.out.zer.other n1, h.out.box.other n2, h.out.hR, ?_, h.out.pat.kept (grown_set W gs _ _) ?_⟩
  · have hq := (hP.field hi hj z).owns (base := w.heap.size) (by decide) hg
    rw [List.length_set] at hq ⊢
    exact hq
  · rcases own_two h.out.pat h.out.seg (by decide) with q | q
    · exact .inl q
    · exact .inr q
/-- What is given back, spoilt or not. -/
def DRegW (base : Nat) (W : World) (v : Value) (r : Rgm) : Prop := ∃ sv pv rv, v = .agg #[.string r.name, .int .i64 r.fr, .int .i64 r.to, sv, pv, rv, .int .i64 r.rule] ∧ W.ownsRow base 56 5 sv r.segs.length (icells segK r.segs) ∧ W.ownsRow base 76 3 pv r.pats.length (icells patK r.pats) ∧ RNewR base W rv r.rgns
theorem GdSt.finalW {M : Nat} {nm : ByteArray} {f t ru : Int} {rv : Value} {rg : List Rgn} (h : Hid (GdSt w n0 a len cap B R vs sv pv L P W)) (hr : RMid M R W rv rg) (hM : w.heap.size < M) :
    DRegW w.heap.size (put7 W w.heap.size (.string nm) (.int .i64 f) (.int .i64 t) sv pv rv (.int .i64 ru)) (.agg #[.string nm, .int .i64 f, .int .i64 t, sv, pv, rv, .int .i64 ru]) ⟨nm, f, t, L, P, rg, ru⟩ ∧ Cur n0 (put7 W w.heap.size (.string nm) (.int .i64 f) (.int .i64 t) sv pv rv (.int .i64 ru)) a len cap B ∧ w.grownBy (put7 W w.heap.size (.string nm) (.int .i64 f) (.int .i64 t) sv pv rv (.int .i64 ru)) (some B) ∧ Blk (put7 W w.heap.size (.string nm) (.int .i64 f) (.int .i64 t) sv pv rv (.int .i64 ru)) w.heap.size #[.string nm, .int .i64 f, .int .i64 t, sv, pv, rv, .int .i64 ru] 29 := by
  have hB := h.out.hB
  have hlo := h.out.cur.lo
  have g := put7_grown W w.heap.size (.string nm) (.int .i64 f) (.int .i64 t) sv pv rv (.int .i64 ru)
  refine ⟨⟨sv, pv, rv, rfl, h.out.seg.kept g (.inr (own_apart h.out.seg h.out.zer (by decide)).symm), h.out.pat.kept g (.inr (own_apart h.out.pat h.out.zer (by decide)).symm), ((hr.grown g (fun b e => by cases e; exact .inl hM)).new).mono (by omega)⟩, h.out.cur.grownO g (fun k e => by cases e; omega), ?_, put7_blk h.out.zer _ _ _ _ _ _ _⟩
  exact grown_app h.out.grown g (fun k e => by cases e; omega)
end
theorem DRegW.row {base : Nat} {W : World} {v : Value} {r : Rgm} (h : DRegW base W v r) (hs : DSmall r) : GRow W v r := by
  obtain ⟨sv, pv, rv, e, h1, h2, h3⟩ := h
  exact ⟨sv, pv, rv, e, by have := hs.1; unfold maxLen; omega, irow_owns h1, irow_owns h2, h3.1.1⟩
theorem GdSt.segAt {w W : World} {n0 : Nat} {a : Option Addr} {len cap B R : Nat} {vs : Array Value} {pv : Value} {L : List Seg} {P : List Pat} {gs cs : Nat} (h : Hid (GdSt w n0 a len cap B R vs (.slice (some ⟨gs, 0, none⟩) L.length cs) pv L P W)) {i : Nat} (hi : i < L.length) : W.cell? ⟨gs, i * 5, none⟩ = some (.int .i64 (atK segK L i).fr) ∧ W.cell? ⟨gs, i * 5 + 1, none⟩ = some (.int .i64 (atK segK L i).to) ∧ W.cell? ⟨gs, i * 5 + 2, none⟩ = some (.int .i64 (atK segK L i).cal) ∧ W.cell? ⟨gs, i * 5 + 3, none⟩ = some (.int .i64 (atK segK L i).sty) ∧ W.cell? ⟨gs, i * 5 + 4, none⟩ = some (.int .i64 (atK segK L i).off) ∧ (∀ k, W.frozen? ⟨gs, k, none⟩ = false) ∧ L.length ≤ cs ∧ cs ≤ maxLen ∧ gs ≠ R ∧ gs ≠ w.heap.size := by
  obtain ⟨g, c, e, hg, hP⟩ := PRow.of_owns (K := segK) h.out.seg (by omega)
  have e2 : gs = g ∧ cs = c := by simpa using e
  obtain ⟨rfl, rfl⟩ := e2
  obtain ⟨q0, q1, q2, q3, q4⟩ := (hP.at hi).seg
  have n1 : gs ≠ w.heap.size := fun q => by
    have := own_apart h.out.seg h.out.zer (by decide)
    exact this (by rw [← q]; rfl)
  have n2 : gs ≠ R := fun q => by
    have := own_apart h.out.seg h.out.box (by decide)
    exact this (by rw [← q]; rfl)
  obtain ⟨cur, hB, _, h1, h2, _⟩ := hP
  exact ⟨q0, q1, q2, q3, q4, hB.thaw, h1, h2, n2, n1⟩
theorem small_of {nm : ByteArray} {f t ru : Int} {L : List Seg} {P : List Pat} {rg : List Rgn} (h1 : nm.size ≤ 16) (h2 : -1 ≤ f) (h3 : f ≤ 700000) (h4 : -1 ≤ t) (h5 : t ≤ 1000000) (h6 : 1 ≤ L.length) (h7 : L.length ≤ 4) (h8 : P.length ≤ 2) : DSmall ⟨nm, f, t, L, P, rg, ru⟩ := ⟨h1, h2, h3, h4, h5, h6, h7, h8⟩
/-- Behind the switch: a regime under way, small. -/
def RgSw (w : World) (n0 : Nat) (a : Option Addr) (len cap B R M : Nat) (ar : Option Addr) (cr : Nat) (rg : List Rgn) (V : World) : Prop := ∃ (nm : ByteArray) (f t ru : Int) (L : List Seg) (P : List Pat) (gs ls cs : Nat) (ap : Option Addr) (lp cp : Nat), ls = L.length ∧ lp = P.length ∧ Hid (DSmall ⟨nm, f, t, L, P, rg, ru⟩) ∧ Hid (GdSt w n0 a len cap B R #[.string nm, .int .i64 f, .int .i64 t, .slice (some ⟨gs, 0, none⟩) ls cs, .slice ap lp cp, .slice ar rg.length cr, .int .i64 ru] (.slice (some ⟨gs, 0, none⟩) ls cs) (.slice ap lp cp) L P V) ∧ Hid (RMid M R V (.slice ar rg.length cr) rg)
theorem rgsw_of {w V : World} {n0 : Nat} {a : Option Addr} {len cap B R M : Nat} {ar : Option Addr} {cr : Nat} {rg : List Rgn} {nm : ByteArray} {f t ru : Int} {L : List Seg} {P : List Pat} {gs ls cs : Nat} {ap : Option Addr} {lp cp : Nat} (hls : ls = L.length) (hlp : lp = P.length) (S : Hid (GdSt w n0 a len cap B R #[.string nm, .int .i64 f, .int .i64 t, .slice (some ⟨gs, 0, none⟩) ls cs, .slice ap lp cp, .slice ar rg.length cr, .int .i64 ru] (.slice (some ⟨gs, 0, none⟩) ls cs) (.slice ap lp cp) L P V)) (HR : Hid (RMid M R V (.slice ar rg.length cr) rg)) (h1 : nm.size ≤ 16) (h2 : -1 ≤ f) (h3 : f ≤ 700000) (h4 : -1 ≤ t) (h5 : t ≤ 1000000) (h6 : 1 ≤ L.length) (h7 : L.length ≤ 4) (h8 : P.length ≤ 2) : RgSw w n0 a len cap B R M ar cr rg V :=
  ⟨nm, f, t, ru, L, P, gs, ls, cs, ap, lp, cp, hls, hlp, ⟨h1, h2, h3, h4, h5, h6, h7, h8⟩, S, HR⟩
def gTo : List Int := [1, -1, -400]
def gOff2 : List Int := [4, -4, 3]
def gDom : List Int := [31, 32, 0]
def gFr : List Int := [399, 400, -1]
theorem gFr_ok0 : ∀ j : Fin 3, -1 ≤ gFr.getD j.val 0 ∧ gFr.getD j.val 0 ≤ 400 := by decide
theorem gFr_ok {j : Nat} (h : j < 3) : -1 ≤ gFr.getD j 0 ∧ gFr.getD j 0 ≤ 400 := gFr_ok0 ⟨j, h⟩

/-- What l09Regime does. -/
def RegimeC : Prop := ∀ (n0 : Nat) (W : World) (a : Option Addr) (len cap B : Nat) (most : Int), 900 ≤ most → most ≤ 1000 → len ≤ maxLen → Cur n0 W a len cap B →
    Calls Tryz.prog 58 #[.pointer (some ⟨B, 0, none⟩), .int .i64 most] W fun e W' => ∃ v r, e = .returned v ∧ DRegW W.heap.size W' v r ∧ DSmall r ∧ Cur n0 W' a len cap B ∧ W.grownBy W' (some B)
end Go.Proofs.YtchhdoipkimbgaaGreatDoor.ctr
