/- What a draw of a regime holds under way: the cursor, the regime's block, its segments and patches in rows of their own ('GdSt'); what it leaves ('DReg'). -/
import Derived.Test.YtchhdoipkimbgaaGreatDoorRgnDrawM
import Derived.Test.YtchhdoipkimbgaaGreatDoorPRowKitM
import Derived.Test.YtchhdoipkimbgaaGreatDoorRgmHelpM
import Derived.Test.YtchhdoipkimbgaaGreatDoorGoodPlainM
namespace Go.Proofs.YtchhdoipkimbgaaGreatDoor.ctr
open Go.RowKit

/-- A block of another type is not the row's own. -/
theorem own_apart {w : World} {base e size : Nat} {v : Value} {n : Nat} {xs : List Value} {b : Nat} {vs : Array Value} {t : TypeId} (h : w.ownsRow base e size v n xs) (hb : Blk w b vs t) (hte : t ≠ e) : some b ≠ v.ownBlock := by
  rcases h.2 with ⟨rfl, _⟩ | ⟨g, cap, cur, rfl, _, hg, _⟩
  · intro q; cases q
  · intro q
    have q : b = g := by simpa [Value.ownBlock] using q
    subst q
    unfold Blk at hb
    rw [hb] at hg
    cases hg
    exact hte rfl
theorem own_two {w : World} {base base' e e' size size' : Nat} {v v' : Value} {n n' : Nat} {xs xs' : List Value} (h : w.ownsRow base e size v n xs) (h' : w.ownsRow base' e' size' v' n' xs') (hne : e ≠ e') : v.ownBlock = none ∨ v.ownBlock ≠ v'.ownBlock := by
  rcases h.2 with ⟨rfl, _⟩ | ⟨g, cap, cur, rfl, _, hh, _⟩
  · exact .inl rfl
  · exact .inr (own_apart h' (b := g) (vs := cur) hh hne)
theorem own_drew {w : World} {base e size : Nat} {v : Value} {n : Nat} {xs : List Value} (h : w.ownsRow base e size v n xs) : w.drew.ownsRow base e size v n xs := h
theorem irow_owns {α : Type} {K : IK α} {T : TypeId} {W : World} {base : Nat} {v : Value} {L : List α} (h : W.ownsRow base T K.m v L.length (icells K L)) : IRow K W v L := by
  rcases h.2 with ⟨rfl, h0⟩ | ⟨g, cap, cur, rfl, hg, hB, h1, h2, hs, hC⟩
  · obtain rfl : L = [] := List.length_eq_zero_iff.1 h0
    exact ⟨none, 0, rfl, Nat.zero_le _, by unfold maxLen; omega, fun k hk => by simp at hk⟩
  · exact PRow.row (T := T) ⟨cur, hB, hs, h1, h2, CIs.of_take hC⟩
/-- A draw of a regime under way. -/
structure GdSt (w : World) (n0 : Nat) (a : Option Addr) (len cap B R : Nat) (vs : Array Value) (sv pv : Value) (L : List Seg) (P : List Pat) (W : World) : Prop where
  cur : Cur n0 W a len cap B
  grown : w.grownBy W (some B)
  hB : B < w.heap.size
  zer : Blk W w.heap.size gmZero 29
  box : Blk W R vs 29
  hR : w.heap.size < R
  seg : W.ownsRow w.heap.size 56 5 sv L.length (icells segK L)
  pat : W.ownsRow w.heap.size 76 3 pv P.length (icells patK P)
section
variable {w W W' : World} {n0 : Nat} {a : Option Addr} {len cap B R : Nat} {vs : Array Value} {sv pv : Value} {L : List Seg} {P : List Pat}
theorem GdSt.step (h : Hid (GdSt w n0 a len cap B R vs sv pv L P W)) (hG : W.grownBy W' (some B)) (hC : Cur n0 W' a len cap B) : Hid (GdSt w n0 a len cap B R vs sv pv L P W') := by
  have hB := h.out.hB
  have hR := h.out.hR
  exact ⟨hC, grown_trans h.out.grown hG, hB, h.out.zer.grown hG (by omega), h.out.box.grown hG (by omega), hR, h.out.seg.kept hG (.inr (fun e => by have := ibase h.out.seg B e; omega)), h.out.pat.kept hG (.inr (fun e => by have := ibase h.out.pat B e; omega))⟩
theorem GdSt.al (h : Hid (GdSt w n0 a len cap B R vs sv pv L P W)) (o : Obj) : Hid (GdSt w n0 a len cap B R vs sv pv L P (W.alloc o)) :=
  ⟨h.out.cur.alloc o, grown_alloc h.out.grown o, h.out.hB, h.out.zer.alloc o, h.out.box.alloc o, h.out.hR, h.out.seg.alloc o, h.out.pat.alloc o⟩
theorem GdSt.dr (h : Hid (GdSt w n0 a len cap B R vs sv pv L P W)) : Hid (GdSt w n0 a len cap B R vs sv pv L P W.drew) :=
  ⟨⟨h.out.cur.lo, h.out.cur.hi, h.out.cur.code, h.out.cur.c0, h.out.cur.c1, h.out.cur.c2, h.out.cur.f1, h.out.cur.f2⟩, ⟨h.out.grown.os, h.out.grown.tape, h.out.grown.output, h.out.grown.size, h.out.grown.block⟩, h.out.hB, h.out.zer, h.out.box, h.out.hR, h.out.seg, h.out.pat⟩
theorem GdSt.below (h : Hid (GdSt w n0 a len cap B R vs sv pv L P W)) (hb : Below W.heap.size W W') : Hid (GdSt w n0 a len cap B R vs sv pv L P W') :=
  ⟨h.out.cur.below hb, grown_trans h.out.grown (grown_of_below hb), h.out.hB, h.out.zer.below hb h.out.zer.lt, h.out.box.below hb h.out.box.lt, h.out.hR, iown_later h.out.seg hb, iown_later h.out.pat hb⟩
theorem GdSt.store (h : Hid (GdSt w n0 a len cap B R vs sv pv L P W)) (j : Nat) (v : Value) : Hid (GdSt w n0 a len cap B R (vs.setIfInBounds j v) sv pv L P (W.setCell ⟨R, j, none⟩ v)) := by
  have hB := h.out.hB
  have hR := h.out.hR
  have hlo := h.out.cur.lo
  exact ⟨h.out.cur.store v (by omega) (by omega), grown_store h.out.grown v (by omega), hB, h.out.zer.other (by omega), h.out.box.set j v, hR, h.out.seg.kept (grown_set W R j v) (.inr (own_apart h.out.seg h.out.box (by decide)).symm), h.out.pat.kept (grown_set W R j v) (.inr (own_apart h.out.pat h.out.box (by decide)).symm)⟩
theorem grown_app {w W W' : World} {B : Nat} {r : Option Nat} (g : w.grownBy W (some B)) (hg : W.grownBy W' r) (hr : ∀ k, r = some k → w.heap.size ≤ k) : w.grownBy W' (some B) :=
  ⟨hg.os.trans g.os, hg.tape.trans g.tape, hg.output.trans g.output, Nat.le_trans g.size hg.size, fun j hj hn => (hg.block j (Nat.lt_of_lt_of_le hj g.size) (by
      intro e
      have := hr j e.symm
      omega)).trans (g.block j hj hn)⟩
theorem GdSt.appS (h : Hid (GdSt w n0 a len cap B R vs sv pv L P W)) (x : Seg) {sv' : Value} (hr : W'.ownsRow w.heap.size 56 5 sv' (L.length + 1) (icells segK L ++ icell segK x)) (hg : W.grownBy W' sv.ownBlock) : Hid (GdSt w n0 a len cap B R vs sv' pv (L ++ [x]) P W') := by
  have hB := h.out.hB
  have hlo := h.out.cur.lo
  refine ⟨h.out.cur.grownO hg (fun k e => ⟨by have := ibase h.out.seg k e; omega, by have := ibase h.out.seg k e; omega⟩), grown_app h.out.grown hg (ibase h.out.seg), hB, (hg.block _ h.out.zer.lt (own_apart h.out.seg h.out.zer (by decide))).trans h.out.zer, (hg.block _ h.out.box.lt (own_apart h.out.seg h.out.box (by decide))).trans h.out.box, h.out.hR, ?_, h.out.pat.kept hg (own_two h.out.pat h.out.seg (by decide))⟩
  rw [List.length_append, icells_app, show icells segK [x] = icell segK x by simp [icells]]
  exact hr
theorem GdSt.appP (h : Hid (GdSt w n0 a len cap B R vs sv pv L P W)) (x : Pat) {pv' : Value} (hr : W'.ownsRow w.heap.size 76 3 pv' (P.length + 1) (icells patK P ++ icell patK x)) (hg : W.grownBy W' pv.ownBlock) : Hid (GdSt w n0 a len cap B R vs sv pv' L (P ++ [x]) W') := by
  have hB := h.out.hB
  have hlo := h.out.cur.lo
  refine ⟨h.out.cur.grownO hg (fun k e => ⟨by have := ibase h.out.pat k e; omega, by have := ibase h.out.pat k e; omega⟩), grown_app h.out.grown hg (ibase h.out.pat), hB, (hg.block _ h.out.zer.lt (own_apart h.out.pat h.out.zer (by decide))).trans h.out.zer, (hg.block _ h.out.box.lt (own_apart h.out.pat h.out.box (by decide))).trans h.out.box, h.out.hR, h.out.seg.kept hg (own_two h.out.seg h.out.pat (by decide)), ?_⟩
  rw [List.length_append, icells_app, show icells patK [x] = icell patK x by simp [icells]]
  exact hr
end
/-- A regime as it was drawn: its rows lie in blocks that were not there below base; the reigns' behind the two others. -/
def DReg (base : Nat) (W : World) (v : Value) (r : Rgm) : Prop := ∃ sv pv rv M, v = .agg #[.string r.name, .int .i64 r.fr, .int .i64 r.to, sv, pv, rv, .int .i64 r.rule] ∧ base ≤ M ∧ W.ownsRow base 56 5 sv r.segs.length (icells segK r.segs) ∧ W.ownsRow base 76 3 pv r.pats.length (icells patK r.pats) ∧ RNewR M W rv r.rgns ∧ (∀ k, sv.ownBlock = some k → k < M) ∧ ∀ k, pv.ownBlock = some k → k < M
/-- How great it is. -/
def DSmall (r : Rgm) : Prop := r.name.size ≤ 16 ∧ -1 ≤ r.fr ∧ r.fr ≤ 700000 ∧ -1 ≤ r.to ∧ r.to ≤ 1000000 ∧ 1 ≤ r.segs.length ∧ r.segs.length ≤ 4 ∧ r.pats.length ≤ 2
theorem DReg.row {base : Nat} {W : World} {v : Value} {r : Rgm} (h : DReg base W v r) (hs : DSmall r) : GRow W v r := by
  obtain ⟨sv, pv, rv, M, e, _, h1, h2, h3, _⟩ := h
  exact ⟨sv, pv, rv, e, by have := hs.1; unfold maxLen; omega, irow_owns h1, irow_owns h2, h3.1.1⟩
theorem DReg.below {base : Nat} {W W' : World} {v : Value} {r : Rgm} (h : DReg base W v r) (hb : Below W.heap.size W W') : DReg base W' v r := by
  obtain ⟨sv, pv, rv, M, e, hM, h1, h2, h3, h4⟩ := h
  exact ⟨sv, pv, rv, M, e, hM, iown_later h1 hb, iown_later h2 hb, h3.below hb, h4⟩
theorem DReg.grown {base B : Nat} {W W' : World} {v : Value} {r : Rgm} (h : DReg base W v r) (hG : W.grownBy W' (some B)) (hB : B < base) : DReg base W' v r := by
  obtain ⟨sv, pv, rv, M, e, hM, h1, h2, h3, h4⟩ := h
  exact ⟨sv, pv, rv, M, e, hM, h1.kept hG (.inr (fun e => by have := ibase h1 B e; omega)), h2.kept hG (.inr (fun e => by have := ibase h2 B e; omega)), h3.grown hG (by omega), h4⟩
/-- Seven cells stored one after the other. -/
def put7 (w : World) (g : Nat) (v0 v1 v2 v3 v4 v5 v6 : Value) : World := ((((((w.setCell ⟨g, 0, none⟩ v0).setCell ⟨g, 1, none⟩ v1).setCell ⟨g, 2, none⟩ v2).setCell ⟨g, 3, none⟩ v3).setCell ⟨g, 4, none⟩ v4).setCell ⟨g, 5, none⟩ v5).setCell ⟨g, 6, none⟩ v6
theorem put7_grown (w : World) (g : Nat) (v0 v1 v2 v3 v4 v5 v6 : Value) : w.grownBy (put7 w g v0 v1 v2 v3 v4 v5 v6) (some g) :=
  grown_trans (grown_trans (grown_trans (grown_trans (grown_trans (grown_trans (grown_set w g 0 v0) (grown_set _ g 1 v1)) (grown_set _ g 2 v2)) (grown_set _ g 3 v3)) (grown_set _ g 4 v4)) (grown_set _ g 5 v5)) (grown_set _ g 6 v6)
theorem put7_blk {w : World} {g : Nat} {u0 u1 u2 u3 u4 u5 u6 : Value} {t : TypeId} (h : Blk w g #[u0, u1, u2, u3, u4, u5, u6] t) (v0 v1 v2 v3 v4 v5 v6 : Value) : Blk (put7 w g v0 v1 v2 v3 v4 v5 v6) g #[v0, v1, v2, v3, v4, v5, v6] t := by
  have h' := ((((((h.set 0 v0).set 1 v1).set 2 v2).set 3 v3).set 4 v4).set 5 v5).set 6 v6
  simpa [put7] using h'
theorem rnew_nil (M : Nat) (W : World) (ad : Option Addr) (cp : Nat) (h : cp ≤ maxLen) : RNewR M W (.slice ad 0 cp) [] :=
  ⟨⟨⟨_, _, rfl, Nat.zero_le _, h, fun k hk => by simp at hk, fun k hk => by simp at hk⟩, by simp, fun k hk => by simp at hk⟩, .inl rfl⟩
theorem GdSt.final {w V : World} {n0 : Nat} {a : Option Addr} {len cap B R M : Nat} {nm : ByteArray} {f t ru : Int} {sv pv rv : Value} {L : List Seg} {P : List Pat} {rg : List Rgn} {vs : Array Value} (h : Hid (GdSt w n0 a len cap B R vs sv pv L P V)) (hr : RNewR M V rv rg) (hM : w.heap.size < M) (hs : ∀ k, sv.ownBlock = some k → k < M) (hp : ∀ k, pv.ownBlock = some k → k < M) :
    DReg w.heap.size (put7 V w.heap.size (.string nm) (.int .i64 f) (.int .i64 t) sv pv rv (.int .i64 ru)) (.agg #[.string nm, .int .i64 f, .int .i64 t, sv, pv, rv, .int .i64 ru]) ⟨nm, f, t, L, P, rg, ru⟩ ∧ Cur n0 (put7 V w.heap.size (.string nm) (.int .i64 f) (.int .i64 t) sv pv rv (.int .i64 ru)) a len cap B ∧ w.grownBy (put7 V w.heap.size (.string nm) (.int .i64 f) (.int .i64 t) sv pv rv (.int .i64 ru)) (some B) ∧ Blk (put7 V w.heap.size (.string nm) (.int .i64 f) (.int .i64 t) sv pv rv (.int .i64 ru)) w.heap.size #[.string nm, .int .i64 f, .int .i64 t, sv, pv, rv, .int .i64 ru] 29 := by
  have hB := h.out.hB
  have hlo := h.out.cur.lo
  have g := put7_grown V w.heap.size (.string nm) (.int .i64 f) (.int .i64 t) sv pv rv (.int .i64 ru)
  refine ⟨⟨sv, pv, rv, M, rfl, by omega, h.out.seg.kept g (.inr (own_apart h.out.seg h.out.zer (by decide)).symm), h.out.pat.kept g (.inr (own_apart h.out.pat h.out.zer (by decide)).symm), hr.grown g hM, hs, hp⟩, h.out.cur.grownO g (fun k e => by cases e; omega), ?_, put7_blk h.out.zer _ _ _ _ _ _ _⟩
  exact grown_app h.out.grown g (fun k e => by cases e; omega)
end Go.Proofs.YtchhdoipkimbgaaGreatDoor.ctr
