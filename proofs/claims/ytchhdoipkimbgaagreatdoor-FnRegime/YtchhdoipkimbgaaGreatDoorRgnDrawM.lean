/- Contract of the model's draw of a table of reigns (l08Reigns): it answers a list of at most three reigns, whose names are short and have no blank. -/
import Derived.Test.YtchhdoipkimbgaaGreatDoorStyDrawM
import Derived.Test.YtchhdoipkimbgaaGreatDoorIntStM
import Derived.Test.YtchhdoipkimbgaaGreatDoorRgnA
namespace Go.Proofs.YtchhdoipkimbgaaGreatDoor.ctr
open Go.RowKit

/-- A short name without a blank. -/
def okN (s : ByteArray) : Prop := s.size ≤ 16 ∧ (s.data.toList.all fun b => b != 32) = true
def rNames : List ByteArray := [⟨#[111, 116, 116, 111]⟩, ⟨#[104, 101, 110, 114, 121]⟩, ⟨#[99, 111, 110, 114, 97, 100]⟩]
def rOdd : List ByteArray := [⟨#[111, 116, 116, 111]⟩, ⟨#[79, 116, 116, 111]⟩, ⟨#[]⟩]
theorem rNames_ok0 : ∀ j : Fin 3, (rNames.getD j.val ⟨#[]⟩).size ≤ 16 ∧ ((rNames.getD j.val ⟨#[]⟩).data.toList.all fun b => b != 32) = true := by decide
theorem rNames_ok {j : Nat} (h : j < 3) : okN (rNames.getD j ⟨#[]⟩) := rNames_ok0 ⟨j, h⟩
theorem rOdd_ok0 : ∀ j : Fin 3, (rOdd.getD j.val ⟨#[]⟩).size ≤ 16 ∧ ((rOdd.getD j.val ⟨#[]⟩).data.toList.all fun b => b != 32) = true := by decide
theorem rOdd_ok {j : Nat} (h : j < 3) : okN (rOdd.getD j ⟨#[]⟩) := rOdd_ok0 ⟨j, h⟩
theorem rcells_app : ∀ l m : List Rgn, rcells (l ++ m) = rcells l ++ rcells m
  | [], m => rfl
  | r :: l, m => by rw [List.cons_append, rcells, rcells, rcells_app l m, List.append_assoc]
theorem info_rgnT : (Tryz.prog.info? 79).map (fun i => (i.zero, i.size, i.bytes)) = some (some (.agg #[.string ⟨#[]⟩, .int .i64 0, .int .i64 0]), 3, 32) := by kernel_rfl
theorem rown_empty (w : World) : (w.alloc (.cells #[] 79)).ownsRow w.heap.size 79 3 (.slice (some ⟨w.heap.size, 0, none⟩) 0 0) 0 [] :=
  ⟨rfl, .inr ⟨w.heap.size, 0, #[], rfl, Nat.le_refl _, by simp [World.alloc, -World.alloc_eq], Nat.le_refl _, Nat.zero_le _, rfl, rfl⟩⟩
theorem cells_three (W : World) (a b c : Value) (t : TypeId) {n : Nat} (hn : n = W.heap.size) : ∀ (j : Nat) (u : Value), [a, b, c][j]? = some u → (W.alloc (.cells #[a, b, c] t)).cell? ((⟨n, 0, none⟩ : Addr).add j) = some u := by
  intro j u h
  subst hn
  have ha : (⟨W.heap.size, 0, none⟩ : Addr).add j = ⟨W.heap.size, j, none⟩ := by unfold Addr.add; split <;> simp_all
  rw [ha]
  match j, h with
  | 0, h => simpa [World.alloc, World.cell?, -World.alloc_eq] using h
  | 1, h => simpa [World.alloc, World.cell?, -World.alloc_eq] using h
  | 2, h => simpa [World.alloc, World.cell?, -World.alloc_eq] using h
  | j + 3, h => simp at h
/-- The state of the draw: the cursor, and the reigns drawn so far in a row of their own. -/
structure RgSt (w : World) (n0 : Nat) (a : Option Addr) (len cap B : Nat) (o : Value) (l : List Rgn) (W : World) : Prop where
  cur : Cur n0 W a len cap B
  row : W.ownsRow w.heap.size 79 3 o l.length (rcells l)
  names : ∀ k, k < l.length → okN (rgA l k).name
  grown : w.grownBy W (some B)
  hB : B < w.heap.size
theorem RgSt.step {w W W' : World} {n0 : Nat} {a : Option Addr} {len cap B : Nat} {o : Value} {l : List Rgn} (h : Hid (RgSt w n0 a len cap B o l W)) (hG : W.grownBy W' (some B)) (hC : Cur n0 W' a len cap B) : Hid (RgSt w n0 a len cap B o l W') :=
  ⟨hC, h.out.row.kept hG (.inr (fun e => by have := ibase h.out.row B e; have := h.out.hB; omega)), h.out.names, grown_trans h.out.grown hG, h.out.hB⟩
theorem RgSt.alloc {w W : World} {n0 : Nat} {a : Option Addr} {len cap B : Nat} {o : Value} {l : List Rgn} (h : Hid (RgSt w n0 a len cap B o l W)) (ob : Obj) : Hid (RgSt w n0 a len cap B o l (W.alloc ob)) :=
  ⟨h.out.cur.alloc ob, h.out.row.alloc ob, h.out.names, grown_alloc h.out.grown ob, h.out.hB⟩
theorem Cur.grownO {n0 : Nat} {W W' : World} {a : Option Addr} {len cap B : Nat} {r : Option Nat} (h : Cur n0 W a len cap B) (g : W.grownBy W' r) (hr : ∀ k, r = some k → n0 ≤ k ∧ k ≠ B) : Cur n0 W' a len cap B := by
  have hb : Below n0 W W' := (Below.refl n0 W).grown g (Nat.le_trans h.lo (Nat.le_of_lt h.hi)) (fun k e => (hr k e).1)
  have hB : W'.heap[B]? = W.heap[B]? := g.block B h.hi (by intro e; exact (hr B e.symm).2 rfl)
  obtain ⟨y0, hy0⟩ := h.c2
  obtain ⟨i, hi, h1⟩ := h.c1
  exact ⟨h.lo, Nat.lt_of_lt_of_le h.hi g.size, h.code.below hb, (World.cell?_of_block (a := ⟨B, 0, none⟩) hB).trans h.c0, ⟨i, hi, (World.cell?_of_block (a := ⟨B, 1, none⟩) hB).trans h1⟩, ⟨y0, (World.cell?_of_block (a := ⟨B, 2, none⟩) hB).trans hy0⟩,
    (World.frozen?_of_block (a := ⟨B, 1, none⟩) hB).trans h.f1, (World.frozen?_of_block (a := ⟨B, 2, none⟩) hB).trans h.f2⟩
theorem rgA_app {l : List Rgn} {r : Rgn} {k : Nat} (h : k < (l ++ [r]).length) : (k < l.length ∧ rgA (l ++ [r]) k = rgA l k) ∨ rgA (l ++ [r]) k = r := by
  simp at h
  by_cases q : k < l.length
  · exact .inl ⟨q, by simp [rgA, List.getD, List.getElem?_append_left q]⟩
  · obtain rfl : k = l.length := by omega
    exact .inr (by simp [rgA, List.getD])
theorem RgSt.app {w W W' : World} {n0 : Nat} {a : Option Addr} {len cap B : Nat} {o o' : Value} {l : List Rgn} (h : Hid (RgSt w n0 a len cap B o l W)) (s : ByteArray) (f t : Int) (hs : okN s) (hr : W'.ownsRow w.heap.size 79 3 o' (l.length + 1) (rcells l ++ [.string s, .int .i64 f, .int .i64 t])) (hg : W.grownBy W' o.ownBlock) : Hid (RgSt w n0 a len cap B o' (l ++ [⟨s, f, t⟩]) W') := by
  have hn : n0 ≤ w.heap.size := Nat.le_trans h.out.cur.lo (Nat.le_of_lt h.out.hB)
  refine ⟨h.out.cur.grownO hg (fun k e => ⟨by have := ibase h.out.row k e; omega, by have := ibase h.out.row k e; have := h.out.hB; omega⟩), ?_, fun k hk => ?_, ?_, h.out.hB⟩
  · rw [List.length_append, rcells_app]
    exact hr
  · rcases rgA_app hk with ⟨q, e⟩ | e
    · rw [e]; exact h.out.names k q
    · rw [e]; exact hs
  · have g := h.out.grown
    exact ⟨hg.os.trans g.os, hg.tape.trans g.tape, hg.output.trans g.output, Nat.le_trans g.size hg.size, fun j hj hr => (hg.block j (Nat.lt_of_lt_of_le hj g.size) (by
      intro e
      have := ibase h.out.row j e.symm
      omega)).trans (g.block j hj hr)⟩
/-- Each of the reigns has a right name. -/
def RGd (W : World) (g n : Nat) : Prop := ∀ k, k < n → ∃ r, RAt W g k r ∧ okN r.name
theorem rgd_list {W : World} {g n cap : Nat} (h0 : RGd W g n) (hg : g < W.heap.size) (hn : n ≤ cap) (hc : cap ≤ maxLen) : ∃ l : List Rgn, l.length = n ∧ RRow W (.slice (some ⟨g, 0, none⟩) n cap) l ∧ ∀ k, k < l.length → okN (rgA l k).name := by
  have h : ∀ k, k < n → ∃ r, RAt W g k r ∧ okN r.name := h0
  have ex : ∃ f : Nat → Rgn, ∀ k, k < n → RAt W g k (f k) ∧ okN (f k).name := by
    refine ⟨fun k => if q : k < n then Classical.choose (h k q) else r0, fun k hk => ?_⟩
    have e : (if q : k < n then Classical.choose (h k q) else r0) = Classical.choose (h k hk) := dif_pos hk
    show RAt W g k (if q : k < n then Classical.choose (h k q) else r0) ∧ okN (if q : k < n then Classical.choose (h k q) else r0).name
    rw [e]
    exact Classical.choose_spec (h k hk)
  obtain ⟨f, hf⟩ := ex
  have hl : ((List.range n).map f).length = n := by simp
  have ha : ∀ k, k < n → rgA ((List.range n).map f) k = f k := fun k hk => by simp [rgA, List.getD, hk]
  refine ⟨(List.range n).map f, hl, ⟨_, cap, by rw [hl], by omega, hc, fun k hk => ?_, fun k hk => ⟨g, rfl, hg, ?_⟩⟩, fun k hk => ?_⟩
  · rw [hl] at hk
    rw [ha k hk]
    have := (hf k hk).2.1
    unfold maxLen
    omega
  · rw [hl] at hk
    rw [ha k hk]
    exact (hf k hk).1
  · rw [hl] at hk
    rw [ha k hk]
    exact (hf k hk).2
theorem RgSt.open {w W : World} {n0 : Nat} {a : Option Addr} {len cap B : Nat} {o : Value} {l : List Rgn} (h : Hid (RgSt w n0 a len cap B o l W)) (hl : 0 < l.length) : ∃ g c cur, o = .slice (some ⟨g, 0, none⟩) l.length c ∧ w.heap.size ≤ g ∧ l.length ≤ c ∧ c ≤ maxLen ∧ Blk W g cur 79 ∧ cur.toList.take (l.length * 3) = rcells l := by
  rcases h.out.row.2 with ⟨_, h0⟩ | ⟨g, c, cur, hv, hb, hh, hcap, hm, hsz, htake⟩
  · omega
  · exact ⟨g, c, cur, hv, hb, hcap, hm, hh, htake⟩
theorem RgSt.rgd {W : World} {g : Nat} {cur : Array Value} {t : TypeId} {l : List Rgn} (hB : Blk W g cur t) (ht : cur.toList.take (l.length * 3) = rcells l) (hn : ∀ k, k < l.length → okN (rgA l k).name) : RGd W g l.length := by
  intro k hk
  have at_ : ∀ j v, j < 3 → (rvals (rgA l k))[j]? = some v → cur[k * 3 + j]? = some v := fun j v hj e => by
    have := rcells_at l k j v hk e
    rw [← ht, List.getElem?_take] at this
    split at this
    · simpa using this
    · cases this
  exact ⟨rgA l k, ⟨by have := hB.cell (k * 3 + 0) (at_ 0 _ (by omega) rfl); simpa using this, hB.cell (k * 3 + 1) (at_ 1 _ (by omega) rfl), hB.cell (k * 3 + 2) (at_ 2 _ (by omega) rfl)⟩, hn k hk⟩
theorem addr_ne {g i j : Nat} (h : i ≠ j) : (⟨g, i, none⟩ : Addr) ≠ ⟨g, j, none⟩ := by
  intro e
  injection e with _ e2
  exact h e2
theorem RGd.name {W : World} {g n i : Nat} {s : ByteArray} (h : RGd W g n) (hi : i < n) (hs : okN s) : RGd (W.setCell ⟨g, i * 3, none⟩ (.string s)) g n := by
  intro k hk
  obtain ⟨r, ⟨h0, h1, h2⟩, hr⟩ := h k hk
  by_cases q : k = i
  · subst q
    exact ⟨⟨s, r.fr, r.to⟩, ⟨World.cell?_setCell_same W _ _ h0, by rw [World.cell?_setCell_other W _ _ _ (addr_ne (by omega))]; exact h1, by rw [World.cell?_setCell_other W _ _ _ (addr_ne (by omega))]; exact h2⟩, hs⟩
  · exact ⟨r, ⟨by rw [World.cell?_setCell_other W _ _ _ (addr_ne (by omega))]; exact h0, by rw [World.cell?_setCell_other W _ _ _ (addr_ne (by omega))]; exact h1, by rw [World.cell?_setCell_other W _ _ _ (addr_ne (by omega))]; exact h2⟩, hr⟩
theorem RGd.fr {W : World} {g n i : Nat} {z : Int} (h : RGd W g n) (hi : i < n) : RGd (W.setCell ⟨g, i * 3 + 1, none⟩ (.int .i64 z)) g n := by
  intro k hk
  obtain ⟨r, ⟨h0, h1, h2⟩, hr⟩ := h k hk
  by_cases q : k = i
  · subst q
    exact ⟨⟨r.name, z, r.to⟩, ⟨by rw [World.cell?_setCell_other W _ _ _ (addr_ne (by omega))]; exact h0, World.cell?_setCell_same W _ _ h1, by rw [World.cell?_setCell_other W _ _ _ (addr_ne (by omega))]; exact h2⟩, hr⟩
  · exact ⟨r, ⟨by rw [World.cell?_setCell_other W _ _ _ (addr_ne (by omega))]; exact h0, by rw [World.cell?_setCell_other W _ _ _ (addr_ne (by omega))]; exact h1, by rw [World.cell?_setCell_other W _ _ _ (addr_ne (by omega))]; exact h2⟩, hr⟩
theorem RGd.to {W : World} {g n i : Nat} {z : Int} (h : RGd W g n) (hi : i < n) : RGd (W.setCell ⟨g, i * 3 + 2, none⟩ (.int .i64 z)) g n := by
  intro k hk
  obtain ⟨r, ⟨h0, h1, h2⟩, hr⟩ := h k hk
  by_cases q : k = i
  · subst q
    exact ⟨⟨r.name, r.fr, z⟩, ⟨by rw [World.cell?_setCell_other W _ _ _ (addr_ne (by omega))]; exact h0, by rw [World.cell?_setCell_other W _ _ _ (addr_ne (by omega))]; exact h1, World.cell?_setCell_same W _ _ h2⟩, hr⟩
  · exact ⟨r, ⟨by rw [World.cell?_setCell_other W _ _ _ (addr_ne (by omega))]; exact h0, by rw [World.cell?_setCell_other W _ _ _ (addr_ne (by omega))]; exact h1, by rw [World.cell?_setCell_other W _ _ _ (addr_ne (by omega))]; exact h2⟩, hr⟩
theorem RGd.grown {W W' : World} {g n B : Nat} (h : RGd W g n) (hg : g < W.heap.size) (hG : W.grownBy W' (some B)) (hne : g ≠ B) : RGd W' g n := by
  intro k hk
  obtain ⟨r, ⟨h0, h1, h2⟩, hr⟩ := h k hk
  exact ⟨r, ⟨(grown_cell hG (p := ⟨g, k * 3, none⟩) hg hne).trans h0, (grown_cell hG (p := ⟨g, k * 3 + 1, none⟩) hg hne).trans h1, (grown_cell hG (p := ⟨g, k * 3 + 2, none⟩) hg hne).trans h2⟩, hr⟩
/-- What is drawn: a list of at most three reigns. -/
def RDrawn (W : World) (v : Value) (l : List Rgn) : Prop := RRow W v l ∧ l.length ≤ 3 ∧ ∀ k, k < l.length → okN (rgA l k).name
/-- The state behind the loop. -/
structure RfSt (w : World) (n0 : Nat) (a : Option Addr) (len cap B g n : Nat) (W : World) : Prop where
  cur : Cur n0 W a len cap B
  blk : ∃ cur, Blk W g cur 79
  rgd : RGd W g n
  grown : w.grownBy W (some B)
  hg : w.heap.size ≤ g
  hB : B < w.heap.size
theorem RfSt.lt {w W : World} {n0 : Nat} {a : Option Addr} {len cap B g n : Nat} (h : RfSt w n0 a len cap B g n W) : g < W.heap.size := by
  obtain ⟨c, hb⟩ := h.blk
  exact hb.lt
theorem RfSt.step {w W W' : World} {n0 : Nat} {a : Option Addr} {len cap B g n : Nat} (h : Hid (RfSt w n0 a len cap B g n W)) (hG : W.grownBy W' (some B)) (hC : Cur n0 W' a len cap B) : Hid (RfSt w n0 a len cap B g n W') := by
  have hne : g ≠ B := by have := h.out.hg; have := h.out.hB; omega
  obtain ⟨c, hb⟩ := h.out.blk
  exact ⟨hC, ⟨c, hb.grown hG hne⟩, h.out.rgd.grown hb.lt hG hne, grown_trans h.out.grown hG, h.out.hg, h.out.hB⟩
theorem RGd.below {W W' : World} {g n : Nat} (h : RGd W g n) (hg : g < W.heap.size) (hb : Below W.heap.size W W') : RGd W' g n := by
  intro k hk
  obtain ⟨r, hr, hn⟩ := h k hk
  exact ⟨r, hr.below hb hg, hn⟩
theorem RfSt.alloc {w W : World} {n0 : Nat} {a : Option Addr} {len cap B g n : Nat} (h : Hid (RfSt w n0 a len cap B g n W)) (ob : Obj) : Hid (RfSt w n0 a len cap B g n (W.alloc ob)) := by
  obtain ⟨c, hb⟩ := h.out.blk
  exact ⟨h.out.cur.alloc ob, ⟨c, hb.alloc ob⟩, h.out.rgd.below hb.lt ((Below.refl _ _).alloc (Nat.le_refl _) _), grown_alloc h.out.grown ob, h.out.hg, h.out.hB⟩
theorem RfSt.thaw {w W : World} {n0 : Nat} {a : Option Addr} {len cap B g n : Nat} (h : RfSt w n0 a len cap B g n W) (k : Nat) : W.frozen? ⟨g, k, none⟩ = false := by
  obtain ⟨c, hb⟩ := h.blk
  exact hb.thaw k
theorem rrow_grown {W W' : World} {g n c B : Nat} {l : List Rgn} (h : RRow W (.slice (some ⟨g, 0, none⟩) n c) l) (hG : W.grownBy W' (some B)) (hne : g ≠ B) : RRow W' (.slice (some ⟨g, 0, none⟩) n c) l := by
  obtain ⟨ad, cap, e, h1, h2, h3, h⟩ := h
  cases e
  refine ⟨_, _, rfl, h1, h2, h3, fun k hk => ?_⟩
  obtain ⟨g', e, hg, c0, c1, c2⟩ := h k hk
  cases e
  exact ⟨g, rfl, Nat.lt_of_lt_of_le hg hG.size, (grown_cell hG (p := ⟨g, k * 3, none⟩) hg hne).trans c0, (grown_cell hG (p := ⟨g, k * 3 + 1, none⟩) hg hne).trans c1, (grown_cell hG (p := ⟨g, k * 3 + 2, none⟩) hg hne).trans c2⟩
/-- What is drawn, in memory that was not there below base. -/
def RNewR (base : Nat) (W : World) (v : Value) (l : List Rgn) : Prop := RDrawn W v l ∧ (l = [] ∨ ∃ g n c, v = .slice (some ⟨g, 0, none⟩) n c ∧ base ≤ g)
theorem rrow_nil {W W' : World} {v : Value} (h : RRow W v []) : RRow W' v [] := by
  obtain ⟨ad, cap, rfl, h1, h2, _, _⟩ := h
  exact ⟨ad, cap, rfl, h1, h2, fun k hk => by simp at hk, fun k hk => by simp at hk⟩
theorem RNewR.grown {base B : Nat} {W W' : World} {v : Value} {l : List Rgn} (h : RNewR base W v l) (hG : W.grownBy W' (some B)) (hB : B < base) : RNewR base W' v l := by
  obtain ⟨⟨hr, h1, h2⟩, rfl | ⟨g, n, c, rfl, hg⟩⟩ := h
  · exact ⟨⟨rrow_nil hr, h1, h2⟩, .inl rfl⟩
  · exact ⟨⟨rrow_grown hr hG (by omega), h1, h2⟩, .inr ⟨g, n, c, rfl, hg⟩⟩
theorem RNewR.below {base : Nat} {W W' : World} {v : Value} {l : List Rgn} (h : RNewR base W v l) (hb : Below W.heap.size W W') : RNewR base W' v l := ⟨⟨h.1.1.below hb, h.1.2⟩, h.2⟩
theorem RNewR.mono {base b2 : Nat} {W : World} {v : Value} {l : List Rgn} (h : RNewR base W v l) (hb : b2 ≤ base) : RNewR b2 W v l := by
  obtain ⟨h1, rfl | ⟨g, n, c, rfl, hg⟩⟩ := h
  · exact ⟨h1, .inl rfl⟩
  · exact ⟨h1, .inr ⟨g, n, c, rfl, by omega⟩⟩
/-- What is given back. -/
def RBack (w : World) (n0 : Nat) (a : Option Addr) (len cap B : Nat) (v : Value) (W : World) : Prop := ∃ l, RNewR w.heap.size W v l ∧ Cur n0 W a len cap B ∧ w.grownBy W (some B)
theorem RgSt.nil {w W : World} {n0 : Nat} {a : Option Addr} {len cap B : Nat} {o : Value} {l : List Rgn} (h : Hid (RgSt w n0 a len cap B o l W)) (hl : l.length = 0) : RBack w n0 a len cap B o W := by
  obtain rfl : l = [] := List.length_eq_zero_iff.1 hl
  refine ⟨[], ⟨⟨?_, by simp, fun k hk => by simp at hk⟩, .inl rfl⟩, h.out.cur, h.out.grown⟩
  rcases h.out.row.2 with ⟨rfl, h0⟩ | ⟨g, c, cur, hv, hb, hh, hcap, hm, hsz, htake⟩
  · exact ⟨_, _, rfl, Nat.zero_le _, by unfold maxLen; omega, fun k hk => by simp at hk, fun k hk => by simp at hk⟩
  · subst hv
    exact ⟨_, _, rfl, hcap, hm, fun k hk => by simp at hk, fun k hk => by simp at hk⟩
theorem RfSt.done {w W : World} {n0 : Nat} {a : Option Addr} {len cap B g n c : Nat} (h : RfSt w n0 a len cap B g n W) (h1 : n ≤ 3) (h2 : n ≤ c) (h3 : c ≤ maxLen) : RBack w n0 a len cap B (.slice (some ⟨g, 0, none⟩) n c) W := by
  obtain ⟨l, hl, hr, hn⟩ := rgd_list h.rgd h.lt h2 h3
  exact ⟨l, ⟨⟨hr, by omega, hn⟩, .inr ⟨g, n, c, rfl, h.hg⟩⟩, h.cur, h.grown⟩
theorem RfSt.back {w W : World} {n0 : Nat} {a : Option Addr} {len cap B g n c k : Nat} {v : Value} (h : RfSt w n0 a len cap B g n W) (h1 : n ≤ 3) (h2 : n ≤ c) (h3 : c ≤ maxLen) (hd : RGd (W.setCell ⟨g, k, none⟩ v) g n) : RBack w n0 a len cap B (.slice (some ⟨g, 0, none⟩) n c) (W.setCell ⟨g, k, none⟩ v) := by
  obtain ⟨l, hl, hr, hn⟩ := rgd_list hd (by rw [set_size]; exact h.lt) h2 h3
  exact ⟨l, ⟨⟨hr, by omega, hn⟩, .inr ⟨g, n, c, rfl, h.hg⟩⟩, h.cur.store v (Nat.le_trans h.cur.lo (by have := h.hg; have := h.hB; omega)) (by have := h.hg; have := h.hB; omega), grown_store h.grown v h.hg⟩
def pick1 : List Int := [0, 0, 1, 40]
def pick2 : List Int := [0, 100, 365, 400, 900]
def pick3 : List Int := [-5, 1200000, 9223372036854775807]

end Go.Proofs.YtchhdoipkimbgaaGreatDoor.ctr
