/- Contracts of SolarYears of both sides: each answers, in a row of its own, the years of 1 January in which a month's day of a year of a style stands; nothing that was there turns. Contract of the model's draw of a table of reigns (l08Reigns): it answers a list of at most three reigns, whose names are short and have no blank. Contract of the model's draw of a table of reigns (l08Reigns), the walk. Contracts of the model's draws for FnReign, first half: l08Case, DrawReignsOk, DrawReignAt, DrawReignText, DrawReadReign, DrawGaps. Contracts of the model's draws for FnReign, second half: l08One, DrawReignYear, DrawReignDays, DrawLastYear. Contracts of both ReignDays: each answers, in a row of its own, the days of a reign whose year is told; nothing that was there turns. Plain laws of reigns: a name is found at its own place; the ends of a gap lie in no reign; the days of a year lie one behind the other; a text of a reign is read back. Contracts of both ReadReign: each answers what a text is read as, over lists whose names have no blank. Contract of the model's Gaps: it answers, in a row of its own, the runs of days in no reign; nothing that was there turns. Contract of the program's Gaps: it answers, in a row of its own, the runs of days in no reign; nothing that was there turns. What '!=' says of two arrays of two ints, in this program. The great region of the law FnReign, as the program has it: closed facts on the order of its operations; an operation that answers a value at once ('op_run'). -/
import Derived.Test.YtcdcniniafejbaaGreatDoorStyFun
import Derived.Test.YtcdcniniafejbaaGreatDoorRgP
import Derived.Test.YtcdcniniafejbaaGreatDoorRgA
import Derived.Test.YtcdcniniafejbaaGreatDoorRgnList
import Derived.Test.YtcdcniniafejbaaGreatDoorRgnHelp
import Derived.Test.YtcdcniniafejbaaGreatDoorRgnText
import Derived.BigRegion
import Derived.RegionTactic
import Derived.ChangeAlike
import Derived.Test.YtcdcniniafejbaaGreatDoorRgnYear2
import Derived.PlainAid
import Derived.Test.YtcdcniniafejbaaGreatDoorRgnGapP
import Derived.Test.YtcdcniniafejbaaGreatDoorRgnOkS
import Derived.Laws.StructEq
import Derived.KernelRfl
namespace Go.Proofs.YtcdcniniafejbaaGreatDoor.ctr
open Go.RowKit

theorem ibase {w : World} {base e size : Nat} {v : Value} {n : Nat} {xs : List Value} (h : w.ownsRow base e size v n xs) : ∀ k, v.ownBlock = some k → base ≤ k := by
  intro k hk
  rcases h.2 with ⟨rfl, _⟩ | ⟨g, cap, cur, rfl, hb, _⟩
  · cases hk
  · have : k = g := by simpa [Value.ownBlock] using hk.symm
    omega
theorem inew (W : World) (o : Obj) : (W.alloc o).heap.size = W.heap.size + 1 := by simp [World.alloc, -World.alloc_eq]
theorem iown_empty (w : World) (e : TypeId) : (w.alloc (.cells #[] e)).ownsRow w.heap.size e 1 (.slice (some ⟨w.heap.size, 0, none⟩) 0 0) 0 [] :=
  ⟨rfl, .inr ⟨w.heap.size, 0, #[], rfl, Nat.le_refl _, by simp [World.alloc, -World.alloc_eq], Nat.le_refl _, Nat.zero_le _, rfl, rfl⟩⟩
theorem iown_later {w w' : World} {base e size : Nat} {v : Value} {n : Nat} {xs : List Value} (h : w.ownsRow base e size v n xs) (hb : Below w.heap.size w w') : w'.ownsRow base e size v n xs :=
  h.kept (row := none) ⟨hb.os, hb.tape, hb.output, hb.size, fun k hk _ => hb.block k hk⟩ (Classical.em _)
/-- The state of a loop that puts ints together: they lie in a row of their own. -/
structure ISt (w : World) (o : Value) (xs : List Int) (W : World) : Prop where
  row : W.ownsRow w.heap.size 3 1 o xs.length (xs.map (Value.int .i64))
  below : Below w.heap.size w W
theorem ISt.later {w : World} {o : Value} {xs : List Int} {W W' : World} (h : ISt w o xs W) (hb : Below W.heap.size W W') : ISt w o xs W' := ⟨iown_later h.row hb, h.below.trans (hb.mono h.below.size)⟩
theorem ISt.app {w : World} {o o' : Value} {xs : List Int} {W W' : World} {ob : Obj} (h : ISt w o xs W) (z : Int) (hr : W'.ownsRow w.heap.size 3 1 o' (xs.length + 1) (xs.map (Value.int .i64) ++ [.int .i64 z])) (hg : (W.alloc ob).grownBy W' o.ownBlock) : ISt w o' (xs ++ [z]) W' := by
  refine ⟨?_, (h.below.alloc h.below.size ob).grown hg (by have := h.below.size; rw [inew]; omega) (ibase h.row)⟩
  rw [List.length_append, List.map_append]
  exact hr
theorem ISt.nil (w : World) : ISt w (.slice none 0 0) [] w := ⟨World.ownsRow_nil _ _ _ _, Below.refl _ _⟩

/-- The first k of the three years that are told. -/
def solTo (c s y m d : Int) (k : Nat) : List Int := ([y - 1, y, y + 1].take k).filter (solB c s y m d)
theorem solTo_all (c s y m d : Int) : solTo c s y m d 3 = solarYears c s y m d := rfl
theorem solTo_len (c s y m d : Int) (k : Nat) (h : k ≤ 3) : (solTo c s y m d k).length ≤ 3 := by
  unfold solTo
  refine Nat.le_trans (List.length_filter_le _ _) ?_
  simp
  omega
theorem solTo_step (c s y m d : Int) (k : Nat) (h : k < 3) : solTo c s y m d (k + 1) = solTo c s y m d k ++ (if solB c s y m d (y - 1 + k) = true then [y - 1 + k] else []) := by
  have : k = 0 ∨ k = 1 ∨ k = 2 := by omega
  rcases this with rfl | rfl | rfl
  · unfold solTo
    rw [show y - 1 + ((0 : Nat) : Int) = y - 1 by simp]
    by_cases h : solB c s y m d (y - 1) = true <;> simp [List.filter, h]
  · unfold solTo
    rw [show y - 1 + ((1 : Nat) : Int) = y by omega]
    by_cases h0 : solB c s y m d (y - 1) = true <;> by_cases h : solB c s y m d y = true <;> simp [h, h0]
  · unfold solTo
    rw [show y - 1 + ((2 : Nat) : Int) = y + 1 by omega]
    by_cases h0 : solB c s y m d (y - 1) = true <;> by_cases h1 : solB c s y m d y = true <;> by_cases h : solB c s y m d (y + 1) = true <;> simp [h, h0, h1]
theorem solTo_hit {c s y m d : Int} {k : Nat} (h : k < 3) (hb : solB c s y m d (y - 1 + k) = true) : solTo c s y m d (k + 1) = solTo c s y m d k ++ [y - 1 + k] := by rw [solTo_step c s y m d k h, if_pos hb]
theorem solTo_miss {c s y m d : Int} {k : Nat} (h : k < 3) (hb : solB c s y m d (y - 1 + k) = false) : solTo c s y m d (k + 1) = solTo c s y m d k := by rw [solTo_step c s y m d k h, if_neg (by rw [hb]; simp)]; simp
theorem sol_date {c s y m d z : Int} (h : ¬ dateP c z m d) : solB c s y m d z = false := decide_eq_false (fun k => h k.2.2.1)
theorem sol_year {c s y m d z : Int} (h : ¬ (yearP c y ∧ styleP s)) : solB c s y m d z = false := decide_eq_false (fun k => h ⟨k.1, k.2.1⟩)
theorem sol_inB {c s y m d z : Int} (hy : yearP c y) (hs : styleP s) (h : dateP c z m d) : solB c s y m d z = inB (lineD c z m d) (start c s y) (start c s (y + 1) - 1) := by
  unfold solB
  by_cases k : solP c s y m d z
  · rw [decide_eq_true k, inB_true k.2.2.2.1 (by have := k.2.2.2.2; omega)]
  · rw [decide_eq_false k]
    symm
    apply inB_false
    by_cases a : lineD c z m d < start c s y
    · exact .inl a
    · right
      by_cases b : start c s (y + 1) - 1 < lineD c z m d
      · exact b
      · exact absurd ⟨hy, hs, h, by omega, by omega⟩ k
theorem sol_in {c s y m d z : Int} (h : dateP c z m d) : inYearB c s y (dayOf c z m d) = solB c s y m d z := by
  unfold inYearB solB
  have k := sol_iff (s := s) (y := y) h
  generalize styYear c s (dayOf c z m d) = p at *
  obtain ⟨a, b⟩ := p
  cases b
  · have e : ¬ solP c s y m d z := fun g => by have := k.2 g; simp at this
    rw [decide_eq_false e]
    rfl
  · simp only [Bool.true_and]
    congr 1
    apply propext
    rw [← k]
    simp

end Go.Proofs.YtcdcniniafejbaaGreatDoor.ctr

namespace Go.Proofs.YtcdcniniafejbaaGreatDoor.ctr
open Go.RowKit

/-- A short name without a blank. -/
def okN (s : ByteArray) : Prop := s.size ≤ 16 ∧ (s.data.toList.all fun b => b != 32) = true
def rNames : List ByteArray := [⟨#[111, 116, 116, 111]⟩, ⟨#[104, 101, 110, 114, 121]⟩, ⟨#[99, 111, 110, 114, 97, 100]⟩]
def rOdd : List ByteArray := [⟨#[111, 116, 116, 111]⟩, ⟨#[79, 116, 116, 111]⟩, ⟨#[]⟩]
theorem rNames_ok0 : ∀ j : Fin 3, (rNames.getD j.val ⟨#[]⟩).size ≤ 16 ∧ ((rNames.getD j.val ⟨#[]⟩).data.toList.all fun b => b != 32) = true := by decide
theorem rNames_ok {j : Nat} (h : j < 3) : okN (rNames.getD j ⟨#[]⟩) := rNames_ok0 ⟨j, h⟩
theorem rOdd_ok0 : ∀ j : Fin 3, (rOdd.getD j.val ⟨#[]⟩).size ≤ 16 ∧ ((rOdd.getD j.val ⟨#[]⟩).data.toList.all fun b => b != 32) = true := by decide
theorem rOdd_ok {j : Nat} (h : j < 3) : okN (rOdd.getD j ⟨#[]⟩) := rOdd_ok0 ⟨j, h⟩
theorem rcells_app : ∀ l m : List Rgn, rcells (l ++ m) = rcells l ++ rcells m
  | [], m => rfl
  | r :: l, m => by rw [List.cons_append, rcells, rcells, rcells_app l m, List.append_assoc]
theorem info_rgnT : (Tryz.prog.info? 29).map (fun i => (i.zero, i.size, i.bytes)) = some (some (.agg #[.string ⟨#[]⟩, .int .i64 0, .int .i64 0]), 3, 32) := by kernel_rfl
theorem rown_empty (w : World) : (w.alloc (.cells #[] 29)).ownsRow w.heap.size 29 3 (.slice (some ⟨w.heap.size, 0, none⟩) 0 0) 0 [] :=
  ⟨rfl, .inr ⟨w.heap.size, 0, #[], rfl, Nat.le_refl _, by simp [World.alloc, -World.alloc_eq], Nat.le_refl _, Nat.zero_le _, rfl, rfl⟩⟩
theorem cells_three (W : World) (a b c : Value) (t : TypeId) {n : Nat} (hn : n = W.heap.size) : ∀ (j : Nat) (u : Value), [a, b, c][j]? = some u → (W.alloc (.cells #[a, b, c] t)).cell? ((⟨n, 0, none⟩ : Addr).add j) = some u := by
  intro j u h
  subst hn
  have ha : (⟨W.heap.size, 0, none⟩ : Addr).add j = ⟨W.heap.size, j, none⟩ := by unfold Addr.add; split <;> simp_all
  rw [ha]
  match j, h with
  | 0, h => simpa [World.alloc, World.cell?, -World.alloc_eq] using h
  | 1, h => simpa [World.alloc, World.cell?, -World.alloc_eq] using h
  | 2, h => simpa [World.alloc, World.cell?, -World.alloc_eq] using h
  | j + 3, h => simp at h
/-- The state of the draw: the cursor, and the reigns drawn so far in a row of their own. -/
structure RgSt (w : World) (n0 : Nat) (a : Option Addr) (len cap B : Nat) (o : Value) (l : List Rgn) (W : World) : Prop where
  cur : Cur n0 W a len cap B
  row : W.ownsRow w.heap.size 29 3 o l.length (rcells l)
  names : ∀ k, k < l.length → okN (rgA l k).name
  grown : w.grownBy W (some B)
  hB : B < w.heap.size
theorem RgSt.step {w W W' : World} {n0 : Nat} {a : Option Addr} {len cap B : Nat} {o : Value} {l : List Rgn} (h : Hid (RgSt w n0 a len cap B o l W)) (hG : W.grownBy W' (some B)) (hC : Cur n0 W' a len cap B) : Hid (RgSt w n0 a len cap B o l W') :=
  ⟨hC, h.out.row.kept hG (.inr (fun e => by have := ibase h.out.row B e; have := h.out.hB; omega)), h.out.names, grown_trans h.out.grown hG, h.out.hB⟩
theorem RgSt.alloc {w W : World} {n0 : Nat} {a : Option Addr} {len cap B : Nat} {o : Value} {l : List Rgn} (h : Hid (RgSt w n0 a len cap B o l W)) (ob : Obj) : Hid (RgSt w n0 a len cap B o l (W.alloc ob)) :=
  ⟨h.out.cur.alloc ob, h.out.row.alloc ob, h.out.names, grown_alloc h.out.grown ob, h.out.hB⟩
theorem Cur.grownO {n0 : Nat} {W W' : World} {a : Option Addr} {len cap B : Nat} {r : Option Nat} (h : Cur n0 W a len cap B) (g : W.grownBy W' r) (hr : ∀ k, r = some k → n0 ≤ k ∧ k ≠ B) : Cur n0 W' a len cap B := by
  have hb : Below n0 W W' := (Below.refl n0 W).grown g (Nat.le_trans h.lo (Nat.le_of_lt h.hi)) (fun k e => (hr k e).1)
  have hB : W'.heap[B]? = W.heap[B]? := g.block B h.hi (by intro e; exact (hr B e.symm).2 rfl)
  obtain ⟨y0, hy0⟩ := h.c2
  obtain ⟨i, hi, h1⟩ := h.c1
  exact ⟨h.lo, Nat.lt_of_lt_of_le h.hi g.size, h.code.below hb, (World.cell?_of_block (a := ⟨B, 0, none⟩) hB).trans h.c0, ⟨i, hi, (World.cell?_of_block (a := ⟨B, 1, none⟩) hB).trans h1⟩, ⟨y0, (World.cell?_of_block (a := ⟨B, 2, none⟩) hB).trans hy0⟩,
    (World.frozen?_of_block (a := ⟨B, 1, none⟩) hB).trans h.f1, (World.frozen?_of_block (a := ⟨B, 2, none⟩) hB).trans h.f2⟩
theorem rgA_app {l : List Rgn} {r : Rgn} {k : Nat} (h : k < (l ++ [r]).length) : (k < l.length ∧ rgA (l ++ [r]) k = rgA l k) ∨ rgA (l ++ [r]) k = r := by
  simp at h
  by_cases q : k < l.length
  · exact .inl ⟨q, by simp [rgA, List.getD, List.getElem?_append_left q]⟩
  · obtain rfl : k = l.length := by omega
    exact .inr (by simp [rgA, List.getD])
theorem RgSt.app {w W W' : World} {n0 : Nat} {a : Option Addr} {len cap B : Nat} {o o' : Value} {l : List Rgn} (h : Hid (RgSt w n0 a len cap B o l W)) (s : ByteArray) (f t : Int) (hs : okN s) (hr : W'.ownsRow w.heap.size 29 3 o' (l.length + 1) (rcells l ++ [.string s, .int .i64 f, .int .i64 t])) (hg : W.grownBy W' o.ownBlock) : Hid (RgSt w n0 a len cap B o' (l ++ [⟨s, f, t⟩]) W') := by
  have hn : n0 ≤ w.heap.size := Nat.le_trans h.out.cur.lo (Nat.le_of_lt h.out.hB)
  refine ⟨h.out.cur.grownO hg (fun k e => ⟨by have := ibase h.out.row k e; omega, by have := ibase h.out.row k e; have := h.out.hB; omega⟩), ?_, fun k hk => ?_, ?_, h.out.hB⟩
  · rw [List.length_append, rcells_app]
    exact hr
  · rcases rgA_app hk with ⟨q, e⟩ | e
    · rw [e]; exact h.out.names k q
    · rw [e]; exact hs
  · have g := h.out.grown
    exact ⟨hg.os.trans g.os, hg.tape.trans g.tape, hg.output.trans g.output, Nat.le_trans g.size hg.size, fun j hj hr => (hg.block j (Nat.lt_of_lt_of_le hj g.size) (by
      intro e
      have := ibase h.out.row j e.symm
      omega)).trans (g.block j hj hr)⟩
/-- Each of the reigns has a right name. -/
def RGd (W : World) (g n : Nat) : Prop := ∀ k, k < n → ∃ r, RAt W g k r ∧ okN r.name
theorem rgd_list {W : World} {g n cap : Nat} (h0 : RGd W g n) (hg : g < W.heap.size) (hn : n ≤ cap) (hc : cap ≤ maxLen) : ∃ l : List Rgn, l.length = n ∧ RRow W (.slice (some ⟨g, 0, none⟩) n cap) l ∧ ∀ k, k < l.length → okN (rgA l k).name := by
  have h : ∀ k, k < n → ∃ r, RAt W g k r ∧ okN r.name := h0
  have ex : ∃ f : Nat → Rgn, ∀ k, k < n → RAt W g k (f k) ∧ okN (f k).name := by
    refine ⟨fun k => if q : k < n then Classical.choose (h k q) else r0, fun k hk => ?_⟩
    have e : (if q : k < n then Classical.choose (h k q) else r0) = Classical.choose (h k hk) := dif_pos hk
    show RAt W g k (if q : k < n then Classical.choose (h k q) else r0) ∧ okN (if q : k < n then Classical.choose (h k q) else r0).name
    rw [e]
    exact Classical.choose_spec (h k hk)
  obtain ⟨f, hf⟩ := ex
  have hl : ((List.range n).map f).length = n := by simp
  have ha : ∀ k, k < n → rgA ((List.range n).map f) k = f k := fun k hk => by simp [rgA, List.getD, hk]
  refine ⟨(List.range n).map f, hl, ⟨_, cap, by rw [hl], by omega, hc, fun k hk => ?_, fun k hk => ⟨g, rfl, hg, ?_⟩⟩, fun k hk => ?_⟩
  · rw [hl] at hk
    rw [ha k hk]
    have := (hf k hk).2.1
    unfold maxLen
    omega
  · rw [hl] at hk
    rw [ha k hk]
    exact (hf k hk).1
  · rw [hl] at hk
    rw [ha k hk]
    exact (hf k hk).2
theorem RgSt.open {w W : World} {n0 : Nat} {a : Option Addr} {len cap B : Nat} {o : Value} {l : List Rgn} (h : Hid (RgSt w n0 a len cap B o l W)) (hl : 0 < l.length) : ∃ g c cur, o = .slice (some ⟨g, 0, none⟩) l.length c ∧ w.heap.size ≤ g ∧ l.length ≤ c ∧ c ≤ maxLen ∧ Blk W g cur 29 ∧ cur.toList.take (l.length * 3) = rcells l := by
  rcases h.out.row.2 with ⟨_, h0⟩ | ⟨g, c, cur, hv, hb, hh, hcap, hm, hsz, htake⟩
  · omega
  · exact ⟨g, c, cur, hv, hb, hcap, hm, hh, htake⟩
theorem RgSt.rgd {W : World} {g : Nat} {cur : Array Value} {t : TypeId} {l : List Rgn} (hB : Blk W g cur t) (ht : cur.toList.take (l.length * 3) = rcells l) (hn : ∀ k, k < l.length → okN (rgA l k).name) : RGd W g l.length := by
  intro k hk
  have at_ : ∀ j v, j < 3 → (rvals (rgA l k))[j]? = some v → cur[k * 3 + j]? = some v := fun j v hj e => by
    have := rcells_at l k j v hk e
    rw [← ht, List.getElem?_take] at this
    split at this
    · simpa using this
    · cases this
  exact ⟨rgA l k, ⟨by have := hB.cell (k * 3 + 0) (at_ 0 _ (by omega) rfl); simpa using this, hB.cell (k * 3 + 1) (at_ 1 _ (by omega) rfl), hB.cell (k * 3 + 2) (at_ 2 _ (by omega) rfl)⟩, hn k hk⟩
theorem addr_ne {g i j : Nat} (h : i ≠ j) : (⟨g, i, none⟩ : Addr) ≠ ⟨g, j, none⟩ := by
  intro e
  injection e with _ e2
  exact h e2
theorem RGd.name {W : World} {g n i : Nat} {s : ByteArray} (h : RGd W g n) (hi : i < n) (hs : okN s) : RGd (W.setCell ⟨g, i * 3, none⟩ (.string s)) g n := by
  intro k hk
  obtain ⟨r, ⟨h0, h1, h2⟩, hr⟩ := h k hk
  by_cases q : k = i
  · subst q
    exact ⟨⟨s, r.fr, r.to⟩, ⟨World.cell?_setCell_same W _ _ h0, by rw [World.cell?_setCell_other W _ _ _ (addr_ne (by omega))]; exact h1, by rw [World.cell?_setCell_other W _ _ _ (addr_ne (by omega))]; exact h2⟩, hs⟩
  · exact ⟨r, ⟨by rw [World.cell?_setCell_other W _ _ _ (addr_ne (by omega))]; exact h0, by rw [World.cell?_setCell_other W _ _ _ (addr_ne (by omega))]; exact h1, by rw [World.cell?_setCell_other W _ _ _ (addr_ne (by omega))]; exact h2⟩, hr⟩
theorem RGd.fr {W : World} {g n i : Nat} {z : Int} (h : RGd W g n) (hi : i < n) : RGd (W.setCell ⟨g, i * 3 + 1, none⟩ (.int .i64 z)) g n := by
  intro k hk
  obtain ⟨r, ⟨h0, h1, h2⟩, hr⟩ := h k hk
  by_cases q : k = i
  · subst q
    exact ⟨⟨r.name, z, r.to⟩, ⟨by rw [World.cell?_setCell_other W _ _ _ (addr_ne (by omega))]; exact h0, World.cell?_setCell_same W _ _ h1, by rw [World.cell?_setCell_other W _ _ _ (addr_ne (by omega))]; exact h2⟩, hr⟩
  · exact ⟨r, ⟨by rw [World.cell?_setCell_other W _ _ _ (addr_ne (by omega))]; exact h0, by rw [World.cell?_setCell_other W _ _ _ (addr_ne (by omega))]; exact h1, by rw [World.cell?_setCell_other W _ _ _ (addr_ne (by omega))]; exact h2⟩, hr⟩
theorem RGd.to {W : World} {g n i : Nat} {z : Int} (h : RGd W g n) (hi : i < n) : RGd (W.setCell ⟨g, i * 3 + 2, none⟩ (.int .i64 z)) g n := by
  intro k hk
  obtain ⟨r, ⟨h0, h1, h2⟩, hr⟩ := h k hk
  by_cases q : k = i
  · subst q
    exact ⟨⟨r.name, r.fr, z⟩, ⟨by rw [World.cell?_setCell_other W _ _ _ (addr_ne (by omega))]; exact h0, by rw [World.cell?_setCell_other W _ _ _ (addr_ne (by omega))]; exact h1, World.cell?_setCell_same W _ _ h2⟩, hr⟩
  · exact ⟨r, ⟨by rw [World.cell?_setCell_other W _ _ _ (addr_ne (by omega))]; exact h0, by rw [World.cell?_setCell_other W _ _ _ (addr_ne (by omega))]; exact h1, by rw [World.cell?_setCell_other W _ _ _ (addr_ne (by omega))]; exact h2⟩, hr⟩
theorem RGd.grown {W W' : World} {g n B : Nat} (h : RGd W g n) (hg : g < W.heap.size) (hG : W.grownBy W' (some B)) (hne : g ≠ B) : RGd W' g n := by
  intro k hk
  obtain ⟨r, ⟨h0, h1, h2⟩, hr⟩ := h k hk
  exact ⟨r, ⟨(grown_cell hG (p := ⟨g, k * 3, none⟩) hg hne).trans h0, (grown_cell hG (p := ⟨g, k * 3 + 1, none⟩) hg hne).trans h1, (grown_cell hG (p := ⟨g, k * 3 + 2, none⟩) hg hne).trans h2⟩, hr⟩
/-- What is drawn: a list of at most three reigns. -/
def RDrawn (W : World) (v : Value) (l : List Rgn) : Prop := RRow W v l ∧ l.length ≤ 3 ∧ ∀ k, k < l.length → okN (rgA l k).name
/-- The state behind the loop. -/
structure RfSt (w : World) (n0 : Nat) (a : Option Addr) (len cap B g n : Nat) (W : World) : Prop where
  cur : Cur n0 W a len cap B
  blk : ∃ cur, Blk W g cur 29
  rgd : RGd W g n
  grown : w.grownBy W (some B)
  hg : w.heap.size ≤ g
  hB : B < w.heap.size
theorem RfSt.lt {w W : World} {n0 : Nat} {a : Option Addr} {len cap B g n : Nat} (h : RfSt w n0 a len cap B g n W) : g < W.heap.size := by
  obtain ⟨c, hb⟩ := h.blk
  exact hb.lt
theorem RfSt.step {w W W' : World} {n0 : Nat} {a : Option Addr} {len cap B g n : Nat} (h : Hid (RfSt w n0 a len cap B g n W)) (hG : W.grownBy W' (some B)) (hC : Cur n0 W' a len cap B) : Hid (RfSt w n0 a len cap B g n W') := by
  have hne : g ≠ B := by have := h.out.hg; have := h.out.hB; omega
  obtain ⟨c, hb⟩ := h.out.blk
  exact ⟨hC, ⟨c, hb.grown hG hne⟩, h.out.rgd.grown hb.lt hG hne, grown_trans h.out.grown hG, h.out.hg, h.out.hB⟩
theorem RGd.below {W W' : World} {g n : Nat} (h : RGd W g n) (hg : g < W.heap.size) (hb : Below W.heap.size W W') : RGd W' g n := by
  intro k hk
  obtain ⟨r, hr, hn⟩ := h k hk
  exact ⟨r, hr.below hb hg, hn⟩
theorem RfSt.alloc {w W : World} {n0 : Nat} {a : Option Addr} {len cap B g n : Nat} (h : Hid (RfSt w n0 a len cap B g n W)) (ob : Obj) : Hid (RfSt w n0 a len cap B g n (W.alloc ob)) := by
  obtain ⟨c, hb⟩ := h.out.blk
  exact ⟨h.out.cur.alloc ob, ⟨c, hb.alloc ob⟩, h.out.rgd.below hb.lt ((Below.refl _ _).alloc (Nat.le_refl _) _), grown_alloc h.out.grown ob, h.out.hg, h.out.hB⟩
theorem RfSt.thaw {w W : World} {n0 : Nat} {a : Option Addr} {len cap B g n : Nat} (h : RfSt w n0 a len cap B g n W) (k : Nat) : W.frozen? ⟨g, k, none⟩ = false := by
  obtain ⟨c, hb⟩ := h.blk
  exact hb.thaw k
theorem rrow_grown {W W' : World} {g n c B : Nat} {l : List Rgn} (h : RRow W (.slice (some ⟨g, 0, none⟩) n c) l) (hG : W.grownBy W' (some B)) (hne : g ≠ B) : RRow W' (.slice (some ⟨g, 0, none⟩) n c) l := by
  obtain ⟨ad, cap, e, h1, h2, h3, h⟩ := h
  cases e
  refine ⟨_, _, rfl, h1, h2, h3, fun k hk => ?_⟩
  obtain ⟨g', e, hg, c0, c1, c2⟩ := h k hk
  cases e
  exact ⟨g, rfl, Nat.lt_of_lt_of_le hg hG.size, (grown_cell hG (p := ⟨g, k * 3, none⟩) hg hne).trans c0, (grown_cell hG (p := ⟨g, k * 3 + 1, none⟩) hg hne).trans c1, (grown_cell hG (p := ⟨g, k * 3 + 2, none⟩) hg hne).trans c2⟩
/-- What is drawn, in memory that was not there below base. -/
def RNewR (base : Nat) (W : World) (v : Value) (l : List Rgn) : Prop := RDrawn W v l ∧ (l = [] ∨ ∃ g n c, v = .slice (some ⟨g, 0, none⟩) n c ∧ base ≤ g)
theorem rrow_nil {W W' : World} {v : Value} (h : RRow W v []) : RRow W' v [] := by
  obtain ⟨ad, cap, rfl, h1, h2, _, _⟩ := h
  exact ⟨ad, cap, rfl, h1, h2, fun k hk => by simp at hk, fun k hk => by simp at hk⟩
theorem RNewR.grown {base B : Nat} {W W' : World} {v : Value} {l : List Rgn} (h : RNewR base W v l) (hG : W.grownBy W' (some B)) (hB : B < base) : RNewR base W' v l := by
  obtain ⟨⟨hr, h1, h2⟩, rfl | ⟨g, n, c, rfl, hg⟩⟩ := h
  · exact ⟨⟨rrow_nil hr, h1, h2⟩, .inl rfl⟩
  · exact ⟨⟨rrow_grown hr hG (by omega), h1, h2⟩, .inr ⟨g, n, c, rfl, hg⟩⟩
theorem RNewR.below {base : Nat} {W W' : World} {v : Value} {l : List Rgn} (h : RNewR base W v l) (hb : Below W.heap.size W W') : RNewR base W' v l := ⟨⟨h.1.1.below hb, h.1.2⟩, h.2⟩
theorem RNewR.mono {base b2 : Nat} {W : World} {v : Value} {l : List Rgn} (h : RNewR base W v l) (hb : b2 ≤ base) : RNewR b2 W v l := by
  obtain ⟨h1, rfl | ⟨g, n, c, rfl, hg⟩⟩ := h
  · exact ⟨h1, .inl rfl⟩
  · exact ⟨h1, .inr ⟨g, n, c, rfl, by omega⟩⟩
/-- What is given back. -/
def RBack (w : World) (n0 : Nat) (a : Option Addr) (len cap B : Nat) (v : Value) (W : World) : Prop := ∃ l, RNewR w.heap.size W v l ∧ Cur n0 W a len cap B ∧ w.grownBy W (some B)
theorem RgSt.nil {w W : World} {n0 : Nat} {a : Option Addr} {len cap B : Nat} {o : Value} {l : List Rgn} (h : Hid (RgSt w n0 a len cap B o l W)) (hl : l.length = 0) : RBack w n0 a len cap B o W := by
  obtain rfl : l = [] := List.length_eq_zero_iff.1 hl
  refine ⟨[], ⟨⟨?_, by simp, fun k hk => by simp at hk⟩, .inl rfl⟩, h.out.cur, h.out.grown⟩
  rcases h.out.row.2 with ⟨rfl, h0⟩ | ⟨g, c, cur, hv, hb, hh, hcap, hm, hsz, htake⟩
  · exact ⟨_, _, rfl, Nat.zero_le _, by unfold maxLen; omega, fun k hk => by simp at hk, fun k hk => by simp at hk⟩
  · subst hv
    exact ⟨_, _, rfl, hcap, hm, fun k hk => by simp at hk, fun k hk => by simp at hk⟩
theorem RfSt.done {w W : World} {n0 : Nat} {a : Option Addr} {len cap B g n c : Nat} (h : RfSt w n0 a len cap B g n W) (h1 : n ≤ 3) (h2 : n ≤ c) (h3 : c ≤ maxLen) : RBack w n0 a len cap B (.slice (some ⟨g, 0, none⟩) n c) W := by
  obtain ⟨l, hl, hr, hn⟩ := rgd_list h.rgd h.lt h2 h3
  exact ⟨l, ⟨⟨hr, by omega, hn⟩, .inr ⟨g, n, c, rfl, h.hg⟩⟩, h.cur, h.grown⟩
theorem RfSt.back {w W : World} {n0 : Nat} {a : Option Addr} {len cap B g n c k : Nat} {v : Value} (h : RfSt w n0 a len cap B g n W) (h1 : n ≤ 3) (h2 : n ≤ c) (h3 : c ≤ maxLen) (hd : RGd (W.setCell ⟨g, k, none⟩ v) g n) : RBack w n0 a len cap B (.slice (some ⟨g, 0, none⟩) n c) (W.setCell ⟨g, k, none⟩ v) := by
  obtain ⟨l, hl, hr, hn⟩ := rgd_list hd (by rw [set_size]; exact h.lt) h2 h3
  exact ⟨l, ⟨⟨hr, by omega, hn⟩, .inr ⟨g, n, c, rfl, h.hg⟩⟩, h.cur.store v (Nat.le_trans h.cur.lo (by have := h.hg; have := h.hB; omega)) (by have := h.hg; have := h.hB; omega), grown_store h.grown v h.hg⟩
def pick1 : List Int := [0, 0, 1, 40]
def pick2 : List Int := [0, 100, 365, 400, 900]
def pick3 : List Int := [-5, 1200000, 9223372036854775807]

end Go.Proofs.YtcdcniniafejbaaGreatDoor.ctr

namespace Go.Proofs.YtcdcniniafejbaaGreatDoor.ctr
open Go.RowKit

set_option maxRecDepth 100000 in
set_option maxHeartbeats 4000000 in
theorem l08Reigns (n0 : Nat) (W : World) (a : Option Addr) (len cap B : Nat) (F : Int) (hlen : len ≤ maxLen) (hC : Cur n0 W a len cap B) :
    Calls Tryz.prog 71 #[.pointer (some ⟨B, 0, none⟩), .int .i64 F] W fun e W' => ∃ v, e = .returned v ∧ RBack W n0 a len cap B v W' := by
  obtain ⟨i0, hi, hz0, hz1, hz2⟩ := info_parts info_rgnT
  have S0 : Hid (RgSt W n0 a len cap B (.slice (some ⟨W.heap.size, 0, none⟩) 0 0) [] (W.alloc (.cells #[] 29))) := ⟨hC.alloc _, rown_empty W, fun k hk => by simp at hk, grown_alloc (grown_refl W _) _, hC.hi⟩
  have hlo := hC.lo
  have hhi := hC.hi
  clear hC
  go_enter Tryz.func71, Tryz.ntmps71
  go_wp2_with fail
  refine (l01Below n0 _ a len cap B 4 hlen (by omega) S0.out.cur).mono ?_
  rintro e W1 ⟨x, rfl, x0, x1, hC1, hG1⟩
  have S1 := RgSt.step S0 hG1 hC1
  clear hC1 hG1 S0
  obtain ⟨m, rfl⟩ := Int.eq_ofNat_of_zero_le x0
  have hm : m ≤ 3 := by omega
  go_wp2
  go_loopw [5, 6, 8] (fun o n i wr => ∃ (k : Nat) (z : Int) (l : List Rgn), k ≤ m ∧ i = .int .i64 (k : Int) ∧ n = .int .i64 z ∧ l.length = k ∧ RgSt W n0 a len cap B o l wr) (fun _ _ i _ => m - (intOf i).toNat)
  case atStart => exact ⟨0, F, [], Nat.zero_le _, rfl, rfl, rfl, S1.out⟩
  case round =>
    obtain ⟨k, z, l, hk, rfl, rfl, hl, hS⟩ := hrel
    have S := hideP hS
    clear hS S1
    by_cases hlt : k < m
    · have hlt' : (k : Int) < (m : Int) := by omega
      go_wp2_with fail
      refine (l01PickInt n0 _ a len cap B wr.heap.size 4 4 (fun j => pick1.getD j 0) hlen (by omega) (by omega) (by rw [size_new]; omega) (Nat.ne_of_gt S.out.cur.hi) (fun j hj => alloc_ints wr pick1 _ j hj) (S.out.cur.alloc _)).mono ?_
      rintro e W2 ⟨j2, hj2, rfl, hC2, hG2⟩
      have S2 := RgSt.step (RgSt.alloc S _) hG2 hC2
      clear hC2 hG2 S
      generalize pick1.getD j2 0 = z2 at *
      go_wp2_with fail
      refine (l01PickInt n0 _ a len cap B W2.heap.size 5 5 (fun j => pick2.getD j 0) hlen (by omega) (by omega) (by rw [size_new]; omega) (Nat.ne_of_gt S2.out.cur.hi) (fun j hj => alloc_ints W2 pick2 _ j hj) (S2.out.cur.alloc _)).mono ?_
      rintro e W3 ⟨j3, hj3, rfl, hC3, hG3⟩
      have S3 := RgSt.step (RgSt.alloc S2 _) hG3 hC3
      clear hC3 hG3 S2
      generalize pick2.getD j3 0 = z3 at *
      have hk3 : k = 0 ∨ k = 1 ∨ k = 2 := by omega
      rcases hk3 with rfl | rfl | rfl
      · have hok : okN ⟨#[111, 116, 116, 111]⟩ := rNames_ok (j := 0) (by omega)
        go_wp2_with (at_builtin; refine wpList_append_own _ rfl _ _ 24 rfl W.heap.size 29 i0 (.agg #[.string ⟨#[]⟩, .int .i64 0, .int .i64 0]) 3 32 Tryz.underlying24 hi hz0 hz1 hz2 rfl (by decide) _ _ _ rfl (RgSt.alloc (RgSt.alloc S3 _) _).out.row ⟨W3.heap.size + 1, 0, none⟩ 1 1 [.string ⟨#[111, 116, 116, 111]⟩, .int .i64 _, .int .i64 _] rfl rfl (cells_three _ _ _ _ _ (by rw [inew])) (by simp [Value.oneCell']) (by unfold maxLen; omega) (by omega) (by have := S3.out.grown.size; rw [inew, inew]; omega) ?_; intro v' w9 hown' hgrow _; have S9 := RgSt.app (RgSt.alloc (RgSt.alloc S3 _) _) ⟨#[111, 116, 116, 111]⟩ _ _ hok hown' hgrow; clear hown' hgrow S3)
        exact ⟨⟨1, _, _, by omega, by go_num, rfl, by simp [hl], S9.out⟩, by simp [intOf]; omega⟩
      · have hok : okN ⟨#[104, 101, 110, 114, 121]⟩ := rNames_ok (j := 1) (by omega)
        go_wp2_with (at_builtin; refine wpList_append_own _ rfl _ _ 24 rfl W.heap.size 29 i0 (.agg #[.string ⟨#[]⟩, .int .i64 0, .int .i64 0]) 3 32 Tryz.underlying24 hi hz0 hz1 hz2 rfl (by decide) _ _ _ rfl (RgSt.alloc (RgSt.alloc S3 _) _).out.row ⟨W3.heap.size + 1, 0, none⟩ 1 1 [.string ⟨#[104, 101, 110, 114, 121]⟩, .int .i64 _, .int .i64 _] rfl rfl (cells_three _ _ _ _ _ (by rw [inew])) (by simp [Value.oneCell']) (by unfold maxLen; omega) (by omega) (by have := S3.out.grown.size; rw [inew, inew]; omega) ?_; intro v' w9 hown' hgrow _; have S9 := RgSt.app (RgSt.alloc (RgSt.alloc S3 _) _) ⟨#[104, 101, 110, 114, 121]⟩ _ _ hok hown' hgrow; clear hown' hgrow S3)
        exact ⟨⟨2, _, _, by omega, by go_num, rfl, by simp [hl], S9.out⟩, by simp [intOf]; omega⟩
      · have hok : okN ⟨#[99, 111, 110, 114, 97, 100]⟩ := rNames_ok (j := 2) (by omega)
        go_wp2_with (at_builtin; refine wpList_append_own _ rfl _ _ 24 rfl W.heap.size 29 i0 (.agg #[.string ⟨#[]⟩, .int .i64 0, .int .i64 0]) 3 32 Tryz.underlying24 hi hz0 hz1 hz2 rfl (by decide) _ _ _ rfl (RgSt.alloc (RgSt.alloc S3 _) _).out.row ⟨W3.heap.size + 1, 0, none⟩ 1 1 [.string ⟨#[99, 111, 110, 114, 97, 100]⟩, .int .i64 _, .int .i64 _] rfl rfl (cells_three _ _ _ _ _ (by rw [inew])) (by simp [Value.oneCell']) (by unfold maxLen; omega) (by omega) (by have := S3.out.grown.size; rw [inew, inew]; omega) ?_; intro v' w9 hown' hgrow _; have S9 := RgSt.app (RgSt.alloc (RgSt.alloc S3 _) _) ⟨#[99, 111, 110, 114, 97, 100]⟩ _ _ hok hown' hgrow; clear hown' hgrow S3)
        exact ⟨⟨3, _, _, by omega, by go_num, rfl, by simp [hl], S9.out⟩, by simp [intOf]; omega⟩
    · obtain rfl : k = m := by omega
      by_cases hm0 : k = 0
      · subst hm0
        have HD := hideP (RgSt.nil S hl)
        go_wp2
        go_ret
        exact ⟨_, rfl, HD.out⟩
      have hk0 : ¬ (k : Int) = 0 := by omega
      obtain ⟨g, c, cu, rfl, hg, hc, hmx, hb, ht⟩ := RgSt.open S (by omega)
      rw [hl] at hc
      have S2 : Hid (RfSt W n0 a len cap B g k wr) := ⟨S.out.cur, ⟨cu, hb⟩, by rw [← hl]; exact RgSt.rgd hb ht S.out.names, S.out.grown, hg, S.out.hB⟩
      clear hb ht S cu
      simp only [hl]
      go_wp2_with fail
      refine (l01Below n0 _ a len cap B k hlen (by omega) S2.out.cur).mono ?_
      rintro e W3 ⟨x, rfl, y0, y1, hC3, hG3⟩
      have S3 := RfSt.step S2 hG3 hC3
      obtain ⟨i, rfl⟩ := Int.eq_ofNat_of_zero_le y0
      have hik : i < k := by omega
      clear hC3 hG3 S2
      go_wp2_with fail
      refine (l01Below n0 _ a len cap B 16 hlen (by omega) S3.out.cur).mono ?_
      rintro e W4 ⟨y, rfl, z0, z1, hC4, hG4⟩
      have S4 := RfSt.step S3 hG4 hC4
      clear hC4 hG4 S3
      obtain ⟨r, ⟨q0, q1, q2⟩, _⟩ := S4.out.rgd i hik
      have f1 := S4.out.thaw (i * 3 + 1)
      have f2 := S4.out.thaw (i * 3 + 2)
      by_cases c0 : y = 0
      · subst c0
        go_wp2_with fail
        refine (l01Pick n0 _ a len cap B W4.heap.size 3 3 (fun j => rOdd.getD j ⟨#[]⟩) hlen (by omega) (by omega) (by rw [size_new]; omega) (Nat.ne_of_gt S4.out.cur.hi) (fun j hj => alloc_strs W4 rOdd _ j hj) (S4.out.cur.alloc _)).mono ?_
        rintro e W5 ⟨j5, hj5, rfl, hC5, hG5⟩
        have S5 := RfSt.step (RfSt.alloc S4 _) hG5 hC5
        have hok := rOdd_ok hj5
        clear hC5 hG5 S4 q0 q1 q2 f1 f2
        generalize rOdd.getD j5 ⟨#[]⟩ = nm at *
        obtain ⟨r5, ⟨p0, _, _⟩, _⟩ := S5.out.rgd i hik
        have g0 := S5.out.thaw (i * 3)
        have HR := hideP (S5.out.back (c := c) (by omega) hc hmx (S5.out.rgd.name hik hok))
        go_wp2
        go_ret
        exact ⟨_, rfl, HR.out⟩
      by_cases c1 : y = 1
      · subst c1
        have HR : ∀ z : Int, Hid (RBack W n0 a len cap B (.slice (some ⟨g, 0, none⟩) k c) (W4.setCell ⟨g, i * 3 + 2, none⟩ (.int .i64 z))) := fun z => S4.out.back (c := c) (by omega) hc hmx (S4.out.rgd.to hik)
        go_wp2
        go_ret
        exact ⟨_, rfl, (HR _).out⟩
      by_cases c2 : y = 2
      · subst c2
        go_wp2_with fail
        refine (l01PickInt n0 _ a len cap B W4.heap.size 3 3 (fun j => pick3.getD j 0) hlen (by omega) (by omega) (by rw [size_new]; omega) (Nat.ne_of_gt S4.out.cur.hi) (fun j hj => alloc_ints W4 pick3 _ j hj) (S4.out.cur.alloc _)).mono ?_
        rintro e W5 ⟨j5, hj5, rfl, hC5, hG5⟩
        have S5 := RfSt.step (RfSt.alloc S4 _) hG5 hC5
        clear hC5 hG5 S4 q0 q1 q2 f1 f2
        generalize pick3.getD j5 0 = z5 at *
        obtain ⟨r5, ⟨_, p0, _⟩, _⟩ := S5.out.rgd i hik
        have g0 := S5.out.thaw (i * 3 + 1)
        have HR : ∀ z : Int, Hid (RBack W n0 a len cap B (.slice (some ⟨g, 0, none⟩) k c) (W5.setCell ⟨g, i * 3 + 1, none⟩ (.int .i64 z))) := fun z => S5.out.back (c := c) (by omega) hc hmx (S5.out.rgd.fr hik)
        go_wp2
        go_ret
        exact ⟨_, rfl, (HR _).out⟩
      by_cases c3 : y = 3
      · subst c3
        have HR : ∀ z : Int, Hid (RBack W n0 a len cap B (.slice (some ⟨g, 0, none⟩) k c) (W4.setCell ⟨g, i * 3 + 2, none⟩ (.int .i64 z))) := fun z => S4.out.back (c := c) (by omega) hc hmx (S4.out.rgd.to hik)
        go_wp2
        go_ret
        exact ⟨_, rfl, (HR _).out⟩
      have HR := hideP (S4.out.done (c := c) (by omega) hc hmx)
      clear q0 q1 q2 f1 f2
      go_wp2
      go_ret
      exact ⟨_, rfl, HR.out⟩
end Go.Proofs.YtcdcniniafejbaaGreatDoor.ctr

namespace Go.Proofs.YtcdcniniafejbaaGreatDoor.ctr
open Go.RowKit

def ruPick : List Int := [0, 1, 0, 1, 0, 1, 2]

set_option maxRecDepth 100000 in
set_option maxHeartbeats 2000000 in
theorem l08Case (W : World) (a : Option Addr) (len cap : Nat) (hlen : len ≤ maxLen) (hcode : CodeAt W.heap.size W a len) :
    Calls Tryz.prog 35 #[.slice a len cap] W fun e W' => ∃ (c s ru : Int) (v : Value) (l : List Rgn) (n : Int), e = .returned (.tuple #[.int .i64 c, .int .i64 s, .int .i64 ru, v, .int .i64 n]) ∧ RNewR W.heap.size W' v l ∧ Below W.heap.size W W' := by
  have HC := hideP hcode
  clear hcode
  go_enter Tryz.func35, Tryz.ntmps35
  go_wp2_with fail
  refine (l01New W a len cap hlen HC.out).mono ?_
  rintro e W1 ⟨B, rfl, hC1, hb1⟩
  have HK1 := hideP hC1
  have HB1 := hideP hb1
  clear hC1 hb1
  go_wp2_with fail
  refine (l01Below _ _ a len cap B 2 hlen (by omega) HK1.out).mono ?_
  rintro e W2 ⟨c, rfl, _, _, hC2, hG2⟩
  have HK2 := hideP hC2
  have HB2 : Hid (Below W.heap.size W W2) := below_grownBy HB1.out hG2 HB1.out.size HK1.out.lo
  clear hC2 hG2 HK1 HB1
  go_wp2_with fail
  refine (l06Style _ _ a len cap B hlen HK2.out).mono ?_
  rintro e W3 ⟨s, rfl, hC3, hG3⟩
  have HK3 := hideP hC3
  have HB3 : Hid (Below W.heap.size W W3) := below_grownBy HB2.out hG3 HB2.out.size HK2.out.lo
  clear hC3 hG3 HK2 HB2
  go_wp2_with fail
  refine (l01PickInt _ _ a len cap B W3.heap.size 7 7 (fun j => ruPick.getD j 0) hlen (by omega) (by omega) (by rw [size_new]; omega) (Nat.ne_of_gt HK3.out.hi) (fun j hj => alloc_ints W3 ruPick _ j hj) (HK3.out.alloc _)).mono ?_
  rintro e W4 ⟨j4, hj4, rfl, hC4, hG4⟩
  have HK4 := hideP hC4
  have HB4 : Hid (Below W.heap.size W W4) := below_grownBy (HB3.out.alloc HB3.out.size _) hG4 (by rw [size_new]; have := HB3.out.size; omega) HK3.out.lo
  clear hC4 hG4 HK3 HB3
  generalize ruPick.getD j4 0 = ru at *
  go_wp2_with fail
  refine (l02Good _ _ a len cap B hlen HK4.out).mono ?_
  rintro e W5 ⟨p, y, m, d, rfl, hC5, hG5⟩
  have HK5 := hideP hC5
  have HB5 : Hid (Below W.heap.size W W5) := below_grownBy HB4.out hG5 HB4.out.size HK4.out.lo
  clear hC5 hG5 HK4 HB4
  have KD := specDayOf p y m d
  generalize dayOf p y m d = f0 at *
  go_wp2_with fail
  refine (KD _).mono ?_
  rintro e W6 ⟨rfl, hb⟩
  have HK6 := hideP (HK5.out.below hb)
  have HB6 : Hid (Below W.heap.size W W6) := HB5.out.trans (hb.mono HB5.out.size)
  clear hb HK5 HB5 KD
  go_wp2_with fail
  refine (l01Once _ _ a len cap B 6 hlen (by omega) HK6.out).mono ?_
  rintro e W7 ⟨x, rfl, hC7, hG7⟩
  have HK7 := hideP hC7
  have HB7 : Hid (Below W.heap.size W W7) := below_grownBy HB6.out hG7 HB6.out.size HK6.out.lo
  clear hC7 hG7 HK6 HB6
  cases x
  · go_wp2_with fail
    refine (l08Reigns _ _ a len cap B f0 hlen HK7.out).mono ?_
    rintro e W8 ⟨v, rfl, l, hr, hC8, hG8⟩
    have HK8 := hideP hC8
    have HH := hideP HK7.out.hi
    have HX := hideP HB7.out.size
    have HR8 := hideP hr
    have HB8 : Hid (Below W.heap.size W W8) := below_grownBy HB7.out hG8 HB7.out.size HK7.out.lo
    clear hC8 hG8 hr HK7 HB7
    go_wp2_with fail
    refine (l01Below _ _ a len cap B 1000 hlen (by omega) HK8.out).mono ?_
    rintro e W9 ⟨z, rfl, _, _, hC9, hG9⟩
    have HB9 : Hid (Below W.heap.size W W9) := below_grownBy HB8.out hG9 HB8.out.size HK8.out.lo
    have HR9 := hideP ((HR8.out.grown hG9 HH.out).mono HX.out)
    clear hC9 hG9
    go_wp2
    go_returns
    exact ⟨_, _, _, _, l, _, rfl, HR9.out, HB9.out⟩
  · have KD := specDayOf c 1344 2 29
    generalize dayOf c 1344 2 29 = f1 at *
    go_wp2_with fail
    refine (KD _).mono ?_
    rintro e V7 ⟨rfl, hb⟩
    have HK6 := hideP (HK7.out.below hb)
    have HB6 : Hid (Below W.heap.size W V7) := HB7.out.trans (hb.mono HB7.out.size)
    clear hb HK7 HB7 KD
    have HK7 := HK6
    have HB7 := HB6
    clear HK6 HB6
    go_wp2_with fail
    refine (l08Reigns _ _ a len cap B f1 hlen HK7.out).mono ?_
    rintro e W8 ⟨v, rfl, l, hr, hC8, hG8⟩
    have HK8 := hideP hC8
    have HH := hideP HK7.out.hi
    have HX := hideP HB7.out.size
    have HR8 := hideP hr
    have HB8 : Hid (Below W.heap.size W W8) := below_grownBy HB7.out hG8 HB7.out.size HK7.out.lo
    clear hC8 hG8 hr HK7 HB7
    go_wp2_with fail
    refine (l01Below _ _ a len cap B 1000 hlen (by omega) HK8.out).mono ?_
    rintro e W9 ⟨z, rfl, _, _, hC9, hG9⟩
    have HB9 : Hid (Below W.heap.size W W9) := below_grownBy HB8.out hG9 HB8.out.size HK8.out.lo
    have HR9 := hideP ((HR8.out.grown hG9 HH.out).mono HX.out)
    clear hC9 hG9
    go_wp2
    go_returns
    exact ⟨_, _, _, _, l, _, rfl, HR9.out, HB9.out⟩

set_option maxHeartbeats 1000000 in
theorem drawReignsOk (W : World) (a : Option Addr) (len cap : Nat) (hlen : len ≤ maxLen) (hcode : CodeAt W.heap.size W a len) :
    Calls Tryz.prog 6 #[.slice a len cap] W fun e W' => ∃ (v : Value) (l : List Rgn), e = .returned v ∧ RNewR W.heap.size W' v l ∧ Below W.heap.size W W' := by
  have HC := hideP hcode
  clear hcode
  go_enter Tryz.func6, Tryz.ntmps6
  go_wp2_with fail
  refine (l08Case W a len cap hlen HC.out).mono ?_
  rintro e W1 ⟨c, s, ru, v, l, n, rfl, hr, hb⟩
  have HR := hideP hr
  have HB := hideP hb
  clear hr hb
  go_wp2
  go_ret
  exact ⟨v, l, rfl, HR.out, HB.out⟩

set_option maxHeartbeats 1000000 in
theorem drawReignAt (W : World) (a : Option Addr) (len cap : Nat) (hlen : len ≤ maxLen) (hcode : CodeAt W.heap.size W a len) :
    Calls Tryz.prog 7 #[.slice a len cap] W fun e W' => ∃ (v : Value) (l : List Rgn) (n : Int), e = .returned (.tuple #[v, .int .i64 n]) ∧ RNewR W.heap.size W' v l ∧ Below W.heap.size W W' := by
  have HC := hideP hcode
  clear hcode
  go_enter Tryz.func7, Tryz.ntmps7
  go_wp2_with fail
  refine (l08Case W a len cap hlen HC.out).mono ?_
  rintro e W1 ⟨c, s, ru, v, l, n, rfl, hr, hb⟩
  have HR := hideP hr
  have HB := hideP hb
  clear hr hb
  go_wp2
  go_returns
  exact ⟨v, l, n, rfl, HR.out, HB.out⟩

set_option maxHeartbeats 1000000 in
theorem drawReignText (W : World) (a : Option Addr) (len cap : Nat) (hlen : len ≤ maxLen) (hcode : CodeAt W.heap.size W a len) :
    Calls Tryz.prog 12 #[.slice a len cap] W fun e W' => ∃ (c s ru : Int) (v : Value) (l : List Rgn) (n : Int), e = .returned (.tuple #[.int .i64 c, .int .i64 s, .int .i64 ru, v, .int .i64 n]) ∧ RNewR W.heap.size W' v l ∧ Below W.heap.size W W' := by
  have HC := hideP hcode
  clear hcode
  go_enter Tryz.func12, Tryz.ntmps12
  go_wp2_with fail
  refine (l08Case W a len cap hlen HC.out).mono ?_
  rintro e W1 ⟨c, s, ru, v, l, n, rfl, hr, hb⟩
  have HR := hideP hr
  have HB := hideP hb
  clear hr hb
  go_wp2
  go_returns
  exact ⟨c, s, ru, v, l, n, rfl, HR.out, HB.out⟩

set_option maxHeartbeats 1000000 in
theorem drawGaps (W : World) (a : Option Addr) (len cap : Nat) (hlen : len ≤ maxLen) (hcode : CodeAt W.heap.size W a len) :
    Calls Tryz.prog 17 #[.slice a len cap] W fun e W' => ∃ (v : Value) (l : List Rgn) (f t : Int), e = .returned (.tuple #[v, .int .i64 f, .int .i64 t]) ∧ RNewR W.heap.size W' v l ∧ Below W.heap.size W W' := by
  have HC := hideP hcode
  clear hcode
  go_enter Tryz.func17, Tryz.ntmps17
  go_wp2_with fail
  refine (l01New W a len cap hlen HC.out).mono ?_
  rintro e W1 ⟨B, rfl, hC1, hb1⟩
  have HK1 := hideP hC1
  have HB1 := hideP hb1
  clear hC1 hb1
  go_wp2_with fail
  refine (l08Case W1 a len cap hlen (HC.out.up HB1.out)).mono ?_
  rintro e W2 ⟨c, s, ru, v, l, n, rfl, hr, hb⟩
  have HK2 := hideP (HK1.out.below hb)
  have HB2 : Hid (Below W.heap.size W W2) := HB1.out.trans (hb.mono HB1.out.size)
  have HR2 := hideP hr
  have hBi := HK1.out.hi
  clear hr hb
  go_wp2_with fail
  refine (l01Below _ _ a len cap B 300 hlen (by omega) HK2.out).mono ?_
  rintro e W3 ⟨x, rfl, _, _, hC3, hG3⟩
  have HK3 := hideP hC3
  have HB3 : Hid (Below W.heap.size W W3) := below_grownBy HB2.out hG3 HB2.out.size HK2.out.lo
  have HR3 := hideP (HR2.out.grown hG3 hBi)
  clear hC3 hG3
  go_wp2_with fail
  refine (l01Below _ _ a len cap B 500 hlen (by omega) HK3.out).mono ?_
  rintro e W4 ⟨z, rfl, _, _, hC4, hG4⟩
  have HB4 : Hid (Below W.heap.size W W4) := below_grownBy HB3.out hG4 HB3.out.size HK3.out.lo
  have HR4 := hideP ((HR3.out.grown hG4 hBi).mono HB1.out.size)
  clear hC4 hG4
  go_wp2
  go_returns
  exact ⟨v, l, _, _, rfl, HR4.out, HB4.out⟩

theorem rt_size {c s ru : Int} {l : List Rgn} {n : Int} (h : ∀ k, k < l.length → okN (rgA l k).name) : (reignText c s ru l n).size ≤ 40 := by
  unfold reignText
  split
  · show 0 ≤ 40
    omega
  · rename_i hn
    have h1 := rom_sizeR (yearAt c s ru l n)
    rcases rf_cases (hasD n) l with ⟨e, _⟩ | ⟨k, hk, e, _⟩
    · exact absurd (.inl e) hn
    · have e2 : (atR l n).toNat = k := by have : atR l n = (k : Int) := e; omega
      rw [e2, ByteArray.size_append, ByteArray.size_append]
      have h2 := (h k hk).1
      have : (⟨#[32]⟩ : ByteArray).size = 1 := rfl
      omega
def rdTexts : List ByteArray := [⟨#[]⟩, ⟨#[73, 32, 111, 116, 116, 111]⟩, ⟨#[73, 86, 32, 104, 101, 110, 114, 121]⟩, ⟨#[73, 73, 73, 73, 32, 111, 116, 116, 111]⟩, ⟨#[73, 32, 110, 111, 98, 111, 100, 121]⟩, ⟨#[111, 116, 116, 111, 32, 73]⟩, ⟨#[73, 32, 32, 111, 116, 116, 111]⟩]
theorem rdTexts_len : ∀ j : Fin 7, (rdTexts.getD j.val ⟨#[]⟩).size ≤ 20 := by decide

set_option maxRecDepth 100000 in
set_option maxHeartbeats 1000000 in
theorem drawReadReign (W : World) (a : Option Addr) (len cap : Nat) (hlen : len ≤ maxLen) (hcode : CodeAt W.heap.size W a len) :
    Calls Tryz.prog 14 #[.slice a len cap] W fun e W' => ∃ (v : Value) (l : List Rgn) (t : ByteArray), e = .returned (.tuple #[v, .string t]) ∧ t.size ≤ 41 ∧ RNewR W.heap.size W' v l ∧ Below W.heap.size W W' := by
  have HC := hideP hcode
  clear hcode
  go_enter Tryz.func14, Tryz.ntmps14
  go_wp2_with fail
  refine (l01New W a len cap hlen HC.out).mono ?_
  rintro e W1 ⟨B, rfl, hC1, hb1⟩
  have HK1 := hideP hC1
  have HB1 := hideP hb1
  clear hC1 hb1
  go_wp2_with fail
  refine (l08Case W1 a len cap hlen (HC.out.up HB1.out)).mono ?_
  rintro e W2 ⟨c, s, ru, v, l, n, rfl, hr, hb⟩
  have HK2 := hideP (HK1.out.below hb)
  have HB2 : Hid (Below W.heap.size W W2) := HB1.out.trans (hb.mono HB1.out.size)
  have HR2 := hideP hr
  have hBi := HK1.out.hi
  clear hr hb
  go_wp2_with fail
  refine (l01Once _ _ a len cap B 3 hlen (by omega) HK2.out).mono ?_
  rintro e W3 ⟨x, rfl, hC3, hG3⟩
  have HK3 := hideP hC3
  have HB3 : Hid (Below W.heap.size W W3) := below_grownBy HB2.out hG3 HB2.out.size HK2.out.lo
  have HR3 := hideP (HR2.out.grown hG3 hBi)
  clear hC3 hG3 HK2 HB2 HR2
  cases x
  · have hts := rt_size (c := c) (s := s) (ru := ru) (n := n) HR3.out.1.2.2
    have KT := specReignText c s ru v l n W3 HR3.out.1.1
    generalize reignText c s ru l n = t at *
    go_wp2_with fail
    refine KT.mono ?_
    rintro e W4 ⟨rfl, hb⟩
    have HK4 := hideP (HK3.out.below hb)
    have HB4 : Hid (Below W.heap.size W W4) := HB3.out.trans (hb.mono HB3.out.size)
    have HR4 := hideP (HR3.out.below hb)
    clear hb KT
    go_wp2_with fail
    refine (l01Bent _ _ a len cap B t hlen (by omega) HK4.out).mono ?_
    rintro e W5 ⟨r, rfl, hr, hC5, hG5⟩
    have HB5 : Hid (Below W.heap.size W W5) := below_grownBy HB4.out hG5 HB4.out.size HK4.out.lo
    have HR5 := hideP ((HR4.out.grown hG5 hBi).mono HB1.out.size)
    clear hC5 hG5
    go_wp2
    go_returns
    exact ⟨v, l, r, rfl, by omega, HR5.out, HB5.out⟩
  · go_wp2_with fail
    refine (l01Pick _ _ a len cap B W3.heap.size 7 7 (fun j => rdTexts.getD j ⟨#[]⟩) hlen (by omega) (by omega) (by rw [size_new]; omega) (Nat.ne_of_gt HK3.out.hi) (fun j hj => alloc_strs W3 rdTexts _ j hj) (HK3.out.alloc _)).mono ?_
    rintro e W5 ⟨j5, hj5, rfl, hC5, hG5⟩
    have HB5 : Hid (Below W.heap.size W W5) := below_grownBy (HB3.out.alloc HB3.out.size _) hG5 (by rw [size_new]; have := HB3.out.size; omega) HK3.out.lo
    have HR5 := hideP (((HR3.out.below ((Below.refl _ _).alloc (Nat.le_refl _) _)).grown hG5 hBi).mono HB1.out.size)
    have hts := rdTexts_len ⟨j5, hj5⟩
    dsimp only at hts
    clear hC5 hG5
    generalize rdTexts.getD j5 ⟨#[]⟩ = t at *
    go_wp2
    go_returns
    exact ⟨v, l, t, rfl, by omega, HR5.out, HB5.out⟩
end Go.Proofs.YtcdcniniafejbaaGreatDoor.ctr

namespace Go.Proofs.YtcdcniniafejbaaGreatDoor.ctr
open Go.RowKit

def rz : Array Value := #[.string ⟨#[]⟩, .int .i64 0, .int .i64 0]
/-- The state of a draw that gives back a reign: its block Z. -/
structure RzSt (W : World) (Z : Nat) (vs : Array Value) (W' : World) : Prop where
  zer : Blk W' Z vs 29
  bel : Below W.heap.size W W'
  hZ : W.heap.size ≤ Z
theorem RzSt.new (W : World) : Hid (RzSt W W.heap.size #[.string ⟨#[]⟩, .int .i64 0, .int .i64 0] (W.alloc (.cells #[.string ⟨#[]⟩, .int .i64 0, .int .i64 0] 29))) :=
  ⟨Blk.new W _ _, (Below.refl _ _).alloc (Nat.le_refl _) _, Nat.le_refl _⟩
theorem RzSt.below {W W1 W2 : World} {Z : Nat} {vs : Array Value} (h : Hid (RzSt W Z vs W1)) (hb : Below W1.heap.size W1 W2) : Hid (RzSt W Z vs W2) :=
  ⟨h.out.zer.below hb h.out.zer.lt, h.out.bel.trans (hb.mono h.out.bel.size), h.out.hZ⟩
theorem RzSt.drew {W W1 : World} {Z : Nat} {vs : Array Value} (h : Hid (RzSt W Z vs W1)) : Hid (RzSt W Z vs W1.drew) := ⟨h.out.zer, h.out.bel.drew, h.out.hZ⟩
theorem RzSt.put {W W1 : World} {Z : Nat} {x y z : Value} (h : Hid (RzSt W Z #[.string ⟨#[]⟩, .int .i64 0, .int .i64 0] W1)) : Hid (RzSt W Z #[x, y, z] (((W1.setCell ⟨Z, 0, none⟩ x).setCell ⟨Z, 1, none⟩ y).setCell ⟨Z, 2, none⟩ z)) :=
  ⟨((h.out.zer.set 0 _).set 1 _).set 2 _, below_store (below_store (below_store h.out.bel _ h.out.hZ) _ h.out.hZ) _ h.out.hZ, h.out.hZ⟩

set_option maxRecDepth 100000 in
set_option maxHeartbeats 8000000 in
theorem l08One (W : World) (a : Option Addr) (len cap : Nat) (hlen : len ≤ maxLen) (hcode : CodeAt W.heap.size W a len) :
    Calls Tryz.prog 36 #[.slice a len cap] W fun e W' => ∃ (c s ru : Int) (nm : ByteArray) (f t n : Int), e = .returned (.tuple #[.int .i64 c, .int .i64 s, .int .i64 ru, .agg #[.string nm, .int .i64 f, .int .i64 t], .int .i64 n]) ∧ Below W.heap.size W W' := by
  have HC := hideP hcode
  clear hcode
  go_enter Tryz.func36, Tryz.ntmps36
  go_wp2_with fail
  obtain ⟨V, hV⟩ : ∃ V, V = W.alloc (.cells #[.string ⟨#[]⟩, .int .i64 0, .int .i64 0] 29) := ⟨_, rfl⟩
  have S0 := RzSt.new W
  have hVs : V.heap.size = W.heap.size + 1 := by rw [hV, size_new]
  rw [← hV] at S0 ⊢
  clear hV
  refine (l08Case V a len cap hlen (HC.out.up S0.out.bel)).mono ?_
  rintro e W1 ⟨c, s, ru, v, l, n, rfl, hr, hb⟩
  have S1 := RzSt.below S0 hb
  clear hb S0
  obtain ⟨⟨⟨ad, cp, rfl, h1, h2, h3, hc⟩, h5, h6⟩, h7⟩ := hr
  have h2' : cp ≤ 9223372036854775807 := by unfold maxLen at h2; omega
  unfold maxLen at hlen
  have z0 := S1.out.zer.cell 0 rfl
  have z1 := S1.out.zer.cell 1 rfl
  have z2 := S1.out.zer.cell 2 rfl
  have f0 := S1.out.zer.thaw 0
  have f1 := S1.out.zer.thaw 1
  have f2 := S1.out.zer.thaw 2
  by_cases hl : l.length = 0
  · clear hc h7
    rw [hl]
    go_wp2_with fail
    have S9 := RzSt.put (x := .string ⟨#[111, 116, 116, 111]⟩) (y := .int .i64 n) (z := .int .i64 (wrap64 (n + 800))) S1
    generalize (((W1.setCell ⟨W.heap.size, 0, none⟩ (.string ⟨#[111, 116, 116, 111]⟩)).setCell ⟨W.heap.size, 1, none⟩ (.int .i64 n)).setCell ⟨W.heap.size, 2, none⟩ (.int .i64 (wrap64 (n + 800)))) = W9 at *
    have y0 := S9.out.zer.cell 0 rfl
    have y1 := S9.out.zer.cell 1 rfl
    have y2 := S9.out.zer.cell 2 rfl
    refine bodyPost_ret (by simp [results, Tryz.results36, go_sem, y0, y1, y2]; try rfl) rfl ?_
    exact ⟨_, _, _, _, _, _, _, rfl, S9.out.bel⟩
  · have hl0 : 0 < l.length := by omega
    obtain ⟨g, rfl, hg, x0, x1, x2⟩ := hc 0 hl0
    have hgZ : ¬ g = W.heap.size := by
      rcases h7 with h7 | ⟨g', n', c', e, hb⟩
      · rw [h7] at hl
        simp at hl
      · cases e
        omega
    have hZg : ¬ W.heap.size = g := fun h => hgZ h.symm
    simp only [Nat.zero_mul, Nat.zero_add] at x0 x1 x2
    clear hc h7 h6 h3
    generalize rgA l 0 = r at *
    obtain ⟨nm, f, t⟩ := r
    dsimp only at x0 x1 x2
    have hli : ¬ (l.length : Int) = 0 := by omega
    go_wp2_with fail
    go_region
    all_goals go_wp2_with fail
    have S9 := RzSt.drew (RzSt.put (x := (.string nm)) (y := (.int .i64 f)) (z := (.int .i64 t)) S1)
    generalize (((W1.setCell ⟨W.heap.size, 0, none⟩ (.string nm)).setCell ⟨W.heap.size, 1, none⟩ (.int .i64 f)).setCell ⟨W.heap.size, 2, none⟩ (.int .i64 t)).drew = W9 at *
    have y0 := S9.out.zer.cell 0 rfl
    have y1 := S9.out.zer.cell 1 rfl
    have y2 := S9.out.zer.cell 2 rfl
    refine bodyPost_ret (by simp [results, Tryz.results36, go_sem, y0, y1, y2]; try rfl) rfl ?_
    exact ⟨_, _, _, _, _, _, _, rfl, S9.out.bel⟩

set_option maxRecDepth 100000 in
set_option maxHeartbeats 4000000 in
theorem drawReignYear (W : World) (a : Option Addr) (len cap : Nat) (hlen : len ≤ maxLen) (hcode : CodeAt W.heap.size W a len) :
    Calls Tryz.prog 8 #[.slice a len cap] W fun e W' => ∃ (c s ru : Int) (nm : ByteArray) (f t n : Int), e = .returned (.tuple #[.int .i64 c, .int .i64 s, .int .i64 ru, .agg #[.string nm, .int .i64 f, .int .i64 t], .int .i64 n]) ∧ Below W.heap.size W W' := by
  have HC := hideP hcode
  clear hcode
  go_enter Tryz.func8, Tryz.ntmps8
  go_wp2_with fail
  obtain ⟨V, hV⟩ : ∃ V, V = W.alloc (.cells #[.string ⟨#[]⟩, .int .i64 0, .int .i64 0] 29) := ⟨_, rfl⟩
  have S0 := RzSt.new W
  have hVs : V.heap.size = W.heap.size + 1 := by rw [hV, size_new]
  rw [← hV] at S0 ⊢
  clear hV
  refine (l08One V a len cap hlen (HC.out.up S0.out.bel)).mono ?_
  rintro e W1 ⟨c, s, ru, nm, f, t, n, rfl, hb⟩
  have S1 := RzSt.below S0 hb
  have hb1 := hb.size
  clear hb S0
  unfold maxLen at hlen
  have z0 := S1.out.zer.cell 0 rfl
  have z1 := S1.out.zer.cell 1 rfl
  have z2 := S1.out.zer.cell 2 rfl
  have f0 := S1.out.zer.thaw 0
  have f1 := S1.out.zer.thaw 1
  have f2 := S1.out.zer.thaw 2
  go_wp2_with fail
  have S9 := RzSt.put (x := (.string nm)) (y := (.int .i64 f)) (z := (.int .i64 t)) S1
  generalize (((W1.setCell ⟨W.heap.size, 0, none⟩ (.string nm)).setCell ⟨W.heap.size, 1, none⟩ (.int .i64 f)).setCell ⟨W.heap.size, 2, none⟩ (.int .i64 t)) = W9 at *
  have y0 := S9.out.zer.cell 0 rfl
  have y1 := S9.out.zer.cell 1 rfl
  have y2 := S9.out.zer.cell 2 rfl
  refine bodyPost_ret (by simp [results, Tryz.results8, go_sem, y0, y1, y2]; try rfl) rfl ?_
  exact ⟨_, _, _, _, _, _, _, rfl, S9.out.bel⟩

set_option maxRecDepth 100000 in
set_option maxHeartbeats 4000000 in
theorem drawReignDays (W : World) (a : Option Addr) (len cap : Nat) (hlen : len ≤ maxLen) (hcode : CodeAt W.heap.size W a len) :
    Calls Tryz.prog 10 #[.slice a len cap] W fun e W' => ∃ (c s ru : Int) (nm : ByteArray) (f t n : Int), e = .returned (.tuple #[.int .i64 c, .int .i64 s, .int .i64 ru, .agg #[.string nm, .int .i64 f, .int .i64 t], .int .i64 n]) ∧ Below W.heap.size W W' := by
  have HC := hideP hcode
  clear hcode
  go_enter Tryz.func10, Tryz.ntmps10
  go_wp2_with fail
  obtain ⟨V, hV⟩ : ∃ V, V = W.alloc (.cells #[.string ⟨#[]⟩, .int .i64 0, .int .i64 0] 29) := ⟨_, rfl⟩
  have S0 := RzSt.new W
  have hVs : V.heap.size = W.heap.size + 1 := by rw [hV, size_new]
  rw [← hV] at S0 ⊢
  clear hV
  refine (l08One V a len cap hlen (HC.out.up S0.out.bel)).mono ?_
  rintro e W1 ⟨c, s, ru, nm, f, t, n, rfl, hb⟩
  have S1 := RzSt.below S0 hb
  have hb1 := hb.size
  clear hb S0
  unfold maxLen at hlen
  go_wp2_with fail
  have S2 := RzSt.below S1 ((Below.refl _ _).alloc (Nat.le_refl _) (.cells #[.string nm, .int .i64 f, .int .i64 t] 29))
  have D2 := Blk.new W1 #[.string nm, .int .i64 f, .int .i64 t] 29
  generalize hW2 : W1.alloc (.cells #[.string nm, .int .i64 f, .int .i64 t] 29) = W2 at *
  clear hW2 S1
  have S1 := S2
  clear S2
  have hgZ : ¬ W1.heap.size = W.heap.size := by omega
  have hZg : ¬ W.heap.size = W1.heap.size := by omega
  have x0 := D2.cell 0 rfl
  have x1 := D2.cell 1 rfl
  have x2 := D2.cell 2 rfl
  have z0 := S1.out.zer.cell 0 rfl
  have z1 := S1.out.zer.cell 1 rfl
  have z2 := S1.out.zer.cell 2 rfl
  have f0 := S1.out.zer.thaw 0
  have f1 := S1.out.zer.thaw 1
  have f2 := S1.out.zer.thaw 2
  go_region
  all_goals go_wp2_with fail
  have S9 := RzSt.drew (RzSt.put (x := (.string nm)) (y := (.int .i64 f)) (z := (.int .i64 t)) S1)
  generalize (((W2.setCell ⟨W.heap.size, 0, none⟩ (.string nm)).setCell ⟨W.heap.size, 1, none⟩ (.int .i64 f)).setCell ⟨W.heap.size, 2, none⟩ (.int .i64 t)).drew = W9 at *
  have y0 := S9.out.zer.cell 0 rfl
  have y1 := S9.out.zer.cell 1 rfl
  have y2 := S9.out.zer.cell 2 rfl
  refine bodyPost_ret (by simp [results, Tryz.results10, go_sem, y0, y1, y2]; try rfl) rfl ?_
  exact ⟨_, _, _, _, _, _, _, rfl, S9.out.bel⟩

set_option maxRecDepth 100000 in
set_option maxHeartbeats 4000000 in
theorem drawLastYear (W : World) (a : Option Addr) (len cap : Nat) (hlen : len ≤ maxLen) (hcode : CodeAt W.heap.size W a len) :
    Calls Tryz.prog 20 #[.slice a len cap] W fun e W' => ∃ (c s ru : Int) (nm : ByteArray) (f t : Int), e = .returned (.tuple #[.int .i64 c, .int .i64 s, .int .i64 ru, .agg #[.string nm, .int .i64 f, .int .i64 t]]) ∧ Below W.heap.size W W' := by
  have HC := hideP hcode
  clear hcode
  go_enter Tryz.func20, Tryz.ntmps20
  go_wp2_with fail
  obtain ⟨V, hV⟩ : ∃ V, V = W.alloc (.cells #[.string ⟨#[]⟩, .int .i64 0, .int .i64 0] 29) := ⟨_, rfl⟩
  have S0 := RzSt.new W
  have hVs : V.heap.size = W.heap.size + 1 := by rw [hV, size_new]
  rw [← hV] at S0 ⊢
  clear hV
  refine (l08One V a len cap hlen (HC.out.up S0.out.bel)).mono ?_
  rintro e W1 ⟨c, s, ru, nm, f, t, n, rfl, hb⟩
  have S1 := RzSt.below S0 hb
  have hb1 := hb.size
  clear hb S0
  unfold maxLen at hlen
  go_wp2_with fail
  have S2 := RzSt.below S1 ((Below.refl _ _).alloc (Nat.le_refl _) (.cells #[.string nm, .int .i64 f, .int .i64 t] 29))
  have D2 := Blk.new W1 #[.string nm, .int .i64 f, .int .i64 t] 29
  generalize hW2 : W1.alloc (.cells #[.string nm, .int .i64 f, .int .i64 t] 29) = W2 at *
  clear hW2 S1
  have S1 := S2
  clear S2
  have hgZ : ¬ W1.heap.size = W.heap.size := by omega
  have hZg : ¬ W.heap.size = W1.heap.size := by omega
  have x0 := D2.cell 0 rfl
  have x1 := D2.cell 1 rfl
  have x2 := D2.cell 2 rfl
  have z0 := S1.out.zer.cell 0 rfl
  have z1 := S1.out.zer.cell 1 rfl
  have z2 := S1.out.zer.cell 2 rfl
  have f0 := S1.out.zer.thaw 0
  have f1 := S1.out.zer.thaw 1
  have f2 := S1.out.zer.thaw 2
  go_region
  all_goals go_wp2_with fail
  have S9 := RzSt.drew (RzSt.put (x := (.string nm)) (y := (.int .i64 f)) (z := (.int .i64 t)) S1)
  generalize (((W2.setCell ⟨W.heap.size, 0, none⟩ (.string nm)).setCell ⟨W.heap.size, 1, none⟩ (.int .i64 f)).setCell ⟨W.heap.size, 2, none⟩ (.int .i64 t)).drew = W9 at *
  have y0 := S9.out.zer.cell 0 rfl
  have y1 := S9.out.zer.cell 1 rfl
  have y2 := S9.out.zer.cell 2 rfl
  refine bodyPost_ret (by simp [results, Tryz.results20, go_sem, y0, y1, y2]; try rfl) rfl ?_
  exact ⟨_, _, _, _, _, _, rfl, S9.out.bel⟩
end Go.Proofs.YtcdcniniafejbaaGreatDoor.ctr

namespace Go.Proofs.YtcdcniniafejbaaGreatDoor.ctr
open Go.RowKit

/-- The days of the first j of a reign whose year is k. -/
noncomputable def rdTo (c s ru f t k : Int) : Nat → List Int
  | 0 => []
  | j + 1 => rdTo c s ru f t k j ++ (if reignYear c s ru f t (f + j) = k then [f + (j : Int)] else [])
noncomputable def reignDays (c s ru f t k : Int) : List Int := if 1 ≤ k ∧ endsB f t = true ∧ t - f < 4000 then rdTo c s ru f t k (t - f + 1).toNat else []
theorem rd_no {c s ru f t k : Int} (h : ¬ (1 ≤ k ∧ endsB f t = true ∧ t - f < 4000)) : reignDays c s ru f t k = [] := by unfold reignDays; rw [if_neg h]
theorem rd_yes {c s ru f t k : Int} (h : 1 ≤ k ∧ endsB f t = true ∧ t - f < 4000) : reignDays c s ru f t k = rdTo c s ru f t k (t - f + 1).toNat := by unfold reignDays; rw [if_pos h]
theorem rdTo_len (c s ru f t k : Int) : ∀ j : Nat, (rdTo c s ru f t k j).length ≤ j
  | 0 => Nat.le_refl _
  | j + 1 => by
    have := rdTo_len c s ru f t k j
    rw [rdTo, List.length_append]
    split <;> simp <;> omega
theorem rdTo_hit {c s ru f t k : Int} {j : Nat} (h : reignYear c s ru f t (f + j) = k) : rdTo c s ru f t k (j + 1) = rdTo c s ru f t k j ++ [f + (j : Int)] := by rw [rdTo, if_pos h]
theorem rdTo_miss {c s ru f t k : Int} {j : Nat} (h : ¬ reignYear c s ru f t (f + j) = k) : rdTo c s ru f t k (j + 1) = rdTo c s ru f t k j := by rw [rdTo, if_neg h, List.append_nil]
theorem rd_len (c s ru f t k : Int) : (reignDays c s ru f t k).length ≤ 4000 := by
  by_cases h : 1 ≤ k ∧ endsB f t = true ∧ t - f < 4000
  · rw [rd_yes h]
    have := rdTo_len c s ru f t k (t - f + 1).toNat
    omega
  · rw [rd_no h]; simp
theorem own_mono1 {w : World} {b b' e size : Nat} {v : Value} {n : Nat} {xs : List Value} (h : w.ownsRow b e size v n xs) (hb : b' ≤ b) : w.ownsRow b' e size v n xs := by
  obtain ⟨h1, h | ⟨g, cap, cur, hv, hg, hr⟩⟩ := h
  · exact ⟨h1, .inl h⟩
  · exact ⟨h1, .inr ⟨g, cap, cur, hv, Nat.le_trans hb hg, hr⟩⟩
theorem ISt.done {w w0 W : World} {o : Value} {xs : List Int} (h : ISt w o xs W) (hb : Below w0.heap.size w0 w) : MovRow w0 W o xs ∧ Below w0.heap.size w0 W :=
  ⟨own_ints (e := 3) (own_mono1 h.row hb.size), hb.trans (h.below.mono hb.size)⟩

set_option maxRecDepth 100000 in
set_option maxHeartbeats 4000000 in
theorem implReignDays (c s ru : Int) (nm : ByteArray) (f t k : Int) (w : World) (hT : Tab w) : Calls Tryz.prog 11 #[.int .i64 c, .int .i64 s, .int .i64 ru, .agg #[.string nm, .int .i64 f, .int .i64 t], .int .i64 k] w fun e w' => ∃ v, e = .returned v ∧ MovRow w w' v (reignDays c s ru f t k) ∧ Below w.heap.size w w' := by
  obtain ⟨i0, hi, hz0, hz1, hz2⟩ := info_parts info_int
  obtain ⟨W0, hW0, c0, c1, c2, hBl⟩ := rgn_box w nm f t 29
  have KE : ∀ x : Later W0, Calls Tryz.prog 41 #[.agg #[.string nm, .int .i64 f, .int .i64 t]] x.w fun e w' => e = .returned (.bool (endsB f t)) ∧ Below x.w.heap.size x.w w' := fun x => implEnds nm f t x.w (hT.later (hBl x))
  have KYh : Hid (∀ n (x : Later W0), Calls Tryz.prog 9 #[.int .i64 c, .int .i64 s, .int .i64 ru, .agg #[.string nm, .int .i64 f, .int .i64 t], .int .i64 n] x.w fun e w' => e = .returned (.int .i64 (reignYear c s ru f t n)) ∧ Below x.w.heap.size x.w w') := fun n x => implReignYear c s ru nm f t n x.w (hT.later (hBl x))
  have HW0 := hideP hW0
  have HB0 : Hid (Below w.heap.size w W0) := hBl ⟨W0, Below.refl _ _⟩
  have HBl := hideP hBl
  clear hW0 hBl hT
  by_cases hk : 1 ≤ k
  case neg =>
    rw [rd_no (fun h => hk h.1)]
    have hd : decide (k < 1) = true := decide_eq_true (by omega)
    go_enter Tryz.func11, Tryz.ntmps11
    go_wp2
    go_ret
    exact ⟨_, rfl, movRow_nil _ _, by have := HB0.out; rw [HW0.out] at this; exact this⟩
  have hd : decide (k < 1) = false := decide_eq_false (by omega)
  cases he : endsB f t
  · rw [rd_no (fun h => by rw [he] at h; cases h.2.1)]
    simp only [he] at KE
    clear he
    go_enter Tryz.func11, Tryz.ntmps11
    go_wp2_with fail
    rw [← HW0.out]
    refine (KE ⟨W0, Below.refl _ _⟩).mono ?_
    rintro e w1 ⟨rfl, hb⟩
    obtain ⟨x1, rfl⟩ := Later.of hb
    clear hb
    go_wp2
    go_ret
    exact ⟨_, rfl, movRow_nil _ _, HBl.out x1⟩
  have hfb := both_bound (n := f) (by unfold endsB at he; simp only [Bool.and_eq_true] at he; exact he.1)
  have htb := both_bound (n := t) (by unfold endsB at he; simp only [Bool.and_eq_true] at he; exact he.2)
  by_cases h4 : t - f < 4000
  case neg =>
    rw [rd_no (fun h => h4 h.2.2)]
    have hd4 : decide (4000 ≤ t - f) = true := decide_eq_true (by omega)
    simp only [he] at KE
    clear he
    go_enter Tryz.func11, Tryz.ntmps11
    go_wp2_with fail
    rw [← HW0.out]
    refine (KE ⟨W0, Below.refl _ _⟩).mono ?_
    rintro e w1 ⟨rfl, hb⟩
    obtain ⟨x1, rfl⟩ := Later.of hb
    clear hb
    go_wp2
    go_ret
    exact ⟨_, rfl, movRow_nil _ _, HBl.out x1⟩
  rw [rd_yes ⟨hk, he, h4⟩]
  have hd4 : decide (4000 ≤ t - f) = false := decide_eq_false (by omega)
  simp only [he] at KE
  clear he
  go_enter Tryz.func11, Tryz.ntmps11
  go_wp2_with fail
  rw [← HW0.out]
  refine (KE ⟨W0, Below.refl _ _⟩).mono ?_
  rintro e w1 ⟨rfl, hb⟩
  obtain ⟨x1, rfl⟩ := Later.of hb
  clear hb
  go_wp2_with fail
  have SS : Hid (ISt W0 (.slice none 0 0) [] x1.w) := (ISt.nil W0).later x1.below
  go_loopw [11, 12] (fun o i wr => ∃ j : Nat, j ≤ (t - f + 1).toNat ∧ i = .int .i64 (f + (j : Int)) ∧ ISt W0 o (rdTo c s ru f t k j) wr) (fun _ i _ => (t - intOf i + 1).toNat)
  case atStart => exact ⟨0, Nat.zero_le _, by simp, SS.out⟩
  case round =>
    obtain ⟨j, hj, rfl, hS⟩ := hrel
    have S := hideP hS
    clear hS SS
    have d0 := c0 ⟨wr, S.out.below⟩
    have d1 := c1 ⟨wr, S.out.below⟩
    have d2 := c2 ⟨wr, S.out.below⟩
    dsimp only at d0 d1 d2
    by_cases hlt : f + (j : Int) ≤ t
    · have hl := rdTo_len c s ru f t k j
      have KY := KYh.out (f + (j : Int)) ⟨wr, S.out.below⟩
      dsimp only at KY
      have H1 := hideP (rdTo_hit (c := c) (s := s) (ru := ru) (f := f) (t := t) (k := k) (j := j))
      have H0 := hideP (rdTo_miss (c := c) (s := s) (ru := ru) (f := f) (t := t) (k := k) (j := j))
      generalize reignYear c s ru f t (f + (j : Int)) = y at *
      generalize rdTo c s ru f t k j = xs at *
      go_wp2_with fail
      refine KY.mono ?_
      rintro e W2 ⟨rfl, hb⟩
      have S2 := hideP (S.out.later hb)
      clear hb d0 d1 d2
      by_cases hy : y = k
      · have HN := hideP (H1.out hy)
        subst hy
        go_wp2_with (at_builtin; refine wpList_append_own _ rfl _ _ 33 rfl W0.heap.size 3 i0 (.int .i64 0) 1 8 Tryz.underlying33 hi hz0 hz1 hz2 rfl (by decide) _ _ _ rfl (S2.out.row.alloc _) ⟨W2.heap.size, 0, none⟩ 1 1 [.int .i64 (f + (j : Int))] rfl rfl (cell_one_new _ _ _) (by simp [Value.oneCell']) (by unfold maxLen; omega) (by omega) (by have := S2.out.below.size; rw [inew]; omega) ?_; intro v' w9 hown' hgrow _)
        refine ⟨⟨j + 1, by omega, by apply congrArg (Value.int .i64); omega, ?_⟩, by simp [intOf]; omega⟩
        rw [HN.out]
        exact S2.out.app (f + (j : Int)) hown' hgrow
      · have HN := hideP (H0.out hy)
        have hy' : (y == k) = false := by simp [hy]
        go_wp2
        exact ⟨⟨j + 1, by omega, by apply congrArg (Value.int .i64); omega, by rw [HN.out]; exact S2.out⟩, by simp [intOf]; omega⟩
    · have hjn : j = (t - f + 1).toNat := by omega
      rw [hjn] at S
      go_wp2
      go_ret
      exact ⟨_, rfl, S.out.done HB0.out⟩

set_option maxRecDepth 100000 in
set_option maxHeartbeats 4000000 in
theorem specReignDays (c s ru : Int) (nm : ByteArray) (f t k : Int) (w : World) : Calls Tryz.prog 27 #[.int .i64 c, .int .i64 s, .int .i64 ru, .agg #[.string nm, .int .i64 f, .int .i64 t], .int .i64 k] w fun e w' => ∃ v, e = .returned v ∧ MovRow w w' v (reignDays c s ru f t k) ∧ Below w.heap.size w w' := by
  obtain ⟨i0, hi, hz0, hz1, hz2⟩ := info_parts info_int
  obtain ⟨W0, hW0, c0, c1, c2, hBl⟩ := rgn_box w nm f t 29
  have KF : ∀ x : Later W0, Calls Tryz.prog 57 #[.int .i64 f] x.w fun e w' => e = .returned (.bool (bothB f)) ∧ Below x.w.heap.size x.w w' := fun x => specDated f x.w
  have KU : ∀ x : Later W0, Calls Tryz.prog 57 #[.int .i64 t] x.w fun e w' => e = .returned (.bool (bothB t)) ∧ Below x.w.heap.size x.w w' := fun x => specDated t x.w
  have KYh : Hid (∀ n (x : Later W0), Calls Tryz.prog 25 #[.int .i64 c, .int .i64 s, .int .i64 ru, .agg #[.string nm, .int .i64 f, .int .i64 t], .int .i64 n] x.w fun e w' => e = .returned (.int .i64 (reignYear c s ru f t n)) ∧ Below x.w.heap.size x.w w') := fun n x => specReignYear c s ru nm f t n x.w
  have HW0 := hideP hW0
  have HB0 : Hid (Below w.heap.size w W0) := hBl ⟨W0, Below.refl _ _⟩
  have HBl := hideP hBl
  clear hW0 hBl
  have S0 : Hid (ISt W0 (.slice (some ⟨W0.heap.size, 0, none⟩) 0 0) [] (W0.alloc (.cells #[] 3))) := ⟨iown_empty W0 _, (Below.refl _ _).alloc (Nat.le_refl _) _⟩
  obtain ⟨xE, hxE⟩ : ∃ xE : Later W0, W0.alloc (.cells #[] 3) = xE.w := ⟨⟨_, S0.out.below⟩, rfl⟩
  have HxE := hideP hxE
  rw [hxE] at S0
  clear hxE
  have hsz : w.heap.size + 1 = W0.heap.size := by rw [HW0.out, World.size_alloc]
  have HSz := hideP hsz
  clear hsz
  by_cases hk : 1 ≤ k
  case neg =>
    rw [rd_no (fun h => hk h.1)]
    have hd : decide (k < 1) = true := decide_eq_true (by omega)
    have S0' : Hid (ISt W0 (.slice (some ⟨w.heap.size + 1, 0, none⟩) 0 0) [] ((w.alloc (.cells #[.string nm, .int .i64 f, .int .i64 t] 29)).alloc (.cells #[] 3))) := by
      have := S0.out
      rw [← HxE.out, ← HSz.out] at this
      rw [← HW0.out]
      exact this
    go_enter Tryz.func27, Tryz.ntmps27
    go_wp2
    go_ret
    exact ⟨_, rfl, S0'.out.done HB0.out⟩
  have hd : decide (k < 1) = false := decide_eq_false (by omega)
  cases hf : bothB f
  · rw [rd_no (fun h => by have := h.2.1; unfold endsB at this; rw [hf] at this; cases this)]
    simp only [hf] at KF
    clear hf
    go_enter Tryz.func27, Tryz.ntmps27
    go_wp2_with fail
    rw [← HW0.out, HxE.out]
    rw [HSz.out]
    refine (KF xE).mono ?_
    rintro e wq ⟨rfl, hb⟩
    have S1 := hideP (S0.out.later hb)
    obtain ⟨x1, rfl⟩ := xE.next hb
    clear hb
    go_wp2
    go_ret
    exact ⟨_, rfl, S1.out.done HB0.out⟩
  simp only [hf] at KF
  have hfb := both_bound hf
  cases ht : bothB t
  · rw [rd_no (fun h => by have := h.2.1; unfold endsB at this; rw [hf, ht] at this; cases this)]
    simp only [ht] at KU
    clear hf ht
    go_enter Tryz.func27, Tryz.ntmps27
    go_wp2_with fail
    rw [← HW0.out, HxE.out]
    rw [HSz.out]
    refine (KF xE).mono ?_
    rintro e wq ⟨rfl, hb⟩
    have S1 := hideP (S0.out.later hb)
    obtain ⟨x1, rfl⟩ := xE.next hb
    clear hb
    go_wp2_with fail
    refine (KU x1).mono ?_
    rintro e wq ⟨rfl, hb⟩
    have S2 := hideP (S1.out.later hb)
    obtain ⟨x2, rfl⟩ := x1.next hb
    clear hb
    go_wp2
    go_ret
    exact ⟨_, rfl, S2.out.done HB0.out⟩
  simp only [ht] at KU
  have htb := both_bound ht
  have he : endsB f t = true := by unfold endsB; rw [hf, ht]; rfl
  clear hf ht
  by_cases h4 : t - f < 4000
  case neg =>
    rw [rd_no (fun h => h4 h.2.2)]
    have hd4 : decide (4000 ≤ t - f) = true := decide_eq_true (by omega)
    clear he
    go_enter Tryz.func27, Tryz.ntmps27
    go_wp2_with fail
    rw [← HW0.out, HxE.out]
    rw [HSz.out]
    refine (KF xE).mono ?_
    rintro e wq ⟨rfl, hb⟩
    have S1 := hideP (S0.out.later hb)
    obtain ⟨x1, rfl⟩ := xE.next hb
    clear hb
    go_wp2_with fail
    refine (KU x1).mono ?_
    rintro e wq ⟨rfl, hb⟩
    have S2 := hideP (S1.out.later hb)
    obtain ⟨x2, rfl⟩ := x1.next hb
    clear hb
    go_wp2
    go_ret
    exact ⟨_, rfl, S2.out.done HB0.out⟩
  rw [rd_yes ⟨hk, he, h4⟩]
  have hd4 : decide (4000 ≤ t - f) = false := decide_eq_false (by omega)
  clear he
  go_enter Tryz.func27, Tryz.ntmps27
  go_wp2_with fail
  rw [← HW0.out, HxE.out]
  rw [HSz.out]
  refine (KF xE).mono ?_
  rintro e wq ⟨rfl, hb⟩
  have S1 := hideP (S0.out.later hb)
  obtain ⟨x1, rfl⟩ := xE.next hb
  clear hb
  go_wp2_with fail
  refine (KU x1).mono ?_
  rintro e wq ⟨rfl, hb⟩
  have S2 := hideP (S1.out.later hb)
  obtain ⟨x2, rfl⟩ := x1.next hb
  clear hb
  go_wp2_with fail
  have SS := S2
  go_loopw [11, 12] (fun o i wr => ∃ j : Nat, j ≤ (t - f + 1).toNat ∧ i = .int .i64 (f + (j : Int)) ∧ ISt W0 o (rdTo c s ru f t k j) wr) (fun _ i _ => (t - intOf i + 1).toNat)
  case atStart => exact ⟨0, Nat.zero_le _, by simp, SS.out⟩
  case round =>
    obtain ⟨j, hj, rfl, hS⟩ := hrel
    have S := hideP hS
    clear hS SS
    have d0 := c0 ⟨wr, S.out.below⟩
    have d1 := c1 ⟨wr, S.out.below⟩
    have d2 := c2 ⟨wr, S.out.below⟩
    dsimp only at d0 d1 d2
    by_cases hlt : f + (j : Int) ≤ t
    · have hl := rdTo_len c s ru f t k j
      have KY := KYh.out (f + (j : Int)) ⟨wr, S.out.below⟩
      dsimp only at KY
      have H1 := hideP (rdTo_hit (c := c) (s := s) (ru := ru) (f := f) (t := t) (k := k) (j := j))
      have H0 := hideP (rdTo_miss (c := c) (s := s) (ru := ru) (f := f) (t := t) (k := k) (j := j))
      generalize reignYear c s ru f t (f + (j : Int)) = y at *
      generalize rdTo c s ru f t k j = xs at *
      go_wp2_with fail
      refine KY.mono ?_
      rintro e W2 ⟨rfl, hb⟩
      have S2 := hideP (S.out.later hb)
      clear hb d0 d1 d2
      by_cases hy : y = k
      · have HN := hideP (H1.out hy)
        subst hy
        go_wp2_with (at_builtin; refine wpList_append_own _ rfl _ _ 33 rfl W0.heap.size 3 i0 (.int .i64 0) 1 8 Tryz.underlying33 hi hz0 hz1 hz2 rfl (by decide) _ _ _ rfl (S2.out.row.alloc _) ⟨W2.heap.size, 0, none⟩ 1 1 [.int .i64 (f + (j : Int))] rfl rfl (cell_one_new _ _ _) (by simp [Value.oneCell']) (by unfold maxLen; omega) (by omega) (by have := S2.out.below.size; rw [inew]; omega) ?_; intro v' w9 hown' hgrow _)
        refine ⟨⟨j + 1, by omega, by apply congrArg (Value.int .i64); omega, ?_⟩, by simp [intOf]; omega⟩
        rw [HN.out]
        exact S2.out.app (f + (j : Int)) hown' hgrow
      · have HN := hideP (H0.out hy)
        have hy' : (y == k) = false := by simp [hy]
        go_wp2
        exact ⟨⟨j + 1, by omega, by apply congrArg (Value.int .i64); omega, by rw [HN.out]; exact S2.out⟩, by simp [intOf]; omega⟩
    · have hjn : j = (t - f + 1).toNat := by omega
      rw [hjn] at S
      go_wp2
      go_ret
      exact ⟨_, rfl, S.out.done HB0.out⟩

end Go.Proofs.YtcdcniniafejbaaGreatDoor.ctr

namespace Go.Proofs.YtcdcniniafejbaaGreatDoor.ctr
open Go.RowKit

theorem named_own {l : List Rgn} (h : reignsOk l = true) {i : Nat} (hi : i < l.length) : namedR l (rgA l i).name = (i : Int) := by
  have own : isNamed (rgA l i).name (rgA l i) = true := by simp [isNamed]
  rcases rf_cases (isNamed (rgA l i).name) l with ⟨_, hno⟩ | ⟨k, hk, e, hp, hmin⟩
  · rw [hno i hi] at own
    cases own
  · have hki : k ≤ i := by
      apply Classical.byContradiction
      intro q
      rw [hmin i (by omega)] at own
      cases own
    by_cases q : k = i
    · subst q
      exact e
    · exfalso
      have hn := (ok_rgn h hi).2.2.2.2.2
      have hlen : k < (l.take i).length := by simp; omega
      rcases rf_cases (isNamed (rgA l i).name) (l.take i) with ⟨_, hno⟩ | ⟨k2, _, e2, _⟩
      · have := hno k hlen
        rw [rgA_take (by omega), hp] at this
        cases this
      · have : namedR (l.take i) (rgA l i).name = (k2 : Int) := e2
        omega
theorem ok_sorted {l : List Rgn} (h : reignsOk l = true) : ∀ j i, i < j → j < l.length → (rgA l i).to < (rgA l j).fr := by
  intro j
  induction j with
  | zero => intro i hi; omega
  | succ j ih =>
    intro i hi hj
    have hb := (ok_rgn h hj).2.2.2.2.1
    rw [behB_take (by omega)] at hb
    have hb2 : (rgA l j).to < (rgA l (j + 1)).fr := by
      rcases Bool.or_eq_true_iff.1 hb with q | q
      · have := of_decide_eq_true q
        omega
      · have := of_decide_eq_true q
        simpa using this
    by_cases q : i = j
    · subst q
      exact hb2
    · have h1 := ih i (by omega) (by omega)
      have h2 := (ok_rgn h (show j < l.length by omega)).2.1
      omega
theorem ok_pair {l : List Rgn} (h : reignsOk l = true) : l.Pairwise (fun r s => r.to < s.fr) ∧ ∀ r ∈ l, r.fr ≤ r.to := by
  constructor
  · rw [List.pairwise_iff_getElem]
    intro i j hi hj hij
    have := ok_sorted h j i hij hj
    rw [rgA_eq hi, rgA_eq hj] at this
    exact this
  · intro r hr
    obtain ⟨i, hi, e⟩ := List.getElem_of_mem hr
    have := (ok_rgn h hi).2.1
    rw [rgA_eq hi, e] at this
    exact this
theorem gap_from {T : Int} : ∀ (l : List Rgn) (n : Int), l.Pairwise (fun r s => r.to < s.fr) → (∀ r ∈ l, r.fr ≤ r.to) → ∀ p ∈ gapsFrom T l n, n ≤ p.1 ∧ p.1 ≤ p.2 ∧ ∀ r ∈ l, ¬ (r.fr ≤ p.1 ∧ p.1 ≤ r.to) ∧ ¬ (r.fr ≤ p.2 ∧ p.2 ≤ r.to)
  | [], n, _, _, p, hp => by
    unfold gapsFrom at hp
    split at hp
    · obtain rfl : p = (n, T) := by simpa using hp
      exact ⟨Int.le_refl _, by assumption, fun r hr => by simp at hr⟩
    · simp at hp
  | r :: l, n, hs, ho, p, hp => by
    have hr := ho r (List.mem_cons_self ..)
    have hs' := List.pairwise_cons.1 hs
    rw [gapsFrom, List.mem_append] at hp
    rcases hp with hp | hp
    · split at hp
      · rename_i hle
        obtain rfl : p = (n, min (r.fr - 1) T) := by simpa using hp
        refine ⟨Int.le_refl _, hle, fun q hq => ?_⟩
        have hb : min (r.fr - 1) T ≤ r.fr - 1 := by omega
        rcases List.mem_cons.1 hq with rfl | hq
        · dsimp only
          omega
        · have := hs'.1 q hq
          dsimp only
          omega
      · simp at hp
    · obtain ⟨h1, h2, h3⟩ := gap_from l _ hs'.2 (fun q hq => ho q (List.mem_cons_of_mem _ hq)) p hp
      refine ⟨by omega, h2, fun q hq => ?_⟩
      rcases List.mem_cons.1 hq with rfl | hq
      · omega
      · exact h3 q hq
theorem at_none {l : List Rgn} {n : Int} (h : ∀ r ∈ l, ¬ (r.fr ≤ n ∧ n ≤ r.to)) : atR l n = -1 := by
  rcases rf_cases (hasD n) l with ⟨e, _⟩ | ⟨k, hk, _, hp, _⟩
  · exact e
  · exfalso
    have := inB_iff.1 hp
    rw [rgA_eq hk] at this
    exact h _ (List.getElem_mem hk) ⟨by omega, by omega⟩
theorem gaps_fact {l : List Rgn} {F T : Int} {p : Int × Int} (hp : p ∈ gaps l F T) : p.1 ≤ p.2 ∧ atR l p.1 = -1 ∧ atR l p.2 = -1 := by
  unfold gaps at hp
  split at hp
  · rename_i h
    obtain ⟨h1, h2⟩ := ok_pair h
    obtain ⟨_, a, b⟩ := gap_from l F h1 h2 p hp
    exact ⟨a, at_none fun r hr => (b r hr).1, at_none fun r hr => (b r hr).2⟩
  · simp at hp
def run (x : Int) (m : Nat) : List Int := (List.range m).map fun (i : Nat) => x + (i : Int)
theorem run_len (x : Int) (m : Nat) : (run x m).length = m := by simp [run]
theorem run_at {x : Int} {m j : Nat} (h : j < m) : (run x m).getD j 0 = x + (j : Int) := by simp [run, List.getD, h]
theorem run_succ (x : Int) (m : Nat) : run x (m + 1) = run x m ++ [x + (m : Int)] := by simp [run, List.range_succ]
theorem rdTo_run (c s ru f t k : Int) (hk : 1 ≤ k) : ∀ j : Nat, ∃ (x : Int) (m : Nat), rdTo c s ru f t k j = run x m ∧ (∀ i : Nat, i < m → reignYear c s ru f t (x + (i : Int)) = k) ∧ (∀ i : Nat, i < j → reignYear c s ru f t (f + (i : Int)) = k → x ≤ f + (i : Int) ∧ f + (i : Int) < x + (m : Int)) ∧ (0 < m → f ≤ x ∧ x + (m : Int) ≤ f + (j : Int))
  | 0 => ⟨f, 0, rfl, fun i hi => by omega, fun i hi => by omega, fun h => by omega⟩
  | j + 1 => by
    obtain ⟨x, m, e, h1, h2, h3⟩ := rdTo_run c s ru f t k hk j
    rw [rdTo]
    by_cases q : reignYear c s ru f t (f + (j : Int)) = k
    · rw [if_pos q, e]
      by_cases hm : m = 0
      · subst hm
        refine ⟨f + (j : Int), 1, by simp [run], fun i hi => ?_, fun i hi hy => ?_, fun _ => ⟨by omega, by omega⟩⟩
        · obtain rfl : i = 0 := by omega
          simpa using q
        · by_cases hij : i = j
          · subst hij
            exact ⟨by omega, by omega⟩
          · have := h2 i (by omega) hy
            omega
      · obtain ⟨g1, g2⟩ := h3 (by omega)
        have hx : x + (m : Int) = f + (j : Int) := by
          apply Classical.byContradiction
          intro hne
          have ha := h1 (m - 1) (by omega)
          have hb := ry_between (by omega) ha q (n := x + (m : Int)) (by omega) (by omega)
          obtain ⟨i, hi⟩ := Int.eq_ofNat_of_zero_le (show 0 ≤ x + (m : Int) - f by omega)
          have e2 : f + (i : Int) = x + (m : Int) := by omega
          have := h2 i (by omega) (by rw [e2]; exact hb)
          omega
        refine ⟨x, m + 1, by rw [run_succ, hx], fun i hi => ?_, fun i hi hy => ?_, fun _ => ⟨g1, by omega⟩⟩
        · by_cases hij : i = m
          · subst hij
            rw [hx]
            exact q
          · exact h1 i (by omega)
        · by_cases hij : i = j
          · subst hij
            exact ⟨by omega, by omega⟩
          · have := h2 i (by omega) hy
            omega
    · rw [if_neg q, List.append_nil, e]
      refine ⟨x, m, rfl, h1, fun i hi hy => ?_, fun h => ?_⟩
      · by_cases hij : i = j
        · subst hij
          exact absurd hy q
        · exact h2 i (by omega) hy
      · have := h3 h
        omega
theorem rd_run (c s ru f t k : Int) : ∃ (x : Int) (m : Nat), reignDays c s ru f t k = run x m ∧ m ≤ 4000 := by
  have hl := rd_len c s ru f t k
  by_cases h : 1 ≤ k ∧ endsB f t = true ∧ t - f < 4000
  · obtain ⟨x, m, e, _⟩ := rdTo_run c s ru f t k h.1 (t - f + 1).toNat
    rw [rd_yes h] at hl ⊢
    refine ⟨x, m, e, ?_⟩
    rw [e, run_len] at hl
    exact hl
  · exact ⟨0, 0, by rw [rd_no h]; rfl, by omega⟩

/-- What a text of two words is read as. -/
noncomputable def rdPair (l : List Rgn) (a b : ByteArray) : Int × Int := if getRoman a = 0 ∨ namedR l b = -1 then (-1, 0) else (namedR l b, getRoman a)
noncomputable def readR (l : List Rgn) (s : ByteArray) : Int × Int := if (cut s 32).length = 2 then rdPair l ((cut s 32).getD 0 ⟨#[]⟩) ((cut s 32).getD 1 ⟨#[]⟩) else (-1, 0)
theorem noBlank_at {s : ByteArray} (h : (s.data.toList.all fun b => b != 32) = true) : ∀ j, j < s.size → bAt s j ≠ 32 := by
  intro j hj e
  have hj' : j < s.data.toList.length := hj
  have hm := List.all_eq_true.1 h _ (List.getElem_mem hj')
  unfold bAt at e
  rw [List.getD, List.getElem?_eq_getElem hj'] at e
  have e2 : s.data.toList[j].toNat = 32 := by
    have : ((s.data.toList[j].toNat : Nat) : Int) = 32 := e
    omega
  have e3 : s.data.toList[j] = 32 := UInt8.toNat_inj.1 e2
  rw [e3] at hm
  simp at hm
theorem named_blank {l : List Rgn} {b : ByteArray} (h : ∀ k, k < l.length → okN (rgA l k).name) {j : Nat} (hj : j < b.size) (hb : bAt b j = 32) : namedR l b = -1 := by
  rcases rf_cases (isNamed b) l with ⟨e, _⟩ | ⟨k, hk, _, hp, _⟩
  · exact e
  · exfalso
    have e : (rgA l k).name = b := of_decide_eq_true hp
    have := h k hk
    rw [e] at this
    exact noBlank_at this.2 j hj hb
/-- The ways of a text: no blank, one blank, more than one. -/
theorem read_ways {l : List Rgn} (s : ByteArray) (h : ∀ k, k < l.length → okN (rgA l k).name) :
    (Lib.indexByte s.data.toList 32 = -1 ∧ readR l s = (-1, 0)) ∨ ∃ p : Nat, p < s.size ∧ Lib.indexByte s.data.toList 32 = p ∧ readR l s = rdPair l (s.extract 0 p) (s.extract (p + 1) s.size) := by
  rcases cut_first s 32 with ⟨p, hp, hix, hat, hno⟩ | ⟨hix, hno⟩
  · refine .inr ⟨p, hp, hix, ?_⟩
    have hat' : bAt s p = 32 := hat
    have hno' : ∀ j, j < p → bAt s j ≠ 32 := hno
    by_cases q : ∀ j, p < j → j < s.size → bAt s j ≠ 32
    · unfold readR
      rw [cut_two s 32 p hp hat' hno' q]
      rfl
    · have ⟨j, hj⟩ : ∃ j, p < j ∧ j < s.size ∧ bAt s j = 32 := by
        apply Classical.byContradiction
        intro hx
        exact q fun j h1 h2 e => hx ⟨j, h1, h2, e⟩
      have hm := cut_more s 32 p j hj.1 hj.2.1 hat' hj.2.2
      have hnb : namedR l (s.extract (p + 1) s.size) = -1 := named_blank h (j := j - (p + 1)) (by rw [ByteArray.size_extract]; omega) (by rw [bAt_ext, show p + 1 + (j - (p + 1)) = j by omega]; exact hj.2.2)
      unfold readR rdPair
      rw [if_neg (by omega), if_pos (.inr hnb)]
  · refine .inl ⟨hix, ?_⟩
    unfold readR
    rw [cut_none s 32 hno]
    rfl
theorem roman_blank (k : Int) : ∀ j, j < (putRoman k).size → bAt (putRoman k) j ≠ 32 := by
  intro j hj e
  have hj' : j < (putRoman k).data.toList.length := hj
  have hm := List.all_eq_true.1 (roman_good k).1 _ (List.getElem_mem hj')
  unfold bAt at e
  rw [List.getD, List.getElem?_eq_getElem hj'] at e
  have e2 : ((putRoman k).data.toList[j].toNat : Int) = 32 := e
  unfold goodB at hm
  rw [e2] at hm
  exact absurd hm (by decide)
theorem bAt_app (a b : ByteArray) (j : Nat) : bAt (a ++ b) j = if j < a.size then bAt a j else bAt b (j - a.size) := by
  unfold bAt
  rw [ByteArray.data_append, Array.toList_append]
  split
  · rename_i h
    rw [List.getD, List.getElem?_append_left (by simpa using h)]
    rfl
  · rename_i h
    rw [List.getD, List.getElem?_append_right (by simpa using Nat.le_of_not_lt h)]
    rfl
set_option maxHeartbeats 2000000 in
/-- A text of a reign is read back. -/
theorem text_back {c s ru : Int} {l : List Rgn} {n : Int} (hn : ∀ k, k < l.length → okN (rgA l k).name) (h : reignText c s ru l n ≠ ⟨#[]⟩) : ∃ k : Nat, k < l.length ∧ atR l n = (k : Int) ∧ readR l (reignText c s ru l n) = ((k : Int), reignYear c s ru (rgA l k).fr (rgA l k).to n) := by
  by_cases q : atR l n = -1 ∨ reignsOk l = false ∨ yearAt c s ru l n = 0
  · exact absurd (rt_no q) h
  rcases rf_cases (hasD n) l with ⟨e, _⟩ | ⟨k, hk, e, _⟩
  · exact absurd (.inl e) q
  have ea : atR l n = (k : Int) := e
  have et : (atR l n).toNat = k := by omega
  have ho : reignsOk l = true := by
    cases ho : reignsOk l
    · exact absurd (.inr (.inl ho)) q
    · rfl
  have hy : reignYear c s ru (rgA l k).fr (rgA l k).to n ≠ 0 := by
    intro hy
    apply q
    refine .inr (.inr ?_)
    unfold yearAt
    rw [et]
    exact hy
  refine ⟨k, hk, ea, ?_⟩
  rw [rt_yes ea ho hy]
  have hb := ry_bound (c := c) (s := s) (ru := ru) (f := (rgA l k).fr) (t := (rgA l k).to) (n := n)
  have hnm := named_own ho hk
  have hbl := noBlank_at (hn k hk).2
  generalize reignYear c s ru (rgA l k).fr (rgA l k).to n = y at *
  generalize (rgA l k).name = nm at *
  have hrb := roman_blank y
  have hrk := roman_back y (by omega) (by omega)
  generalize putRoman y = r at *
  have hs1 : (⟨#[32]⟩ : ByteArray).size = 1 := rfl
  have hsz : (r ++ ⟨#[32]⟩ ++ nm).size = r.size + 1 + nm.size := by rw [ByteArray.size_append, ByteArray.size_append, hs1]
  have at1 : ∀ j, j < r.size → bAt (r ++ ⟨#[32]⟩ ++ nm) j = bAt r j := fun j hj => by
    rw [bAt_app, if_pos (by rw [ByteArray.size_append]; omega), bAt_app, if_pos hj]
  have at2 : bAt (r ++ ⟨#[32]⟩ ++ nm) r.size = 32 := by
    rw [bAt_app, if_pos (by rw [ByteArray.size_append, hs1]; omega), bAt_app, if_neg (by omega), Nat.sub_self]
    rfl
  have at3 : ∀ j, r.size < j → j < r.size + 1 + nm.size → bAt (r ++ ⟨#[32]⟩ ++ nm) j = bAt nm (j - (r.size + 1)) := fun j h1 h2 => by
    rw [bAt_app, if_neg (by rw [ByteArray.size_append, hs1]; omega), ByteArray.size_append, hs1]
  have hcut := cut_two (r ++ ⟨#[32]⟩ ++ nm) 32 r.size (by omega) at2 (fun j hj => by rw [at1 j hj]; exact hrb j hj) (fun j h1 h2 => by rw [hsz] at h2; rw [at3 j h1 h2]; exact hbl _ (by omega))
  have x1 : (r ++ ⟨#[32]⟩ ++ nm).extract 0 r.size = r := by
    rw [ByteArray.append_assoc]
    exact ByteArray.extract_append_eq_left rfl
  have x2 : (r ++ ⟨#[32]⟩ ++ nm).extract (r.size + 1) (r ++ ⟨#[32]⟩ ++ nm).size = nm := by
    exact ByteArray.extract_append_eq_right (by rw [ByteArray.size_append, hs1]) (by rw [ByteArray.size_append])
  rw [x1, x2] at hcut
  unfold readR
  rw [hcut]
  show rdPair l r nm = _
  unfold rdPair
  rw [hnm, hrk, if_neg (by omega)]
end Go.Proofs.YtcdcniniafejbaaGreatDoor.ctr

namespace Go.Proofs.YtcdcniniafejbaaGreatDoor.ctr
open Go.RowKit

theorem pair_no {l : List Rgn} {a b : ByteArray} (h : getRoman a = 0 ∨ namedR l b = -1) : rdPair l a b = (-1, 0) := by unfold rdPair; rw [if_pos h]
theorem pair_yes {l : List Rgn} {a b : ByteArray} (h1 : getRoman a ≠ 0) (h2 : namedR l b ≠ -1) : rdPair l a b = (namedR l b, getRoman a) := by
  unfold rdPair
  rw [if_neg]
  rintro (h | h)
  · exact h1 h
  · exact h2 h
theorem named_ge (l : List Rgn) (b : ByteArray) : namedR l b = -1 ∨ 0 ≤ namedR l b := by
  rcases rf_cases (isNamed b) l with ⟨e, _⟩ | ⟨k, _, e, _⟩
  · exact .inl e
  · exact .inr (by have : namedR l b = (k : Int) := e; omega)
set_option maxRecDepth 100000 in
set_option maxHeartbeats 2000000 in
theorem implReadReign (v : Value) (l : List Rgn) (s : ByteArray) (w : World) (h : RRow w v l) (hn : ∀ k, k < l.length → okN (rgA l k).name) (hs : s.size ≤ 1048576) (hP : Shp w) :
    Calls Tryz.prog 15 #[v, .string s] w fun e w' => e = .returned (.tuple #[.int .i64 (readR l s).1, .int .i64 (readR l s).2]) ∧ Below w.heap.size w w' := by
  have HR := hideP h
  have HP := hideP hP
  clear h hP
  rcases read_ways s hn with ⟨hix, e⟩ | ⟨p, hp, hix, e⟩
  · rw [e]
    have KC : Calls Tryz.prog 47 #[.string s, .string ⟨#[32]⟩] w fun e w' => e = .returned (.tuple #[.string s, .string ⟨#[]⟩, .bool false]) ∧ Below w.heap.size w w' := cutFace s s ⟨#[]⟩ 32 false w (cutMiss s 32 w hix)
    clear hix e hn
    go_enter Tryz.func15, Tryz.ntmps15
    go_wp2_with fail
    refine KC.mono ?_
    rintro e w1 ⟨rfl, hb⟩
    have B1 := hideP hb
    clear hb KC
    go_wp2_with fail
    refine (implGetRoman s w1 hs (Shp.later HP.out B1.out)).mono ?_
    rintro e w2 ⟨rfl, hb⟩
    have B2 := hideP (B1.out.trans (hb.mono B1.out.size))
    clear hb
    go_wp2_with fail
    refine (implNamed v l _ w2 (HR.out.below B2.out)).mono ?_
    rintro e w3 ⟨rfl, hb⟩
    have B3 := hideP (B2.out.trans (hb.mono B2.out.size))
    clear hb
    go_wp2
    go_returns
    exact ⟨rfl, B3.out⟩
  · rw [e]
    have KC : Calls Tryz.prog 47 #[.string s, .string ⟨#[32]⟩] w fun e w' => e = .returned (.tuple #[.string (s.extract 0 p), .string (s.extract (p + 1) s.size), .bool true]) ∧ Below w.heap.size w w' := cutFace s _ _ 32 true w (cutHit s 32 p w hs hp hix)
    have hz0 : (s.extract 0 p).size ≤ 1048576 := by rw [ByteArray.size_extract]; omega
    clear hix e hn hp
    generalize s.extract 0 p = x at *
    generalize s.extract (p + 1) s.size = y at *
    obtain ⟨R, hR⟩ : ∃ R, rdPair l x y = R := ⟨_, rfl⟩
    rw [hR]
    have HQ := hideP hR
    clear hR
    go_enter Tryz.func15, Tryz.ntmps15
    go_wp2_with fail
    refine KC.mono ?_
    rintro e w1 ⟨rfl, hb⟩
    have B1 := hideP hb
    clear hb KC
    go_wp2_with fail
    refine (implGetRoman x w1 hz0 (Shp.later HP.out B1.out)).mono ?_
    rintro e w2 ⟨rfl, hb⟩
    have B2 := hideP (B1.out.trans (hb.mono B1.out.size))
    clear hb
    go_wp2_with fail
    refine (implNamed v l y w2 (HR.out.below B2.out)).mono ?_
    rintro e w3 ⟨rfl, hb⟩
    have B3 := hideP (B2.out.trans (hb.mono B2.out.size))
    clear hb
    by_cases c1 : getRoman x = 0
    · have HE := hideP (HQ.out.symm.trans (pair_no (.inl c1)))
      rw [c1]
      clear HQ
      go_wp2
      go_returns
      exact ⟨by rw [HE.out]; rfl, B3.out⟩
    · rcases named_ge l y with c2 | c2
      · have HE := hideP (HQ.out.symm.trans (pair_no (.inr c2)))
        rw [c2]
        clear HQ
        go_wp2
        go_returns
        exact ⟨by rw [HE.out]; rfl, B3.out⟩
      · have HE := hideP (HQ.out.symm.trans (pair_yes c1 (by omega)))
        clear HQ
        generalize getRoman x = k at *
        generalize namedR l y = i at *
        have hi : decide (i < 0) = false := decide_eq_false (by omega)
        have hkz : (k == 0) = false := by simp [c1]
        go_wp2
        go_returns
        exact ⟨by rw [HE.out]; rfl, B3.out⟩
theorem own_cell {w W : World} {v : Value} {xs : List ByteArray} (h : W.ownsRow w.heap.size 9 1 v xs.length (xs.map Value.string)) (h0 : 0 < xs.length) : ∃ g cap, v = .slice (some ⟨g, 0, none⟩) xs.length cap ∧ xs.length ≤ cap ∧ g < W.heap.size ∧ ∀ j, j < xs.length → W.cell? ⟨g, j, none⟩ = some (.string (xs.getD j ⟨#[]⟩)) := by
  rcases h.2 with ⟨_, e⟩ | ⟨g, cap, cur, hv, hb, hh, hcap, hm, hsz, htake⟩
  · omega
  · refine ⟨g, cap, hv, hcap, (Array.getElem?_eq_some_iff.1 hh).1, fun j hj => ?_⟩
    have e1 : (cur.toList.take (xs.length * 1))[j]? = (xs.map Value.string)[j]? := by rw [htake]
    rw [List.getElem?_take, if_pos (by omega), List.getElem?_map, List.getElem?_eq_getElem hj] at e1
    have e2 : cur[j]? = some (.string xs[j]) := by simpa using e1
    have hb2 : Blk W g cur 9 := hh
    have := hb2.cell j e2
    rw [List.getD, List.getElem?_eq_getElem hj]
    exact this
set_option maxRecDepth 100000 in
set_option maxHeartbeats 2000000 in
theorem specReadReign (v : Value) (l : List Rgn) (s : ByteArray) (w : World) (h : RRow w v l) (hs : s.size ≤ 1048576) :
    Calls Tryz.prog 16 #[v, .string s] w fun e w' => e = .returned (.tuple #[.int .i64 (readR l s).1, .int .i64 (readR l s).2]) ∧ Below w.heap.size w w' := by
  have hlong := cut_long s 32
  by_cases h2 : (cut s 32).length = 2
  · have e : readR l s = rdPair l ((cut s 32).getD 0 ⟨#[]⟩) ((cut s 32).getD 1 ⟨#[]⟩) := by unfold readR; rw [if_pos h2]
    rw [e]
    have hx := cut_short s 32 0
    have KW := specWords s w hs
    clear e hlong
    generalize cut s 32 = xs at *
    obtain ⟨R, hR⟩ : ∃ R, rdPair l (xs.getD 0 ⟨#[]⟩) (xs.getD 1 ⟨#[]⟩) = R := ⟨_, rfl⟩
    rw [hR]
    have HQ := hideP hR
    clear hR
    obtain ⟨a, c, rfl, hl, hm, hnm, H⟩ := h
    have K := hideP H
    unfold maxLen at hm
    clear H hnm
    go_enter Tryz.func16, Tryz.ntmps16
    go_wp2_with fail
    refine KW.mono ?_
    rintro e w1 ⟨o, rfl, hrow, hb⟩
    have B1 := hideP hb
    obtain ⟨g, cp, rfl, hcp, hg, hc⟩ := own_cell hrow (by omega)
    have d0 := hc 0 (by omega)
    have d1 := hc 1 (by omega)
    rw [h2]
    rw [h2] at hcp
    clear hrow hb KW hc
    generalize xs.getD 0 ⟨#[]⟩ = x at *
    generalize xs.getD 1 ⟨#[]⟩ = y at *
    have KG : ∀ W, Calls Tryz.prog 51 #[.string x] W fun e w' => e = .returned (.int .i64 (getRoman x)) ∧ w' = W := fun W => specGetRoman x W (by omega)
    by_cases c1 : getRoman x = 0
    · have HE := hideP (HQ.out.symm.trans (pair_no (.inl c1)))
      rw [c1] at KG
      clear HQ
      go_wp2_with fail
      refine (KG _).mono ?_
      rintro e w2 ⟨rfl, hw2⟩
      rw [hw2]
      clear hw2 w2
      go_wp2
      go_returns
      exact ⟨by rw [HE.out]; rfl, B1.out⟩
    have hkz : (getRoman x == 0) = false := by simp [c1]
    have HF : Hid (∀ k : Nat, k = 0 → rfFrom (isNamed y) (l.drop k) k = namedR l y) := fun k e => by subst e; rfl
    have HY : Hid (∀ k : Nat, namedR l y = (k : Int) → R = ((k : Int), getRoman x)) := fun k e => by rw [← HQ.out, pair_yes c1 (by omega), e]
    have HN : Hid (namedR l y = -1 → R = (-1, 0)) := fun e => HQ.out.symm.trans (pair_no (.inr e))
    clear HQ
    generalize namedR l y = nr at *
    generalize getRoman x = kk at *
    go_wp2_with fail
    refine (KG _).mono ?_
    rintro e w2 ⟨rfl, hw2⟩
    rw [hw2]
    clear hw2 w2
    go_wp2
    go_loopw [7] (fun i wr => ∃ k : Nat, k ≤ l.length ∧ i = .int .i64 (k : Int) ∧ Hid (rfFrom (isNamed y) (l.drop k) k = nr) ∧ ∃ m, wr = w1.drewN m) (fun i _ => l.length - (intOf i).toNat)
    case atStart => exact ⟨0, Nat.zero_le _, rfl, HF.out 0 rfl, 0, rfl⟩
    case round =>
      obtain ⟨k, hk, rfl, HK, m, rfl⟩ := hrel
      by_cases hlt : k < l.length
      · obtain ⟨gl, rfl, hgl, hat⟩ := K.out k hlt
        obtain ⟨a0, _, _⟩ := hat.below B1.out hgl
        have K1 := hideP (fun h => rf_hit (p := isNamed y) hlt h HK.out)
        have K2 := hideP (fun h => rf_miss (p := isNamed y) hlt h HK.out)
        have hki : (k : Int) < (l.length : Int) := by omega
        clear HK hat
        generalize rgA l k = r at *
        cases hq : (r.name.toList == y.toList)
        · have HK2 := hideP (K2.out (decide_eq_false (str_ne hq)))
          go_wp2
          go_quiet (fail)
          go_wp2
          exact ⟨⟨k + 1, by omega, by go_num, HK2.out, _, rfl⟩, by simp [intOf]; omega⟩
        · have HE := hideP (HY.out k (K1.out (decide_eq_true (str_eq hq))))
          clear HN HY HF K1 K2
          go_wp2
          go_quiet (fail)
          go_wp2_with fail
          refine (KG _).mono ?_
          rintro e w2 ⟨rfl, hw2⟩
          rw [hw2]
          clear hw2 w2
          go_wp2
          go_returns
          exact ⟨by rw [HE.out]; rfl, by first | exact Below_drewN B1.out _ | exact Below_drewN (Below_drewN B1.out _) _⟩
      · have hRR := HN.out (rf_end (by omega) HK.out)
        have HE := hideP hRR
        clear hRR
        have hki : ¬ (k : Int) < (l.length : Int) := by omega
        go_wp2
        go_returns
        exact ⟨by rw [HE.out]; rfl, Below_drewN B1.out m⟩
  · have e : readR l s = (-1, 0) := by unfold readR; rw [if_neg h2]
    rw [e]
    have KW := specWords s w hs
    clear e
    generalize cut s 32 = xs at *
    have hx2 : ¬ (xs.length : Int) = 2 := by omega
    have hxs : (xs.length : Int) ≤ 1048577 := by omega
    go_enter Tryz.func16, Tryz.ntmps16
    go_wp2_with fail
    refine KW.mono ?_
    rintro e w1 ⟨o, rfl, hrow, hb⟩
    have B1 := hideP hb
    obtain ⟨ad, cp, rfl⟩ : ∃ ad cp, o = .slice ad xs.length cp := by
      rcases hrow.2 with ⟨rfl, h0⟩ | ⟨g, cap, cur, rfl, _⟩
      · exact ⟨none, 0, by rw [h0]⟩
      · exact ⟨_, _, rfl⟩
    clear hrow hb KW
    go_wp2
    go_returns
    exact ⟨rfl, B1.out⟩
end Go.Proofs.YtcdcniniafejbaaGreatDoor.ctr

namespace Go.Proofs.YtcdcniniafejbaaGreatDoor.ctr
open Go.RowKit

theorem info_pair : (Tryz.prog.info? 52).map (fun i => (i.zero, i.size, i.bytes)) = some (some (.agg #[.int .i64 0, .int .i64 0]), 2, 16) := by kernel_rfl
/-- The state of a loop that puts pairs together: they lie in a row of their own. -/
structure PSt2 (w : World) (o : Value) (xs : List (Int × Int)) (W : World) : Prop where
  row : W.ownsRow w.heap.size 52 2 o xs.length ((flat xs).map (Value.int .i64))
  below : Below w.heap.size w W
theorem PSt2.later {w : World} {o : Value} {xs : List (Int × Int)} {W W' : World} (h : PSt2 w o xs W) (hb : Below W.heap.size W W') : PSt2 w o xs W' := ⟨iown_later h.row hb, h.below.trans (hb.mono h.below.size)⟩
theorem PSt2.app {w : World} {o o' : Value} {xs : List (Int × Int)} {W W' : World} {ob : Obj} (h : PSt2 w o xs W) (p q : Int) (hr : W'.ownsRow w.heap.size 52 2 o' (xs.length + 1) ((flat xs).map (Value.int .i64) ++ [.int .i64 p, .int .i64 q])) (hg : (W.alloc ob).grownBy W' o.ownBlock) : PSt2 w o' (xs ++ [(p, q)]) W' := by
  refine ⟨?_, (h.below.alloc h.below.size ob).grown hg (by have := h.below.size; rw [inew]; omega) (ibase h.row)⟩
  rw [List.length_append, flat_app, List.map_append]
  exact hr
theorem PSt2.done {w w0 W : World} {o : Value} {xs : List (Int × Int)} (h : PSt2 w o xs W) (hb : Below w0.heap.size w0 w) : PMov w0 W o xs ∧ Below w0.heap.size w0 W := by
  refine ⟨own_pairs (e := 52) ?_, hb.trans (h.below.mono hb.size)⟩
  obtain ⟨h1, h | ⟨g, cap, cur, hv, hg, hr⟩⟩ := h.row
  · exact ⟨h1, .inl h⟩
  · exact ⟨h1, .inr ⟨g, cap, cur, hv, Nat.le_trans hb.size hg, hr⟩⟩
theorem pown_empty (w : World) : (w.alloc (.cells #[] 52)).ownsRow w.heap.size 52 2 (.slice (some ⟨w.heap.size, 0, none⟩) 0 0) 0 [] :=
  ⟨rfl, .inr ⟨w.heap.size, 0, #[], rfl, Nat.le_refl _, by simp [World.alloc, -World.alloc_eq], Nat.le_refl _, Nat.zero_le _, rfl, rfl⟩⟩
theorem cells_two (W : World) (a b : Value) (t : TypeId) {n : Nat} (hn : n = W.heap.size) : ∀ (j : Nat) (u : Value), [a, b][j]? = some u → (W.alloc (.cells #[a, b] t)).cell? ((⟨n, 0, none⟩ : Addr).add j) = some u := by
  intro j u h
  subst hn
  have ha : (⟨W.heap.size, 0, none⟩ : Addr).add j = ⟨W.heap.size, j, none⟩ := by unfold Addr.add; split <;> simp_all
  rw [ha]
  match j, h with
  | 0, h => simpa [World.alloc, World.cell?, -World.alloc_eq] using h
  | 1, h => simpa [World.alloc, World.cell?, -World.alloc_eq] using h
  | j + 2, h => simp at h

set_option maxRecDepth 100000 in
set_option maxHeartbeats 4000000 in
theorem specGaps (v : Value) (l : List Rgn) (F T : Int) (w : World) (h : RRow w v l) : Calls Tryz.prog 19 #[v, .int .i64 F, .int .i64 T] w fun e w' => ∃ o, e = .returned o ∧ PMov w w' o (gaps l F T) ∧ Below w.heap.size w w' := by
  obtain ⟨i0, hi, hz0, hz1, hz2⟩ := info_parts info_pair
  have HH := hideP h
  obtain ⟨a, c, rfl, hl, hm, hn, H⟩ := h
  have K := hideP H
  unfold maxLen at hm
  have S0 : Hid (PSt2 w (.slice (some ⟨w.heap.size, 0, none⟩) 0 0) [] (w.alloc (.cells #[] 52))) := ⟨pown_empty w, (Below.refl _ _).alloc (Nat.le_refl _) _⟩
  have KO : Calls Tryz.prog 22 #[.slice a l.length c] (w.alloc (.cells #[] 52)) fun e w' => e = .returned (.bool (reignsOk l)) ∧ Below (w.alloc (.cells #[] 52)).heap.size (w.alloc (.cells #[] 52)) w' := specReignsOk _ l _ (HH.out.below S0.out.below)
  clear H hn
  cases ho : reignsOk l
  · have HR : Hid (gaps l F T = []) := by unfold Hid gaps; rw [ho]; rfl
    rw [HR.out]
    rw [ho] at KO
    clear ho
    go_enter Tryz.func19, Tryz.ntmps19
    go_wp2_with fail
    refine KO.mono ?_
    rintro e w1 ⟨rfl, hb⟩
    have S1 := hideP (S0.out.later hb)
    clear hb
    go_wp2
    go_ret
    exact ⟨_, rfl, S1.out.done (Below.refl _ _)⟩
  have HR : Hid (gaps l F T = gapsFrom T l F) := by unfold Hid gaps; rw [ho]; rfl
  have HOK := hideP ho
  have hl30 := ok_len ho
  rw [HR.out]
  rw [ho] at KO
  clear ho
  go_enter Tryz.func19, Tryz.ntmps19
  go_wp2_with fail
  refine KO.mono ?_
  rintro e w1 ⟨rfl, hb⟩
  have S1 := hideP (S0.out.later hb)
  clear hb KO S0
  go_wp2
  go_loopw [7, 8, 9] (fun o n i wr => ∃ (k : Nat) (m : Int) (xs : List (Int × Int)), k ≤ l.length ∧ i = .int .i64 (k : Int) ∧ n = .int .i64 m ∧ xs.length ≤ k ∧ Hid (xs ++ gapsFrom T (l.drop k) m = gapsFrom T l F) ∧ PSt2 w o xs wr) (fun _ _ i _ => l.length - (intOf i).toNat)
  case atStart => exact ⟨0, F, [], Nat.zero_le _, rfl, rfl, Nat.le_refl _, rfl, S1.out⟩
  case round =>
    obtain ⟨k, m, xs, hk, rfl, rfl, hx, HF, hS⟩ := hrel
    have S := hideP hS
    clear hS S1
    by_cases hlt : k < l.length
    · obtain ⟨g, rfl, hg, x⟩ := K.out k hlt
      obtain ⟨a0, a1, a2⟩ := x.below S.out.below hg
      obtain ⟨_, hft, hbf, hbt, _, _⟩ := ok_rgn HOK.out hlt
      have b1 := both_bound hbf
      have b2 := both_bound hbt
      have HD := hideP (drop_rg hlt)
      have HF2 := HF.out
      rw [HD.out] at HF2
      have J1 := hideP (fun (h : (rgA l k).to < m) => (show xs ++ gapsFrom T (l.drop (k + 1)) m = gapsFrom T l F by rw [← HF2, gap_skip hft h]))
      have J2 := hideP (fun (h : T < (rgA l k).fr) => (show xs ++ (if m ≤ T then [(m, T)] else []) = gapsFrom T l F by rw [← HF2, gap_last hft h]))
      have J3 := hideP (fun (h1 : ¬ (rgA l k).to < m) (h2 : ¬ T < (rgA l k).fr) (h3 : m < (rgA l k).fr) => (show (xs ++ [(m, (rgA l k).fr - 1)]) ++ gapsFrom T (l.drop (k + 1)) ((rgA l k).to + 1) = gapsFrom T l F by rw [← HF2, gap_hit h1 h2 h3, List.append_assoc]; rfl))
      have J4 := hideP (fun (h1 : ¬ (rgA l k).to < m) (h2 : ¬ T < (rgA l k).fr) (h3 : ¬ m < (rgA l k).fr) => (show xs ++ gapsFrom T (l.drop (k + 1)) ((rgA l k).to + 1) = gapsFrom T l F by rw [← HF2, gap_miss h1 h2 h3]))
      have K3 : Hid (∀ W, Below w.heap.size w W → W.cell? ⟨g, k * 3 + 2, none⟩ = some (.int .i64 (rgA l k).to)) := fun W hb => (x.below hb hg).2.2
      clear x HF2 HD HF hbf hbt
      generalize rgA l k = r at *
      obtain ⟨nm, f, t⟩ := r
      dsimp only at a0 a1 a2 b1 b2 hft J1 J2 J3 J4 K3
      by_cases c1 : t < m
      · have HN := hideP (J1.out c1)
        go_wp2
        exact ⟨⟨k + 1, m, xs, by omega, by go_num, rfl, by omega, HN.out, S.out⟩, by simp [intOf]; omega⟩
      · have d1 : decide (t < m) = false := decide_eq_false c1
        by_cases c2 : T < f
        · have d2 : decide (T < f) = true := decide_eq_true c2
          have HN := hideP (J2.out c2)
          by_cases c3 : m ≤ T
          · have d3 : decide (m ≤ T) = true := decide_eq_true c3
            rw [if_pos c3] at HN
            go_wp2_with (at_builtin; refine wpList_append_own _ rfl _ _ 44 rfl w.heap.size 52 i0 (.agg #[.int .i64 0, .int .i64 0]) 2 16 Tryz.underlying44 hi hz0 hz1 hz2 rfl (by decide) _ _ _ rfl (S.out.row.alloc _) ⟨wr.heap.size, 0, none⟩ 1 1 [.int .i64 m, .int .i64 T] rfl rfl (cells_two _ _ _ _ rfl) (by simp [Value.oneCell']) (by unfold maxLen; omega) (by omega) (by have := S.out.below.size; rw [inew]; omega) ?_; intro v' w9 hown' hgrow _)
            go_ret
            have S9 := S.out.app m T hown' hgrow
            rw [HN.out] at S9
            exact ⟨_, rfl, S9.done (Below.refl _ _)⟩
          · have d3 : decide (m ≤ T) = false := decide_eq_false c3
            rw [if_neg c3, List.append_nil] at HN
            go_wp2
            go_ret
            have S9 := S.out
            rw [HN.out] at S9
            exact ⟨_, rfl, S9.done (Below.refl _ _)⟩
        · have d2 : decide (T < f) = false := decide_eq_false c2
          by_cases c3 : m < f
          · have d3 : decide (m < f) = true := decide_eq_true c3
            have HN := hideP (J3.out c1 c2 c3)
            go_wp2_with (at_builtin; refine wpList_append_own _ rfl _ _ 44 rfl w.heap.size 52 i0 (.agg #[.int .i64 0, .int .i64 0]) 2 16 Tryz.underlying44 hi hz0 hz1 hz2 rfl (by decide) _ _ _ rfl (S.out.row.alloc _) ⟨wr.heap.size, 0, none⟩ 1 1 [.int .i64 m, .int .i64 (f - 1)] rfl rfl (cells_two _ _ _ _ rfl) (by simp [Value.oneCell']) (by unfold maxLen; omega) (by omega) (by have := S.out.below.size; rw [inew]; omega) ?_; intro v' w9 hown' hgrow _; have S9 := hideP (S.out.app m (f - 1) hown' hgrow); have q2 := K3.out w9 S9.out.below; clear hown' hgrow)
            exact ⟨⟨k + 1, t + 1, xs ++ [(m, f - 1)], by omega, by go_num, rfl, by simp; omega, HN.out, S9.out⟩, by simp [intOf]; omega⟩
          · have d3 : decide (m < f) = false := decide_eq_false c3
            have HN := hideP (J4.out c1 c2 c3)
            go_wp2
            exact ⟨⟨k + 1, t + 1, xs, by omega, by go_num, rfl, by omega, HN.out, S.out⟩, by simp [intOf]; omega⟩
    · have hdn : l.drop k = [] := List.drop_of_length_le (by omega)
      have HF2 := HF.out
      rw [hdn, gapsFrom] at HF2
      have HF3 := hideP HF2
      clear HF2 hdn
      by_cases c3 : m ≤ T
      · have d3 : decide (m ≤ T) = true := decide_eq_true c3
        rw [if_pos c3] at HF3
        go_wp2_with (at_builtin; refine wpList_append_own _ rfl _ _ 44 rfl w.heap.size 52 i0 (.agg #[.int .i64 0, .int .i64 0]) 2 16 Tryz.underlying44 hi hz0 hz1 hz2 rfl (by decide) _ _ _ rfl (S.out.row.alloc _) ⟨wr.heap.size, 0, none⟩ 1 1 [.int .i64 m, .int .i64 T] rfl rfl (cells_two _ _ _ _ rfl) (by simp [Value.oneCell']) (by unfold maxLen; omega) (by omega) (by have := S.out.below.size; rw [inew]; omega) ?_; intro v' w9 hown' hgrow _)
        go_ret
        have S9 := S.out.app m T hown' hgrow
        rw [HF3.out] at S9
        exact ⟨_, rfl, S9.done (Below.refl _ _)⟩
      · have d3 : decide (m ≤ T) = false := decide_eq_false c3
        rw [if_neg c3, List.append_nil] at HF3
        go_wp2
        go_ret
        have S9 := S.out
        rw [HF3.out] at S9
        exact ⟨_, rfl, S9.done (Below.refl _ _)⟩
end Go.Proofs.YtcdcniniafejbaaGreatDoor.ctr

namespace Go.Proofs.YtcdcniniafejbaaGreatDoor.ctr
open Go.RowKit Go.Shelf

attribute [local go_sem] Oper.semAt_some

theorem own_monoG {w : World} {b b' e size : Nat} {v : Value} {n : Nat} {xs : List Value} (h : w.ownsRow b e size v n xs) (hb : b' ≤ b) : w.ownsRow b' e size v n xs := by
  obtain ⟨h1, h | ⟨g, cap, cur, hv, hg, hr⟩⟩ := h
  · exact ⟨h1, .inl h⟩
  · exact ⟨h1, .inr ⟨g, cap, cur, hv, Nat.le_trans hb hg, hr⟩⟩
theorem own_typeG {w : World} {b e size : Nat} {v : Value} {n : Nat} {xs : List Value} (h : w.ownsRow b e size v n xs) : ∀ j, v.ownBlock = some j → b ≤ j ∧ ∃ cur, w.heap[j]? = some (.cells cur e) := by
  intro j hj
  rcases h.2 with ⟨rfl, _⟩ | ⟨g, cap, cur, rfl, hb, hh, _⟩
  · cases hj
  · cases hj
    exact ⟨hb, cur, hh⟩
theorem appendedR {W w2 : World} {n0 R : Nat} {v v' : Value} {k m : Nat} {xs ys : List Value} {tmp : Obj}
    (hv : Boxed W R 44 v) (hrow : W.ownsRow (R + 4) 52 2 v k xs) (hsz : R + 4 ≤ W.heap.size) (hn0 : n0 ≤ R)
    (hown' : w2.ownsRow (R + 4) 52 2 v' m ys) (hgrow : (W.alloc tmp).grownBy w2 v.ownBlock) :
    Boxed w2 R 44 v ∧ Boxed (w2.setCell ⟨R, 0, none⟩ v') R 44 v' ∧ (w2.setCell ⟨R, 0, none⟩ v').ownsRow (R + 4) 52 2 v' m ys ∧ KeepsOthers W (w2.setCell ⟨R, 0, none⟩ v') ∧ Below n0 W (w2.setCell ⟨R, 0, none⟩ v') ∧ KpR R W (w2.setCell ⟨R, 0, none⟩ v') := by
  obtain ⟨hv1, hv2, _, hk2, hb2⟩ := hv.appended (n₀ := n0) (by decide) (own_monoG hrow (by omega)) (by omega) hn0 (own_monoG hown' (by omega)) hgrow
  have hk : ∀ j, j < W.heap.size → j ≠ R → v.ownBlock ≠ some j → (w2.setCell ⟨R, 0, none⟩ v').heap[j]? = W.heap[j]? := by
    intro j hj hjB hne
    rw [Below.heap_setCell w2 _ _ j hjB, hgrow.block j (by rw [World.size_alloc]; omega) (fun e => hne e.symm), Below.heap_alloc W tmp j hj]
  refine ⟨hv1, hv2, hown'.kept (grownBy_setCell' w2 R v') (.inr (hv1.not_row (by decide) hown').symm), hk2, hb2, hb2.size, fun b h1 h2 => hk b (by omega) h1 (fun e => ?_), fun b cs fr e => hk b (Array.getElem?_eq_some_iff.1 e).1 (fun q => ?_) (fun q => ?_)⟩
  · have := (own_typeG hrow b e).1
    omega
  · subst q
    have := (show W.heap[b]? = _ from hv).symm.trans e
    simp at this
  · obtain ⟨_, cur, hc⟩ := own_typeG hrow b q
    rw [hc] at e
    simp at e

set_option maxRecDepth 100000 in
set_option maxHeartbeats 4000000 in
theorem gapsI_in (n : Nat) (hn : 6 ≤ n) (v : Value) (l : List Rgn) (F T : Int) (q : Addr) (w : World) (h : RRow w v l) (hok : reignsOk l = true) (hT : Tab w) (hS : Sent w q) :
    CallsIn Fence.wide n Tryz.prog 18 #[v, .int .i64 F, .int .i64 T] w fun e W' => ∃ o, e = .returned o ∧ PMov w W' o (gapsFrom T l F) ∧ Below w.heap.size w W' := by
  have h1 : 1 ≤ n := by omega
  have hgl := gaps_len (T := T) l F
  have hl30 := ok_len hok
  obtain ⟨i0, hi, hz0, hz1, hz2⟩ := info_parts info_pair
  have KO := implReignsOk v l q w h hT hS
  rw [hok] at KO
  obtain ⟨ad, cap, rfl, hlc, hm, hnm, hrow0⟩ := h
  refine callsIn_of_wp_marks Tryz.func18 rfl trivial ?_ rfl
  simp only [Tryz.ntmps18, List.size_toArray, List.length_cons, List.length_nil, Nat.reduceAdd, Nat.reduceSub, Array.replicate_succ, Array.replicate_zero, List.push_toArray, List.append_toArray, List.nil_append, List.cons_append]
  gi_wp2_with fail
  refine ⟨trivial, ?_⟩
  refine (callsIn_wide.2 KO).mono ?_
  rintro e w1 ⟨rfl, hb1⟩
  gi_wp2_with fail
  refine ⟨trivial, ?_⟩
  refine (gapsOf_in _ _ F T _ ⟨_, _, _, rfl⟩).mono ?_
  rintro e w' ⟨rfl, rfl⟩
  gi_wp2_with fail
  have bO := Boxed.new w1 44 (.slice none 0 0)
  have bL := Boxed.new (w1.alloc (.cells #[.slice none 0 0] 44)) 24 (.slice ad l.length cap)
  have bF := Boxed.new ((w1.alloc (.cells #[.slice none 0 0] 44)).alloc (.cells #[.slice ad l.length cap] 24)) 3 (.int .i64 F)
  have bT := Boxed.new (((w1.alloc (.cells #[.slice none 0 0] 44)).alloc (.cells #[.slice ad l.length cap] 24)).alloc (.cells #[.int .i64 F] 3)) 3 (.int .i64 T)
  simp only [World.size_alloc] at bL bF bT
  obtain ⟨W0, hW0⟩ : ∃ W0, (((w1.alloc (.cells #[.slice none 0 0] 44)).alloc (.cells #[.slice ad l.length cap] 24)).alloc (.cells #[.int .i64 F] 3)).alloc (.cells #[.int .i64 T] 3) = W0 := ⟨_, rfl⟩
  have bO' := ((bO.alloc (.cells #[.slice ad l.length cap] 24)).alloc (.cells #[.int .i64 F] 3)).alloc (.cells #[.int .i64 T] 3)
  have bL' := (bL.alloc (.cells #[.int .i64 F] 3)).alloc (.cells #[.int .i64 T] 3)
  have bF' := bF.alloc (.cells #[.int .i64 T] 3)
  have hB0 : Below w1.heap.size w1 W0 := by
    rw [← hW0]
    exact ((((Below.refl _ w1).alloc (Nat.le_refl _) _).alloc (by simp only [World.size_alloc]; omega) _).alloc (by simp only [World.size_alloc]; omega) _).alloc (by simp only [World.size_alloc]; omega) _
  have hz : W0.heap.size = w1.heap.size + 4 := by rw [← hW0]; simp only [World.size_alloc]
  have hBw : Below w.heap.size w W0 := hb1.trans (hB0.mono hb1.size)
  have hs1 := hb1.size
  have HR : ∀ k, k < l.length → ∃ g, ad = some ⟨g, 0, none⟩ ∧ g < w1.heap.size ∧ RAt W0 g k (rgA l k) := fun k hk => by
    obtain ⟨g, e, hg, x⟩ := hrow0 k hk
    exact ⟨g, e, Nat.lt_of_lt_of_le hg hs1, x.below hBw hg⟩
  rw [hW0] at bO' bL' bF' bT ⊢
  generalize hRR : w1.heap.size = R at *
  clear bO bL bF hW0
  refine wpIn_rangeFunc_ownH rfl h1 (gf := 83) (lb := #[.pointer (some ⟨R + 2, 0, none⟩), .pointer (some ⟨R + 1, 0, none⟩), .pointer (some ⟨R + 3, 0, none⟩)]) rfl trivial (enters_of Tryz.func83 (by kernel_rfl) rfl)
    (gaps_stops (n - 1) (by omega) R ad cap l F T hok W0 (by omega) HR bF'.cell bL'.cell bT.cell) KpR.trans (keepR_b (by omega)) (Below.refl _ _) (fun _ => rfl)
    (fun pre W => (∃ o, Boxed W R 44 o ∧ W.ownsRow (R + 4) 52 2 o pre.length ((flat pre).map (Value.int .i64)) ∧ (o = .slice none 0 0 ↔ pre = [])) ∧ Below w.heap.size w W ∧ R + 4 ≤ W.heap.size)
    (fun _ _ _ => False)
    (OwnFrom.and (Own.from (holdsRow_own (R + 4) R 44 52 2 (fun pre : List (Int × Int) => pre.length) (fun pre => (flat pre).map (Value.int .i64)) (fun pre v => v = .slice none 0 0 ↔ pre = [])) _) (OwnFrom.and (ownFrom_below (Nat.le_refl _) (by omega)) (fun s' A B row hs' hg _ => Nat.le_trans hs' hg.size)))
    (fun _ _ _ _ _ hs _ _ => hs)
    ⟨⟨_, bO', World.ownsRow_nil _ _ _ _, by simp⟩, hBw, by omega⟩
    (fun x a' W => ∃ Bx, R + 4 ≤ Bx ∧ Blk W Bx #[.int .i64 x.1, .int .i64 x.2] 52 ∧ a' = { tmps := #[.slice ad l.length cap, .int .i64 F, .int .i64 T, undef, undef, undef, .slice none 0 0, .pointer (some ⟨R, 0, none⟩), .pointer (some ⟨Bx, 0, none⟩), .slice ad l.length cap, .bool true, .bool false, .slice ad l.length cap, .int .i64 F, .int .i64 T, .func (.func 83) #[] #[.pointer (some ⟨R + 2, 0, none⟩), .pointer (some ⟨R + 1, 0, none⟩), .pointer (some ⟨R + 3, 0, none⟩)], .agg #[.int .i64 x.1, .int .i64 x.2], undef, undef, undef, undef, undef], defers := [] })
    (fun x a' s A B row hs hg hr => by
      obtain ⟨Bx, h1, h2, h3⟩ := hs
      refine ⟨Bx, h1, (hg.block Bx h2.lt (fun e => ?_)).trans h2, h3⟩
      obtain ⟨_, o, ho, hc⟩ := hr Bx e.symm
      rw [show A.heap[Bx]? = _ from h2] at ho
      cases ho
      cases hc) ?assign ?body ?done ?stop
  case assign =>
    rintro lp pre x W K ⟨⟨o, ho, hrow, hnil⟩, hB, hsz⟩ hK
    gi_wp2
    exact hK _ _ ((KeepsOthers.alloc _ _).from _) ((KpR.refl R W).alloc hsz _) ⟨⟨o, ho.alloc _, hrow.alloc _, hnil⟩, hB.alloc hB.size _, by rw [World.size_alloc]; omega⟩ ⟨W.heap.size, hsz, Blk.new W _ _, rfl⟩
  case body =>
    rintro lp pre x a' W hl ⟨r, hr⟩ ⟨⟨o, ho, hrow, hnil⟩, hB, hsz⟩ ⟨Bx, hBx, bX, rfl⟩ hlt
    have hc := ho.cell
    have x0 := bX.cell 0 rfl
    have x1 := bX.cell 1 rfl
    gi_wp2_with (gi_at_builtin; refine wpListIn_append_own _ rfl _ _ 44 rfl (R + 4) 52 i0 (.agg #[.int .i64 0, .int .i64 0]) 2 16 Tryz.underlying44 hi hz0 hz1 hz2 rfl (by decide) _ _ _ rfl (hrow.alloc _) ⟨W.heap.size, 0, none⟩ 1 1 [.int .i64 x.1, .int .i64 x.2] rfl rfl (cells_two _ _ _ _ rfl) (by simp [Value.oneCell']) (by unfold maxLen; omega) (by omega) (by rw [World.size_alloc]; omega) ?_; intro v' w2 hown' hgrow _; obtain ⟨g', cap', rfl⟩ := ownsRow_succ hown'; obtain ⟨hv1, hv2, hr2, hk2, hb2, hk3⟩ := appendedR (n0 := w.heap.size) ho hrow hsz (by omega) hown' hgrow; have hc1 := hv1.cell; have hf1 := hv1.frozen)
    exact ⟨hk2.from _, hk3, ⟨_, hv2, by simpa [flat_app, flat] using hr2, by simp⟩, hB.trans hb2, Nat.le_trans hsz hb2.size⟩
  case done =>
    rintro D ys W hD rfl ⟨⟨o, ho, hrow, hnil⟩, hB, hsz⟩ hK
    have hc := ho.cell
    gi_wp2
    refine ⟨by simp, .inl ⟨_, _, rfl, run_takeDeferred hK, ?_⟩⟩
    exact ⟨_, results_tmp rfl _ _ _, o, rfl, own_pairs (own_monoG (ownsRow_putObj hrow _ hK rfl) (by omega)), hB.trans (belowK_b (w := w) (Nat.le_refl _) W D _ _ (by omega) hK rfl rfl)⟩
  case stop =>
    rintro D c pre W _ _ h _
    exact h.elim

set_option maxHeartbeats 1000000 in
theorem implGaps (v : Value) (l : List Rgn) (F T : Int) (q : Addr) (w : World) (h : RRow w v l) (hT : Tab w) (hS : Sent w q) :
    Calls Tryz.prog 18 #[v, .int .i64 F, .int .i64 T] w fun e W' => ∃ o, e = .returned o ∧ PMov w W' o (gaps l F T) ∧ Below w.heap.size w W' := by
  cases hok : reignsOk l
  · have KO := implReignsOk v l q w h hT hS
    rw [hok] at KO
    have HR : Hid (gaps l F T = []) := by unfold Hid gaps; rw [hok]; rfl
    rw [HR.out]
    obtain ⟨ad, cap, rfl, hlc, hm, hnm, hrow0⟩ := h
    clear hrow0 hnm hT hS hok
    go_enter Tryz.func18, Tryz.ntmps18
    go_wp2_with fail
    refine KO.mono ?_
    rintro e w1 ⟨rfl, hb⟩
    have HB := hideP hb
    clear hb
    go_wp2
    go_ret
    exact ⟨_, rfl, pmov_nil _ _, HB.out⟩
  · have HR : Hid (gaps l F T = gapsFrom T l F) := by unfold Hid gaps; rw [hok]; rfl
    rw [HR.out]
    exact (callsIn_wide (n := 6)).1 (gapsI_in 6 (Nat.le_refl _) v l F T q w h hok hT hS)
end Go.Proofs.YtcdcniniafejbaaGreatDoor.ctr

namespace Go.Proofs.YtcdcniniafejbaaGreatDoor.ctr
open Go.RowKit

@[go_sem] theorem eqA2 (a b c d : Int) (w : World) : (Op.equalIn 10000 52 (.agg #[.int .i64 a, .int .i64 b]) (.agg #[.int .i64 c, .int .i64 d])).run Tryz.prog w = .ok (a == c && b == d) w := by
  have u3 := Tryz.underlying3
  have a3 := Tryz.isAgg3
  have z3 := Tryz.sizeOf3
  rw [show (10000 : Nat) = 9999 + 1 from rfl, Op.equalIn]
  simp only [Sem.run_bind, run_underlying Tryz.underlying52, Result.andThen_ok]
  simp only [Std.Legacy.Range.forIn_eq_forIn_range', Std.Legacy.Range.size, Nat.sub_zero, Nat.add_sub_cancel, Nat.div_one, List.range'_succ, List.range'_zero, List.forIn_cons, List.forIn_nil]
  go_simp
  by_cases h1 : a = c <;> by_cases h2 : b = d <;> simp [h1, h2]
end Go.Proofs.YtcdcniniafejbaaGreatDoor.ctr

namespace Go.Proofs.YtcdcniniafejbaaGreatDoor.ctr
open Go.RowKit

/-- The regions of a number in a function's code. -/
def regOf (id : Nat) : Code → List (List Oper)
  | .region i ops _ => if i = id then [ops.toList] else []
  | .seq a b => regOf id a ++ regOf id b
  | .cond _ a b => regOf id a ++ regOf id b
  | .block _ b => regOf id b
  | .loop b => regOf id b
  | .scope b => regOf id b
  | _ => []
noncomputable def ops18 : List Oper := ((Tryz.f3.body.bind fun c => (regOf 18 c).head?)).getD []
abbrev L25 : Array Bool := setN 25 0 (Array.replicate 75 false)
def mv5 (v a b c d : Value) : List Mv := [(25, 17, 156, v), (26, 12, 157, a), (27, 13, 158, b), (28, 14, 159, c), (30, 16, 161, d)]
theorem len18 : ops18.length = 75 := by kernel_rfl
theorem ns18 : Region.noSelect ops18.toArray = true := by kernel_rfl
theorem lex18 : lexP .any ops18.toArray 25 0 (Array.replicate 75 false) = true := by kernel_rfl
theorem link18 : linkB .any ops18.toArray 25 = true := by kernel_rfl
theorem wait18 : waitB .any ops18.toArray 25 = true := by kernel_rfl
theorem mvs18 (v a b c d : Value) : mvB .any ops18.toArray 24 155 [156, 157, 158, 159, 161] (mv5 v a b c d) L25 = true := by kernel_rfl
theorem rd18 (v a b c d : Value) : Region.ready .any ops18.toArray (setM (mv5 v a b c d) L25) = [29] := by kernel_rfl
theorem rc18 (v a b c d : Value) : Region.ready .any ops18.toArray ((setM (mv5 v a b c d) L25).setIfInBounds 29 true) = [31] := by kernel_rfl
theorem rest18 (v a b c d : Value) : Region.lexFrom .any ops18.toArray 43 32 (((setM (mv5 v a b c d) L25).setIfInBounds 29 true).setIfInBounds 31 true) = true := by kernel_rfl
noncomputable def ops23 : List Oper := ((Tryz.f3.body.bind fun c => (regOf 23 c).head?)).getD []
noncomputable def ops25 : List Oper := ((Tryz.f3.body.bind fun c => (regOf 25 c).head?)).getD []
theorem len23 : ops23.length = 42 := by kernel_rfl
theorem len25 : ops25.length = 24 := by kernel_rfl
theorem lexB23 : Region.lexB .any ops23.toArray = true := by kernel_rfl
theorem lexB25 : Region.lexB .any ops25.toArray = true := by kernel_rfl
theorem op_run {P : Program} {ops : Array Oper} {Q : Exit → Act → World → Prop} {i : Nat} {o : Oper} {d : Tmp} {v : Value} {K : Act → World → Prop} {a : Act} {w : World} (hi : ops[i]? = some o) (hd : o.dst = some d) (hw : Region.wanted o (yielded ops a.tmps) = true) (hx : (execOp a.eval o).run P w = .ok (.value v) w) (h : K (a.put (some d) v) w) : wpOp P ops Q i K a w := by
  unfold wpOp
  simp only [hi, hw, if_true]
  left
  unfold Oper.wp
  rw [hx, Oper.upon_value, hd]
  exact h
end Go.Proofs.YtcdcniniafejbaaGreatDoor.ctr
