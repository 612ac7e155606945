/- A row of structs of ints that lies in a block of its own with room behind it ('PRow'): what is read, what stores make of it, what append makes of it. Contract of the heap's Swap: two segments take each other's place; nothing else turns. The heap's state, and the contract of its method Push: a segment comes to the end of the row. -/
import Derived.Test.YtdgolaaheakfoaaGreatDoorIntRowS
import Derived.Laws.AppendOwn
import Derived.Handy
import Derived.Test.YtdgolaaheakfoaaGreatDoorJnSad
import Derived.Deep.RegionLaw
import Derived.Deep.AppendLies
namespace Go.Proofs.YtdgolaaheakfoaaGreatDoor.ctr
open Go.RowKit
def CIs {α : Type} (K : IK α) (cur : Array Value) (L : List α) : Prop := ∀ k, k < L.length → ∀ (j : Nat) (z : Int), (K.iv (atK K L k))[j]? = some z → cur[k * K.m + j]? = some (.int .i64 z)
def PRow {α : Type} (K : IK α) (T : TypeId) (w : World) (g cap : Nat) (L : List α) : Prop := ∃ cur, Blk w g cur T ∧ cur.size = cap * K.m ∧ L.length ≤ cap ∧ cap ≤ maxLen ∧ CIs K cur L
theorem atK_set {α : Type} {K : IK α} {L : List α} {i k : Nat} {x : α} (hi : i < L.length) : atK K (L.set i x) k = if k = i then x else atK K L k := by
  unfold atK
  simp only [List.getD, List.getElem?_set]
  by_cases e : i = k
  · subst e; simp [hi]
  · simp [e, Ne.symm e]
theorem CIs.set {α : Type} {K : IK α} {cur : Array Value} {L : List α} (h : CIs K cur L) {i cap : Nat} (x : α) (hi : i < L.length) (hc : L.length ≤ cap) (hs : cur.size = cap * K.m) : CIs K (setI cur (i * K.m) 0 (K.iv x)) (L.set i x) := by
  intro k hk j z e
  have hk' : k < L.length := by simpa using hk
  have hl : (K.iv x).length = K.m := K.len x
  have h1 : (i + 1) * K.m ≤ cap * K.m := Nat.mul_le_mul_right _ (by omega)
  have e1 : (i + 1) * K.m = i * K.m + K.m := by rw [Nat.add_mul]; omega
  rw [atK_set hi] at e
  by_cases q : k = i
  · subst q
    rw [if_pos rfl] at e
    have := setI_new (K.iv x) cur (k * K.m) 0 j z (by omega) e
    rw [Nat.add_zero] at this
    exact this
  · rw [if_neg q] at e
    have hj : j < K.m := by rw [← K.len (atK K L k)]; exact (List.getElem?_eq_some_iff.1 e).1
    rw [setI_old _ _ _ _ _ (by
      rcases Nat.lt_or_gt_of_ne q with q | q
      · left
        have : (k + 1) * K.m ≤ i * K.m := Nat.mul_le_mul_right _ q
        rw [Nat.add_mul] at this
        omega
      · right
        have : (i + 1) * K.m ≤ k * K.m := Nat.mul_le_mul_right _ q
        omega)]
    exact h k hk' j z e
theorem PRow.lt {α : Type} {K : IK α} {T : TypeId} {w : World} {g cap : Nat} {L : List α} (h : PRow K T w g cap L) : g < w.heap.size := by obtain ⟨cur, h, _⟩ := h; exact h.lt
theorem PRow.at {α : Type} {K : IK α} {T : TypeId} {w : World} {g cap : Nat} {L : List α} (h : PRow K T w g cap L) {k : Nat} (hk : k < L.length) : IAt K w g k (atK K L k) := by
  obtain ⟨cur, hB, _, _, _, hC⟩ := h
  exact fun j z e => hB.cell _ (hC k hk j z e)
theorem PRow.below {α : Type} {K : IK α} {T : TypeId} {B : Nat} {w w' : World} {g cap : Nat} {L : List α} (h : PRow K T w g cap L) (hb : Below B w w') (hg : g < B) : PRow K T w' g cap L := by
  obtain ⟨cur, hB, r⟩ := h
  exact ⟨cur, hB.below hb hg, r⟩
theorem PRow.grown {α : Type} {K : IK α} {T : TypeId} {w w' : World} {g cap : Nat} {L : List α} {r : Option Nat} (h : PRow K T w g cap L) (hb : w.grownBy w' r) (hg : some g ≠ r) : PRow K T w' g cap L := by
  obtain ⟨cur, hB, q⟩ := h
  exact ⟨cur, (hb.block g hB.lt hg).trans hB, q⟩
theorem PRow.row {α : Type} {K : IK α} {T : TypeId} {w : World} {g cap : Nat} {L : List α} (h : PRow K T w g cap L) : IRow K w (.slice (some ⟨g, 0, none⟩) L.length cap) L := by
  obtain ⟨cur, hB, _, h1, h2, hC⟩ := h
  exact ⟨_, cap, rfl, h1, h2, fun k hk => ⟨g, rfl, hB.lt, fun j z e => hB.cell _ (hC k hk j z e)⟩⟩
theorem CIs.take {α : Type} {K : IK α} {cur : Array Value} {L : List α} (h : CIs K cur L) (hm : 0 < K.m) {cap : Nat} (hc : L.length ≤ cap) (hs : cur.size = cap * K.m) : cur.toList.take (L.length * K.m) = icells K L := by
  have h1 : L.length * K.m ≤ cap * K.m := Nat.mul_le_mul_right _ hc
  apply List.ext_getElem?
  intro q
  by_cases hq : q < L.length * K.m
  · rw [List.getElem?_take, if_pos hq]
    have hk : q / K.m < L.length := Nat.div_lt_of_lt_mul (by rw [Nat.mul_comm]; exact hq)
    have hj : q % K.m < K.m := Nat.mod_lt _ hm
    have hd : q / K.m * K.m + q % K.m = q := by rw [Nat.mul_comm]; exact Nat.div_add_mod q K.m
    have e : (K.iv (atK K L (q / K.m)))[q % K.m]? = some ((K.iv (atK K L (q / K.m)))[q % K.m]'(by rw [K.len]; exact hj)) := by simp
    have a := h _ hk _ _ e
    have b := icells_at L _ _ _ hk e
    rw [hd] at a b
    rw [b]
    simpa using a
  · rw [List.getElem?_eq_none (by simp; omega), List.getElem?_eq_none (by rw [icells_len]; omega)]
theorem CIs.of_take {α : Type} {K : IK α} {cur : Array Value} {L : List α} (h : cur.toList.take (L.length * K.m) = icells K L) : CIs K cur L := by
  intro k hk j z e
  have hj : j < K.m := by rw [← K.len (atK K L k)]; exact (List.getElem?_eq_some_iff.1 e).1
  have b := icells_at L k j z hk e
  have hq : k * K.m + j < L.length * K.m := by
    have : (k + 1) * K.m ≤ L.length * K.m := Nat.mul_le_mul_right _ hk
    rw [Nat.add_mul] at this
    omega
  rw [← h, List.getElem?_take, if_pos hq] at b
  simpa using b
theorem PRow.owns {α : Type} {K : IK α} {T : TypeId} {w : World} {g cap base : Nat} {L : List α} (h : PRow K T w g cap L) (hm : 0 < K.m) (hg : base ≤ g) : w.ownsRow base T K.m (.slice (some ⟨g, 0, none⟩) L.length cap) L.length (icells K L) := by
  obtain ⟨cur, hB, hs, h1, h2, hC⟩ := h
  exact ⟨icells_len L, .inr ⟨g, cap, cur, rfl, hg, hB, h1, h2, hs, hC.take hm h1 hs⟩⟩
theorem PRow.of_owns {α : Type} {K : IK α} {T : TypeId} {w : World} {base : Nat} {v : Value} {L : List α} (h : w.ownsRow base T K.m v L.length (icells K L)) (h0 : 0 < L.length) : ∃ g cap, v = .slice (some ⟨g, 0, none⟩) L.length cap ∧ base ≤ g ∧ PRow K T w g cap L := by
  obtain ⟨_, ⟨_, h⟩ | ⟨g, cap, cur, rfl, hg, hB, h1, h2, hs, hC⟩⟩ := h
  · omega
  · exact ⟨g, cap, rfl, hg, cur, hB, hs, h1, h2, CIs.of_take hC⟩
theorem icells_app {α : Type} {K : IK α} : ∀ (l l' : List α), icells K (l ++ l') = icells K l ++ icells K l'
  | [], l' => rfl
  | a :: l, l' => by rw [List.cons_append, icells, icells, icells_app l l', List.append_assoc]
theorem icell_one {α : Type} {K : IK α} {l : List α} : ∀ u ∈ icells K l, u.oneCell' = true := by
  induction l with
  | nil => simp [icells]
  | cons a l ih =>
    intro u hu
    rcases List.mem_append.1 hu with h | h
    · obtain ⟨z, _, rfl⟩ := List.mem_map.1 h
      rfl
    · exact ih u h
theorem PRow.shorter {α : Type} {K : IK α} {T : TypeId} {w : World} {g cap : Nat} {L : List α} (h : PRow K T w g cap L) (n : Nat) : PRow K T w g cap (L.take n) := by
  obtain ⟨cur, hB, hs, h1, h2, hC⟩ := h
  refine ⟨cur, hB, hs, by simp; omega, h2, fun k hk j z e => hC k (by simp at hk; omega) j z ?_⟩
  simp at hk
  have hkn : k < n := by omega
  have : atK K (L.take n) k = atK K L k := by simp [atK, List.getD, hkn]
  rw [← this]
  exact e
end Go.Proofs.YtdgolaaheakfoaaGreatDoor.ctr
namespace Go.Proofs.YtdgolaaheakfoaaGreatDoor.ctr
open Go.RowKit
def putI (w : World) (g b : Nat) : Nat → List Int → World
  | _, [] => w
  | j, z :: zs => putI (w.setCell ⟨g, b + j, none⟩ (.int .i64 z)) g b (j + 1) zs
theorem putI_blk : ∀ (zs : List Int) (w : World) (g b j : Nat) (cur : Array Value) (T : TypeId), Blk w g cur T → Blk (putI w g b j zs) g (setI cur b j zs) T
  | [], _, _, _, _, _, _, h => h
  | _ :: zs, _, g, b, j, _, T, h => putI_blk zs _ g b (j + 1) _ T (h.set (b + j) _)
theorem putI_grown : ∀ (zs : List Int) (w : World) (g b j : Nat), w.grownBy (putI w g b j zs) (some g)
  | [], _, _, _, _ => ⟨rfl, rfl, rfl, Nat.le_refl _, fun _ _ _ => rfl⟩
  | z :: zs, w, g, b, j => by
    have h := putI_grown zs (w.setCell ⟨g, b + j, none⟩ (.int .i64 z)) g b (j + 1)
    refine ⟨h.os, h.tape, h.output, Nat.le_trans (by rw [World.size_setCell]; exact Nat.le_refl _) h.size, fun k hk hn => ?_⟩
    rw [putI, h.block k (by rw [World.size_setCell]; exact hk) hn]
    exact Below.heap_setCell w _ _ k (fun e => hn (by rw [e]))
theorem grown_two {w w1 w2 : World} {r : Option Nat} (h : w.grownBy w1 r) (k : w1.grownBy w2 r) : w.grownBy w2 r := ⟨k.os.trans h.os, k.tape.trans h.tape, k.output.trans h.output, Nat.le_trans h.size k.size, fun j hj hn => (k.block j (Nat.lt_of_lt_of_le hj h.size) hn).trans (h.block j hj hn)⟩
theorem PRow.put {α : Type} {K : IK α} {T : TypeId} {w : World} {g cap : Nat} {L : List α} (h : PRow K T w g cap L) {i : Nat} (hi : i < L.length) (x : α) : PRow K T (putI w g (i * K.m) 0 (K.iv x)) g cap (L.set i x) := by
  obtain ⟨cur, hB, hs, h1, h2, hC⟩ := h
  exact ⟨_, putI_blk _ w g _ 0 cur T hB, by rw [setI_size, hs], by simpa using h1, h2, hC.set x hi h1 hs⟩
theorem PRow.swapped {w : World} {g cap i j : Nat} {T : TypeId} {L : List PSeg} (h : PRow psK T w g cap L) (hi : i < L.length) (hj : j < L.length) : PRow psK T (putI (putI w g (i * 6) 0 (psK.iv (atK psK L j))) g (j * 6) 0 (psK.iv (atK psK L i))) g cap (swP L i j) ∧ w.grownBy (putI (putI w g (i * 6) 0 (psK.iv (atK psK L j))) g (j * 6) 0 (psK.iv (atK psK L i))) (some g) :=
  ⟨(h.put hi (atK psK L j)).put (by simpa using hj) (atK psK L i), grown_two (putI_grown _ _ _ _ _) (putI_grown _ _ _ _ _)⟩
theorem end_void {P : Program} {fn : Func} {R : Ending → World → Prop} {a : Act} {w : World} (hr : fn.results = #[]) (hd : a.defers = []) (hR : R (.returned (.tuple #[])) w) : bodyPost P fn R .normal a w := ⟨hd, .tuple #[], by simp [results, hr], hR⟩
theorem swap_world (w : World) (g i j : Nat) (a b : PSeg) : ((((((((((((w.setCell ⟨g, i * 6, none⟩ (.int .i64 b.s.fr)).setCell ⟨g, i * 6 + 1, none⟩ (.int .i64 b.s.to)).setCell ⟨g, i * 6 + 2, none⟩ (.int .i64 b.s.cal)).setCell ⟨g, i * 6 + 3, none⟩ (.int .i64 b.s.sty)).setCell ⟨g, i * 6 + 4, none⟩ (.int .i64 b.s.off)).setCell ⟨g, i * 6 + 5, none⟩ (.int .i64 b.at')).setCell ⟨g, j * 6, none⟩ (.int .i64 a.s.fr)).setCell ⟨g, j * 6 + 1, none⟩ (.int .i64 a.s.to)).setCell ⟨g, j * 6 + 2, none⟩ (.int .i64 a.s.cal)).setCell ⟨g, j * 6 + 3, none⟩ (.int .i64 a.s.sty)).setCell ⟨g, j * 6 + 4, none⟩ (.int .i64 a.s.off)).setCell ⟨g, j * 6 + 5, none⟩ (.int .i64 a.at')) = putI (putI w g (i * 6) 0 (psK.iv b)) g (j * 6) 0 (psK.iv a) := rfl
theorem PRow.drew {α : Type} {K : IK α} {T : TypeId} {w : World} {g cap : Nat} {L : List α} (h : PRow K T w g cap L) : PRow K T w.drew g cap L := h
theorem grown_drew {w w1 : World} {r : Option Nat} (h : w.grownBy w1 r) : w.grownBy w1.drew r := ⟨h.os, h.tape, h.output, h.size, h.block⟩
set_option maxHeartbeats 1000000 in
theorem heapSwap (g cap i j : Nat) (L : List PSeg) (w : World) (hP : PRow psK 257 w g cap L) (hi : i < L.length) (hj : j < L.length) :
    Calls Tryz.prog 279 #[.slice (some ⟨g, 0, none⟩) L.length cap, .int .i64 (i : Int), .int .i64 (j : Int)] w fun e w' => e = .returned (.tuple #[]) ∧ PRow psK 257 w' g cap (swP L i j) ∧ w.grownBy w' (some g) := by
  obtain ⟨a0, a1, a2, a3, a4, a5⟩ := (hP.at hi).ps
  obtain ⟨b0, b1, b2, b3, b4, b5⟩ := (hP.at hj).ps
  have hf : ∀ k, w.frozen? ⟨g, k, none⟩ = false := by obtain ⟨cur, hB, _⟩ := hP; exact hB.thaw
  have hc : L.length ≤ cap := by obtain ⟨cur, _, _, h, _⟩ := hP; exact h
  have hm : cap ≤ maxLen := by obtain ⟨cur, _, _, _, h, _⟩ := hP; exact h
  unfold maxLen at hm
  have HP := hideP hP
  clear hP
  by_cases hij : i = j
  · subst hij
    clear b0 b1 b2 b3 b4 b5
    have HS := hideP (HP.out.swapped hi hi)
    generalize atK psK L i = a at *
    go_enter Tryz.func279, Tryz.ntmps279
    go_wp2_with fail
    go_region
    all_goals go_wp2_with fail
    all_goals rw [swap_world]
    all_goals exact end_void Tryz.results279 rfl ⟨rfl, HS.out.1.drew, grown_drew HS.out.2⟩
  · have HS := hideP (HP.out.swapped hi hj)
    generalize atK psK L i = a at *
    generalize atK psK L j = b at *
    go_enter Tryz.func279, Tryz.ntmps279
    go_wp2_with fail
    go_region
    all_goals go_wp2_with fail
    all_goals rw [swap_world]
    all_goals exact end_void Tryz.results279 rfl ⟨rfl, HS.out.1.drew, grown_drew HS.out.2⟩
end Go.Proofs.YtdgolaaheakfoaaGreatDoor.ctr
namespace Go.Proofs.YtdgolaaheakfoaaGreatDoor.ctr
open Go.RowKit
structure HS (base : Nat) (w : World) (hb g cap : Nat) (L : List PSeg) : Prop where
  box : Blk w hb #[.slice (some ⟨g, 0, none⟩) L.length cap] 254
  row : PRow psK 257 w g cap L
  ne : g ≠ hb
  lo : base ≤ hb
  lg : base ≤ g
theorem HS.next {base : Nat} {w w' : World} {hb g cap : Nat} {L : List PSeg} (h : HS base w hb g cap L) (hB : Below w.heap.size w w') : HS base w' hb g cap L := ⟨h.box.below hB h.box.lt, h.row.below hB h.row.lt, h.ne, h.lo, h.lg⟩
theorem HS.sz {base : Nat} {w : World} {hb g cap : Nat} {L : List PSeg} (h : HS base w hb g cap L) : base ≤ w.heap.size := Nat.le_trans h.lo (Nat.le_of_lt h.box.lt)
theorem below_grown2 {base : Nat} {w w' : World} {r : Option Nat} (h : w.grownBy w' r) (hs : base ≤ w.heap.size) (hr : ∀ k, r = some k → base ≤ k) : Below base w w' := ⟨h.os, h.tape, h.output, h.size, fun k hk => h.block k (by omega) (fun e => by have := hr k e.symm; omega)⟩
theorem info_ps : (Tryz.prog.info? 257).map (fun i => (i.zero, i.size, i.bytes)) = some (some (.agg #[.int .i64 0, .int .i64 0, .int .i64 0, .int .i64 0, .int .i64 0, .int .i64 0]), 6, 48) := by kernel_rfl
theorem news_ps (w : World) (x : PSeg) (t : TypeId) : ∀ j u, (icell psK x)[j]? = some u → (w.alloc (.cells (icell psK x).toArray t)).cell? ((⟨w.heap.size, 0, none⟩ : Addr).add j) = some u := by
  intro j u h
  have := (Blk.new w (icell psK x).toArray t).cell j (v := u) (by simpa using h)
  rw [show ((⟨w.heap.size, 0, none⟩ : Addr).add j) = ⟨w.heap.size, j, none⟩ from by unfold Addr.add; split <;> simp_all]
  exact this
theorem push_done {base hb g cap : Nat} {L : List PSeg} {x : PSeg} {w w1 : World} {o : Obj} {g' cap' : Nat} (h : HS base w hb g cap L) (hown : w1.ownsRow base 257 6 (.slice (some ⟨g', 0, none⟩) (L.length + 1) cap') (L.length + 1) (icells psK L ++ icell psK x)) (hgrow : (w.alloc o).drew.grownBy w1 (Value.slice (some ⟨g, 0, none⟩) L.length cap).ownBlock) (hat : (Value.slice (some ⟨g, 0, none⟩) L.length cap).ownBlock = some g' ∨ g' = w.heap.size + 1) :
    HS base (w1.setCell ⟨hb, 0, none⟩ (.slice (some ⟨g', 0, none⟩) (L.length + 1) cap')) hb g' cap' (L ++ [x]) ∧ Below base w (w1.setCell ⟨hb, 0, none⟩ (.slice (some ⟨g', 0, none⟩) (L.length + 1) cap')) := by
  have hlen : (L ++ [x]).length = L.length + 1 := by simp
  have hne : g' ≠ hb := by
    rcases hat with e | e
    · have e' : g = g' := by simpa [Value.ownBlock] using e
      rw [← e']; exact h.ne
    · have := h.box.lt; omega
  have hg' : base ≤ g' := by
    rcases hat with e | e
    · have e' : g = g' := by simpa [Value.ownBlock] using e
      rw [← e']; exact h.lg
    · have := h.sz; omega
  have hB : Blk w1 hb #[.slice (some ⟨g, 0, none⟩) L.length cap] 254 := by
    refine (hgrow.block hb ?_ ?_).trans (h.box.alloc o)
    · show hb < (w.alloc o).heap.size
      rw [World.size_alloc]
      have := h.box.lt
      omega
    · exact fun e => h.ne (by simpa [Value.ownBlock] using e.symm)
  obtain ⟨g2, c2, e2, _, hP⟩ := PRow.of_owns (K := psK) (L := L ++ [x]) (v := .slice (some ⟨g', 0, none⟩) (L.length + 1) cap') (by rw [hlen, icells_app, show icells psK [x] = icell psK x by simp [icells]]; exact hown) (by simp)
  have e3 : g' = g2 ∧ cap' = c2 := by simpa using e2
  obtain ⟨rfl, rfl⟩ := e3
  refine ⟨⟨by rw [hlen]; exact hB.set 0 _, ?_, hne, h.lo, hg'⟩, ?_⟩
  · obtain ⟨cur, q1, q2⟩ := hP
    exact ⟨cur, q1.other (Ne.symm hne), q2⟩
  · have h1 : Below base w (w.alloc o).drew := ((Below.refl base w).alloc h.sz o).drew
    have h2 : Below base (w.alloc o).drew w1 := below_grown2 hgrow (by show base ≤ (w.alloc o).heap.size; rw [World.size_alloc]; have := h.sz; omega) (fun k e => by
      have e' : g = k := by simpa [Value.ownBlock] using e
      rw [← e']; exact h.lg)
    exact (h1.trans h2).setCell (p := ⟨hb, 0, none⟩) h.lo _
theorem is_ps (v : Value) (w : World) : (Instr.typeAssert (.iface 257 v) 20 257 false).run Tryz.prog w = .ok v w := by kernel_rfl
set_option maxRecDepth 100000 in
set_option maxHeartbeats 2000000 in
theorem heapPushM (base hb g cap : Nat) (L : List PSeg) (x : PSeg) (w : World) (h : HS base w hb g cap L) (hl : L.length < 1048576) :
    Calls Tryz.prog 278 #[.pointer (some ⟨hb, 0, none⟩), .iface 257 (.agg #[.int .i64 x.s.fr, .int .i64 x.s.to, .int .i64 x.s.cal, .int .i64 x.s.sty, .int .i64 x.s.off, .int .i64 x.at'])] w fun e w' => e = .returned (.tuple #[]) ∧ ∃ g' cap', HS base w' hb g' cap' (L ++ [x]) ∧ Below base w w' := by
  obtain ⟨i0, hi, he⟩ := Option.map_eq_some_iff.1 info_ps
  simp only [Prod.mk.injEq] at he
  obtain ⟨hz0, hz1, hz2⟩ := he
  have hc := h.box.cell 0 rfl
  have hf := h.box.thaw 0
  have hlt := h.box.lt
  have hown : Hid ((w.alloc (.cells (icell psK x).toArray 257)).ownsRow base 257 6 (.slice (some ⟨g, 0, none⟩) L.length cap) L.length (icells psK L)) := (h.row.owns (by decide) h.lg).alloc _
  have hnews := hideP (news_ps w x 257)
  have HK : Hid ((w.alloc (.cells #[.int .i64 x.s.fr, .int .i64 x.s.to, .int .i64 x.s.cal, .int .i64 x.s.sty, .int .i64 x.s.off, .int .i64 x.at'] 257)).drew.cell? ⟨hb, 0, none⟩ = some (.slice (some ⟨g, 0, none⟩) L.length cap) ∧ (w.alloc (.cells #[.int .i64 x.s.fr, .int .i64 x.s.to, .int .i64 x.s.cal, .int .i64 x.s.sty, .int .i64 x.s.off, .int .i64 x.at'] 257)).drew.frozen? ⟨hb, 0, none⟩ = false) := ⟨(h.box.alloc _).cell 0 rfl, (h.box.alloc _).thaw 0⟩
  have HLT : Hid (hb < (w.alloc (.cells #[.int .i64 x.s.fr, .int .i64 x.s.to, .int .i64 x.s.cal, .int .i64 x.s.sty, .int .i64 x.s.off, .int .i64 x.at'] 257)).drew.heap.size) := by
    show hb < (w.alloc _).heap.size
    rw [World.size_alloc]
    have := h.box.lt
    omega
  have HNE : Hid (some hb ≠ (Value.slice (some ⟨g, 0, none⟩) L.length cap).ownBlock) := fun e => h.ne (by simpa [Value.ownBlock] using e.symm)
  have H := hideP h
  have hsz := hideP h.sz
  have hta := is_ps
  clear h
  go_enter Tryz.func278, Tryz.ntmps278
  go_wp2_with fail
  go_region_law
    ((refine step_append_lies _ (by rfl) _ _ 254 (by rfl) base 257 i0 (.agg #[.int .i64 0, .int .i64 0, .int .i64 0, .int .i64 0, .int .i64 0, .int .i64 0]) 6 48 Tryz.underlying254 hi hz0 hz1 hz2 rfl (by decide) _ L.length (icells psK L) (by rfl) hown.out ⟨w.heap.size, 0, none⟩ 1 1 (icell psK x) (by rfl) rfl hnews.out (by simp [icell, Value.oneCell']) (by omega) (by unfold maxLen; omega) (by omega) (by have := hsz.out; show base ≤ (w.alloc _).heap.size; rw [World.size_alloc]; omega) (w.heap.size + 1) (by simp) ?_; intro g' cap' w1 hown1 hgrow hat hlt1; have q1 := (hgrow.cell_far ⟨hb, 0, none⟩ HLT.out HNE.out).trans HK.out.1; have q2 := (hgrow.frozen_far ⟨hb, 0, none⟩ HLT.out HNE.out).trans HK.out.2))
  all_goals
    have HD := hideP (push_done H.out hown1 hgrow hat)
    clear hown1 hgrow hat hlt1 q1 q2
    go_wp2_with fail
    exact end_void Tryz.results278 rfl ⟨rfl, _, _, HD.out⟩
end Go.Proofs.YtdgolaaheakfoaaGreatDoor.ctr
