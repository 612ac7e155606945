/- The heap's state, and the contract of its method Push: a segment comes to the end of the row. -/
import Derived.Test.YtioiaefjkmgmdaaGreatDoorHeapSwap
import Derived.Deep.RegionLaw
import Derived.Deep.AppendLies
namespace Go.Proofs.YtioiaefjkmgmdaaGreatDoor.ctr
open Go.RowKit

/-- The heap in memory: its box at hb holds a slice, whose row lies at g and holds just L. -/
structure HS (base : Nat) (w : World) (hb g cap : Nat) (L : List PSeg) : Prop where
  box : Blk w hb #[.slice (some ⟨g, 0, none⟩) L.length cap] 199
  row : PRow psK 202 w g cap L
  ne : g ≠ hb
  lo : base ≤ hb
  lg : base ≤ g
theorem HS.next {base : Nat} {w w' : World} {hb g cap : Nat} {L : List PSeg} (h : HS base w hb g cap L) (hB : Below w.heap.size w w') : HS base w' hb g cap L := ⟨h.box.below hB h.box.lt, h.row.below hB h.row.lt, h.ne, h.lo, h.lg⟩
theorem HS.sz {base : Nat} {w : World} {hb g cap : Nat} {L : List PSeg} (h : HS base w hb g cap L) : base ≤ w.heap.size := Nat.le_trans h.lo (Nat.le_of_lt h.box.lt)
theorem below_grown2 {base : Nat} {w w' : World} {r : Option Nat} (h : w.grownBy w' r) (hs : base ≤ w.heap.size) (hr : ∀ k, r = some k → base ≤ k) : Below base w w' := ⟨h.os, h.tape, h.output, h.size, fun k hk => h.block k (by omega) (fun e => by have := hr k e.symm; omega)⟩
theorem info_ps : (Tryz.prog.info? 202).map (fun i => (i.zero, i.size, i.bytes)) = some (some (.agg #[.int .i64 0, .int .i64 0, .int .i64 0, .int .i64 0, .int .i64 0, .int .i64 0]), 6, 48) := by kernel_rfl
theorem news_ps (w : World) (x : PSeg) (t : TypeId) : ∀ j u, (icell psK x)[j]? = some u → (w.alloc (.cells (icell psK x).toArray t)).cell? ((⟨w.heap.size, 0, none⟩ : Addr).add j) = some u := by
  intro j u h
  have := (Blk.new w (icell psK x).toArray t).cell j (v := u) (by simpa using h)
  rw [show ((⟨w.heap.size, 0, none⟩ : Addr).add j) = ⟨w.heap.size, j, none⟩ from by unfold Addr.add; split <;> simp_all]
  exact this

theorem push_done {base hb g cap : Nat} {L : List PSeg} {x : PSeg} {w w1 : World} {o : Obj} {g' cap' : Nat} (h : HS base w hb g cap L) (hown : w1.ownsRow base 202 6 (.slice (some ⟨g', 0, none⟩) (L.length + 1) cap') (L.length + 1) (icells psK L ++ icell psK x)) (hgrow : (w.alloc o).drew.grownBy w1 (Value.slice (some ⟨g, 0, none⟩) L.length cap).ownBlock) (hat : (Value.slice (some ⟨g, 0, none⟩) L.length cap).ownBlock = some g' ∨ g' = w.heap.size + 1) :
    HS base (w1.setCell ⟨hb, 0, none⟩ (.slice (some ⟨g', 0, none⟩) (L.length + 1) cap')) hb g' cap' (L ++ [x]) ∧ Below base w (w1.setCell ⟨hb, 0, none⟩ (.slice (some ⟨g', 0, none⟩) (L.length + 1) cap')) := by
  have hlen : (L ++ [x]).length = L.length + 1 := by simp
  have hne : g' ≠ hb := by
    rcases hat with e | e
    · have e' : g = g' := by simpa [Value.ownBlock] using e
      rw [← e']; exact h.ne
    · have := h.box.lt; omega
  have hg' : base ≤ g' := by
    rcases hat with e | e
    · have e' : g = g' := by simpa [Value.ownBlock] using e
      rw [← e']; exact h.lg
    · have := h.sz; omega
  have hB : Blk w1 hb #[.slice (some ⟨g, 0, none⟩) L.length cap] 199 := by
    refine (hgrow.block hb ?_ ?_).trans (h.box.alloc o)
    · show hb < (w.alloc o).heap.size
      rw [World.size_alloc]
      have := h.box.lt
      omega
    · exact fun e => h.ne (by simpa [Value.ownBlock] using e.symm)
  obtain ⟨g2, c2, e2, _, hP⟩ := PRow.of_owns (K := psK) (L := L ++ [x]) (v := .slice (some ⟨g', 0, none⟩) (L.length + 1) cap') (by rw [hlen, icells_app, show icells psK [x] = icell psK x by simp [icells]]; exact hown) (by simp)
  have e3 : g' = g2 ∧ cap' = c2 := by simpa using e2
  obtain ⟨rfl, rfl⟩ := e3
  refine ⟨⟨by rw [hlen]; exact hB.set 0 _, ?_, hne, h.lo, hg'⟩, ?_⟩
  · obtain ⟨cur, q1, q2⟩ := hP
    exact ⟨cur, q1.other (Ne.symm hne), q2⟩
  · have h1 : Below base w (w.alloc o).drew := ((Below.refl base w).alloc h.sz o).drew
    have h2 : Below base (w.alloc o).drew w1 := below_grown2 hgrow (by show base ≤ (w.alloc o).heap.size; rw [World.size_alloc]; have := h.sz; omega) (fun k e => by
      have e' : g = k := by simpa [Value.ownBlock] using e
      rw [← e']; exact h.lg)
    exact (h1.trans h2).setCell (p := ⟨hb, 0, none⟩) h.lo _
theorem is_ps (v : Value) (w : World) : (Instr.typeAssert (.iface 202 v) 20 202 false).run Tryz.prog w = .ok v w := by kernel_rfl
set_option maxRecDepth 100000 in
set_option maxHeartbeats 2000000 in
theorem heapPushM (base hb g cap : Nat) (L : List PSeg) (x : PSeg) (w : World) (h : HS base w hb g cap L) (hl : L.length < 1048576) :
    Calls Tryz.prog 300 #[.pointer (some ⟨hb, 0, none⟩), .iface 202 (.agg #[.int .i64 x.s.fr, .int .i64 x.s.to, .int .i64 x.s.cal, .int .i64 x.s.sty, .int .i64 x.s.off, .int .i64 x.at'])] w fun e w' => e = .returned (.tuple #[]) ∧ ∃ g' cap', HS base w' hb g' cap' (L ++ [x]) ∧ Below base w w' := by
  obtain ⟨i0, hi, he⟩ := Option.map_eq_some_iff.1 info_ps
  simp only [Prod.mk.injEq] at he
  obtain ⟨hz0, hz1, hz2⟩ := he
  have hc := h.box.cell 0 rfl
  have hf := h.box.thaw 0
  have hlt := h.box.lt
  have hown : Hid ((w.alloc (.cells (icell psK x).toArray 202)).ownsRow base 202 6 (.slice (some ⟨g, 0, none⟩) L.length cap) L.length (icells psK L)) := (h.row.owns (by decide) h.lg).alloc _
  have hnews := hideP (news_ps w x 202)
  have HK : Hid ((w.alloc (.cells #[.int .i64 x.s.fr, .int .i64 x.s.to, .int .i64 x.s.cal, .int .i64 x.s.sty, .int .i64 x.s.off, .int .i64 x.at'] 202)).drew.cell? ⟨hb, 0, none⟩ = some (.slice (some ⟨g, 0, none⟩) L.length cap) ∧ (w.alloc (.cells #[.int .i64 x.s.fr, .int .i64 x.s.to, .int .i64 x.s.cal, .int .i64 x.s.sty, .int .i64 x.s.off, .int .i64 x.at'] 202)).drew.frozen? ⟨hb, 0, none⟩ = false) := ⟨(h.box.alloc _).cell 0 rfl, (h.box.alloc _).thaw 0⟩
  have HLT : Hid (hb < (w.alloc (.cells #[.int .i64 x.s.fr, .int .i64 x.s.to, .int .i64 x.s.cal, .int .i64 x.s.sty, .int .i64 x.s.off, .int .i64 x.at'] 202)).drew.heap.size) := by
    show hb < (w.alloc _).heap.size
    rw [World.size_alloc]
    have := h.box.lt
    omega
  have HNE : Hid (some hb ≠ (Value.slice (some ⟨g, 0, none⟩) L.length cap).ownBlock) := fun e => h.ne (by simpa [Value.ownBlock] using e.symm)
  have H := hideP h
  have hsz := hideP h.sz
  have hta := is_ps
  clear h
  go_enter Tryz.func300, Tryz.ntmps300
  go_wp2_with fail
  go_region_law
    ((refine step_append_lies _ (by rfl) _ _ 199 (by rfl) base 202 i0 (.agg #[.int .i64 0, .int .i64 0, .int .i64 0, .int .i64 0, .int .i64 0, .int .i64 0]) 6 48 Tryz.underlying199 hi hz0 hz1 hz2 rfl (by decide) _ L.length (icells psK L) (by rfl) hown.out ⟨w.heap.size, 0, none⟩ 1 1 (icell psK x) (by rfl) rfl hnews.out (by simp [icell, Value.oneCell']) (by omega) (by unfold maxLen; omega) (by omega) (by have := hsz.out; show base ≤ (w.alloc _).heap.size; rw [World.size_alloc]; omega) (w.heap.size + 1) (by simp) ?_; intro g' cap' w1 hown1 hgrow hat hlt1; have q1 := (hgrow.cell_far ⟨hb, 0, none⟩ HLT.out HNE.out).trans HK.out.1; have q2 := (hgrow.frozen_far ⟨hb, 0, none⟩ HLT.out HNE.out).trans HK.out.2))
  all_goals
    have HD := hideP (push_done H.out hown1 hgrow hat)
    clear hown1 hgrow hat hlt1 q1 q2
    go_wp2_with fail
    exact end_void Tryz.results300 rfl ⟨rfl, _, _, HD.out⟩
end Go.Proofs.YtioiaefjkmgmdaaGreatDoor.ctr
