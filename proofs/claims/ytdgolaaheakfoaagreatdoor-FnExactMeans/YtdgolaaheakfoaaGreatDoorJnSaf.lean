/- Closed facts: which function a method of the heap is, called through container/heap's interface. Contract of the heap's Less: one segment is ahead of another by From, then To, then its number. Contracts of container/heap's up and Push at the heap of segments: the heap's order comes back. -/
import Derived.Test.YtdgolaaheakfoaaGreatDoorJnSae
import Derived.Test.YtdgolaaheakfoaaGreatDoorJnSad
namespace Go.Proofs.YtdgolaaheakfoaaGreatDoor.ctr
open Go.RowKit
theorem meth_push (p : Addr) (w : World) : (Go.method 404 252 (.pointer (some p)) "Push").run Tryz.prog w = .ok (278, .pointer (some p)) w := by kernel_rfl
theorem meth_pop (p : Addr) (w : World) : (Go.method 404 252 (.pointer (some p)) "Pop").run Tryz.prog w = .ok (277, .pointer (some p)) w := by kernel_rfl
theorem meth_len0 (p : Addr) (w : World) : (Go.method 404 252 (.pointer (some p)) "Len").run Tryz.prog w = (do let v ← loadVar 254 p; pure (275, v) : Sem (FuncId × Value)).run Tryz.prog w := by kernel_rfl
theorem meth_less0 (p : Addr) (w : World) : (Go.method 404 252 (.pointer (some p)) "Less").run Tryz.prog w = (do let v ← loadVar 254 p; pure (276, v) : Sem (FuncId × Value)).run Tryz.prog w := by kernel_rfl
theorem meth_swap0 (p : Addr) (w : World) : (Go.method 404 252 (.pointer (some p)) "Swap").run Tryz.prog w = (do let v ← loadVar 254 p; pure (279, v) : Sem (FuncId × Value)).run Tryz.prog w := by kernel_rfl
theorem load_heap {p : Addr} {w : World} {a : Option Addr} {n c : Nat} (h : w.cell? p = some (.slice a n c)) : (loadVar 254 p).run Tryz.prog w = .ok (.slice a n c) w := by
  have u := Tryz.underlying254
  simp [loadVar, isAgg, underlying, u, h, Result.andThen]
theorem meth_len {p : Addr} {w : World} {a : Option Addr} {n c : Nat} (h : w.cell? p = some (.slice a n c)) : (Go.method 404 252 (.pointer (some p)) "Len").run Tryz.prog w = .ok (275, .slice a n c) w := by rw [meth_len0]; simp only [Sem.run_bind, load_heap h, Result.andThen_ok, Sem.run_pure]
theorem meth_less {p : Addr} {w : World} {a : Option Addr} {n c : Nat} (h : w.cell? p = some (.slice a n c)) : (Go.method 404 252 (.pointer (some p)) "Less").run Tryz.prog w = .ok (276, .slice a n c) w := by rw [meth_less0]; simp only [Sem.run_bind, load_heap h, Result.andThen_ok, Sem.run_pure]
theorem meth_swap {p : Addr} {w : World} {a : Option Addr} {n c : Nat} (h : w.cell? p = some (.slice a n c)) : (Go.method 404 252 (.pointer (some p)) "Swap").run Tryz.prog w = .ok (279, .slice a n c) w := by rw [meth_swap0]; simp only [Sem.run_bind, load_heap h, Result.andThen_ok, Sem.run_pure]
end Go.Proofs.YtdgolaaheakfoaaGreatDoor.ctr
namespace Go.Proofs.YtdgolaaheakfoaaGreatDoor.ctr
open Go.RowKit
theorem at_two {w W0 : World} {o1 o2 : Obj} (e : W0 = (w.alloc o1).alloc o2) : Below w.heap.size w W0 := by
  rw [e]
  exact ((Below.refl _ _).alloc (Nat.le_refl _) _).alloc (by rw [World.size_alloc]; omega) _
set_option maxHeartbeats 4000000 in
theorem heapLess (g n cap i j : Nat) (a b : PSeg) (w : World) (hg : g < w.heap.size) (hi : i < n) (hj : j < n) (ha : IAt psK w g i a) (hb : IAt psK w g j b) :
    Calls Tryz.prog 276 #[.slice (some ⟨g, 0, none⟩) n cap, .int .i64 (i : Int), .int .i64 (j : Int)] w fun e w' => e = .returned (.bool (ltP a b)) ∧ Below w.heap.size w w' := by
  obtain ⟨a0, a1, a2, a3, a4, a5⟩ := ha.ps
  obtain ⟨b0, b1, b2, b3, b4, b5⟩ := hb.ps
  have HL := hideP (or_lt a b)
  clear ha hb
  go_enter Tryz.func276, Tryz.ntmps276
  go_wp2_with fail
  go_region
  · obtain ⟨W0, hW0⟩ : ∃ W0, W0 = (w.alloc (.cells #[.int .i64 a.s.fr, .int .i64 a.s.to, .int .i64 a.s.cal, .int .i64 a.s.sty, .int .i64 a.s.off, .int .i64 a.at'] 257)).alloc (.cells #[.int .i64 b.s.fr, .int .i64 b.s.to, .int .i64 b.s.cal, .int .i64 b.s.sty, .int .i64 b.s.off, .int .i64 b.at'] 257) := ⟨_, rfl⟩
    have k1 : Blk W0 w.heap.size #[.int .i64 a.s.fr, .int .i64 a.s.to, .int .i64 a.s.cal, .int .i64 a.s.sty, .int .i64 a.s.off, .int .i64 a.at'] 257 := by rw [hW0]; exact (Blk.new w _ _).alloc _
    have k2 : Blk W0 (w.heap.size + 1) #[.int .i64 b.s.fr, .int .i64 b.s.to, .int .i64 b.s.cal, .int .i64 b.s.sty, .int .i64 b.s.off, .int .i64 b.at'] 257 := by rw [hW0]; have := Blk.new (w.alloc (.cells #[.int .i64 a.s.fr, .int .i64 a.s.to, .int .i64 a.s.cal, .int .i64 a.s.sty, .int .i64 a.s.off, .int .i64 a.at'] 257)) #[.int .i64 b.s.fr, .int .i64 b.s.to, .int .i64 b.s.cal, .int .i64 b.s.sty, .int .i64 b.s.off, .int .i64 b.at'] 257; rw [World.size_alloc] at this; exact this
    have HB := hideP (at_two hW0)
    have c0 : ∀ x : Later W0, x.w.cell? ⟨w.heap.size, 0, none⟩ = some (.int .i64 a.s.fr) := fun x => (k1.later x).cell 0 rfl
    have c1 : ∀ x : Later W0, x.w.cell? ⟨w.heap.size, 1, none⟩ = some (.int .i64 a.s.to) := fun x => (k1.later x).cell 1 rfl
    have c5 : ∀ x : Later W0, x.w.cell? ⟨w.heap.size, 5, none⟩ = some (.int .i64 a.at') := fun x => (k1.later x).cell 5 rfl
    have d0 : ∀ x : Later W0, x.w.cell? ⟨w.heap.size + 1, 0, none⟩ = some (.int .i64 b.s.fr) := fun x => (k2.later x).cell 0 rfl
    have d1 : ∀ x : Later W0, x.w.cell? ⟨w.heap.size + 1, 1, none⟩ = some (.int .i64 b.s.to) := fun x => (k2.later x).cell 1 rfl
    have d5 : ∀ x : Later W0, x.w.cell? ⟨w.heap.size + 1, 5, none⟩ = some (.int .i64 b.at') := fun x => (k2.later x).cell 5 rfl
    rw [← hW0]
    clear k1 k2 hW0 a0 a1 a2 a3 a4 a5 b0 b1 b2 b3 b4 b5
    go_wp2_with fail
    obtain ⟨xd, hxd⟩ : ∃ xd : Later W0, W0.drew.drew = xd.w := ⟨⟨_, (Below.refl _ _).drew.drew⟩, rfl⟩
    refine wp_region_any (by kernel_rfl) ?_
    change wpAny _ _ _ _ (4 + 19) _ _ _
    refine any_prefix (C := fun w' => ∃ x : Later W0, w' = x.w) 19 4 (by decide) (by kernel_rfl) (by kernel_rfl) (by kernel_rfl) (by kernel_rfl) (by kernel_rfl) ⟨xd, hxd⟩ ?_
    simp only [List.take_succ_cons, List.take_zero]
    clear hxd xd
    repeat (go_big_quiet_step (first | (go_at_call 281; exact calls_same (cmpCmp _ _ _))))
    refine wpQuiet_nil ?_
    intro _ hw'
    obtain ⟨x5, rfl⟩ := hw'
    generalize hx : cmpI a.s.fr b.s.fr = x at *
    generalize hy : cmpI a.s.to b.s.to = y at *
    generalize hz : cmpI a.at' b.at' = z at *
    have HX := hideP hx
    have HY := hideP hy
    have HZ := hideP hz
    clear hx hy hz
    refine wpAny_ready (rs := [19]) (by kernel_rfl) (by simp) ?_
    refine AllReady.cons rfl (fun K hK => ?_) AllReady.nil
    go_simp
    refine hK _ _ ?_
    clear hK K
    refine wpAny_ready (rs := [20]) (by kernel_rfl) (by simp) ?_
    refine AllReady.cons rfl (fun K hK => ?_) AllReady.nil
    go_simp
    refine (cmpOr x y z x5.w.heap.size _ (by simp) (by simp) (by simp)).mono ?_
    rintro e w6 ⟨rfl, rfl⟩
    refine hK _ _ ?_
    clear hK K
    refine wpAny_ready (rs := [21]) (by kernel_rfl) (by simp) ?_
    refine AllReady.cons rfl (fun K hK => ?_) AllReady.nil
    go_simp
    refine hK _ _ ?_
    clear hK K
    refine wpAny_ready (rs := [22]) (by kernel_rfl) (by simp) ?_
    refine AllReady.cons rfl (fun K hK => ?_) AllReady.nil
    go_simp
    refine hK _ _ ?_
    clear hK K
    refine wpAny_done (by kernel_rfl) ?_ _
    go_wp2_with fail
    go_ret
    exact ⟨ret_bool HL.out, HB.out.trans ((x5.below.alloc (by exact x5.below.size) _).mono HB.out.size)⟩
  · obtain ⟨W0, hW0⟩ : ∃ W0, W0 = (w.alloc (.cells #[.int .i64 b.s.fr, .int .i64 b.s.to, .int .i64 b.s.cal, .int .i64 b.s.sty, .int .i64 b.s.off, .int .i64 b.at'] 257)).alloc (.cells #[.int .i64 a.s.fr, .int .i64 a.s.to, .int .i64 a.s.cal, .int .i64 a.s.sty, .int .i64 a.s.off, .int .i64 a.at'] 257) := ⟨_, rfl⟩
    have k1 : Blk W0 w.heap.size #[.int .i64 b.s.fr, .int .i64 b.s.to, .int .i64 b.s.cal, .int .i64 b.s.sty, .int .i64 b.s.off, .int .i64 b.at'] 257 := by rw [hW0]; exact (Blk.new w _ _).alloc _
    have k2 : Blk W0 (w.heap.size + 1) #[.int .i64 a.s.fr, .int .i64 a.s.to, .int .i64 a.s.cal, .int .i64 a.s.sty, .int .i64 a.s.off, .int .i64 a.at'] 257 := by rw [hW0]; have := Blk.new (w.alloc (.cells #[.int .i64 b.s.fr, .int .i64 b.s.to, .int .i64 b.s.cal, .int .i64 b.s.sty, .int .i64 b.s.off, .int .i64 b.at'] 257)) #[.int .i64 a.s.fr, .int .i64 a.s.to, .int .i64 a.s.cal, .int .i64 a.s.sty, .int .i64 a.s.off, .int .i64 a.at'] 257; rw [World.size_alloc] at this; exact this
    have HB := hideP (at_two hW0)
    have c0 : ∀ x : Later W0, x.w.cell? ⟨w.heap.size, 0, none⟩ = some (.int .i64 b.s.fr) := fun x => (k1.later x).cell 0 rfl
    have c1 : ∀ x : Later W0, x.w.cell? ⟨w.heap.size, 1, none⟩ = some (.int .i64 b.s.to) := fun x => (k1.later x).cell 1 rfl
    have c5 : ∀ x : Later W0, x.w.cell? ⟨w.heap.size, 5, none⟩ = some (.int .i64 b.at') := fun x => (k1.later x).cell 5 rfl
    have d0 : ∀ x : Later W0, x.w.cell? ⟨w.heap.size + 1, 0, none⟩ = some (.int .i64 a.s.fr) := fun x => (k2.later x).cell 0 rfl
    have d1 : ∀ x : Later W0, x.w.cell? ⟨w.heap.size + 1, 1, none⟩ = some (.int .i64 a.s.to) := fun x => (k2.later x).cell 1 rfl
    have d5 : ∀ x : Later W0, x.w.cell? ⟨w.heap.size + 1, 5, none⟩ = some (.int .i64 a.at') := fun x => (k2.later x).cell 5 rfl
    rw [← hW0]
    clear k1 k2 hW0 a0 a1 a2 a3 a4 a5 b0 b1 b2 b3 b4 b5
    go_wp2_with fail
    obtain ⟨xd, hxd⟩ : ∃ xd : Later W0, W0.drew.drew = xd.w := ⟨⟨_, (Below.refl _ _).drew.drew⟩, rfl⟩
    refine wp_region_any (by kernel_rfl) ?_
    change wpAny _ _ _ _ (4 + 19) _ _ _
    refine any_prefix (C := fun w' => ∃ x : Later W0, w' = x.w) 19 4 (by decide) (by kernel_rfl) (by kernel_rfl) (by kernel_rfl) (by kernel_rfl) (by kernel_rfl) ⟨xd, hxd⟩ ?_
    simp only [List.take_succ_cons, List.take_zero]
    clear hxd xd
    repeat (go_big_quiet_step (first | (go_at_call 281; exact calls_same (cmpCmp _ _ _))))
    refine wpQuiet_nil ?_
    intro _ hw'
    obtain ⟨x5, rfl⟩ := hw'
    generalize hx : cmpI a.s.fr b.s.fr = x at *
    generalize hy : cmpI a.s.to b.s.to = y at *
    generalize hz : cmpI a.at' b.at' = z at *
    have HX := hideP hx
    have HY := hideP hy
    have HZ := hideP hz
    clear hx hy hz
    refine wpAny_ready (rs := [19]) (by kernel_rfl) (by simp) ?_
    refine AllReady.cons rfl (fun K hK => ?_) AllReady.nil
    go_simp
    refine hK _ _ ?_
    clear hK K
    refine wpAny_ready (rs := [20]) (by kernel_rfl) (by simp) ?_
    refine AllReady.cons rfl (fun K hK => ?_) AllReady.nil
    go_simp
    refine (cmpOr x y z x5.w.heap.size _ (by simp) (by simp) (by simp)).mono ?_
    rintro e w6 ⟨rfl, rfl⟩
    refine hK _ _ ?_
    clear hK K
    refine wpAny_ready (rs := [21]) (by kernel_rfl) (by simp) ?_
    refine AllReady.cons rfl (fun K hK => ?_) AllReady.nil
    go_simp
    refine hK _ _ ?_
    clear hK K
    refine wpAny_ready (rs := [22]) (by kernel_rfl) (by simp) ?_
    refine AllReady.cons rfl (fun K hK => ?_) AllReady.nil
    go_simp
    refine hK _ _ ?_
    clear hK K
    refine wpAny_done (by kernel_rfl) ?_ _
    go_wp2_with fail
    go_ret
    exact ⟨ret_bool HL.out, HB.out.trans ((x5.below.alloc (by exact x5.below.size) _).mono HB.out.size)⟩
end Go.Proofs.YtdgolaaheakfoaaGreatDoor.ctr
namespace Go.Proofs.YtdgolaaheakfoaaGreatDoor.ctr
open Go.RowKit
theorem atK_ps (L : List PSeg) (k : Nat) : atK psK L k = psA L k := rfl
theorem HS.swap {base : Nat} {w w' : World} {hb g cap : Nat} {L L' : List PSeg} (h : HS base w hb g cap L) (hl : L'.length = L.length) (hr : PRow psK 257 w' g cap L') (hg : w.grownBy w' (some g)) : HS base w' hb g cap L' :=
  ⟨by rw [hl]; exact (hg.block hb h.box.lt (fun e => h.ne (by simpa using e.symm))).trans h.box, hr, h.ne, h.lo, h.lg⟩
theorem HS.bel {base : Nat} {w w' : World} {hb g cap : Nat} {L : List PSeg} (h : HS base w hb g cap L) (hg : w.grownBy w' (some g)) : Below base w w' := below_grown2 hg h.sz (fun k e => by cases e; exact h.lg)
set_option maxRecDepth 100000 in
set_option maxHeartbeats 2000000 in
theorem heapUp (base hb g cap j0 : Nat) (L : List PSeg) (w : World) (h : HS base w hb g cap L) (hj : j0 < L.length) (hl : L.length ≤ 1048576) (hU : UpTo L L.length j0) :
    Calls Tryz.prog 202 #[.iface 252 (.pointer (some ⟨hb, 0, none⟩)), .int .i64 (j0 : Int)] w fun e w' => e = .returned (.tuple #[]) ∧ ∃ L', L'.Perm L ∧ HeapOn L' L'.length ∧ HS base w' hb g cap L' ∧ Below base w w' := by
  have H := hideP h
  have HU := hideP hU
  clear h hU
  go_enter Tryz.func202, Tryz.ntmps202
  go_wp2
  go_loopw [1] (fun i wr => ∃ (j : Nat) (l : List PSeg), i = .int .i64 (j : Int) ∧ j < L.length ∧ l.length = L.length ∧ Hid (l.Perm L ∧ UpTo l L.length j ∧ HS base wr hb g cap l ∧ Below base w wr)) (fun i _ => (intOf i).toNat)
  case atStart => exact ⟨j0, L, rfl, hj, rfl, List.Perm.refl _, HU.out, H.out, Below.refl _ _⟩
  case round =>
    obtain ⟨j, l, rfl, hjn, hln, HR⟩ := hrel
    have HLn := hideP hln
    clear H HU hln
    by_cases h0 : j = 0
    · subst h0
      go_wp2
      exact end_void Tryz.results202 rfl ⟨rfl, l, HR.out.1, by rw [HLn.out]; exact up_done HR.out.2.1 (.inl rfl), HR.out.2.2.1, HR.out.2.2.2⟩
    · obtain ⟨i, hi⟩ : ∃ i, (j - 1) / 2 = i := ⟨_, rfl⟩
      have hc : wr.cell? ⟨hb, 0, none⟩ = some (.slice (some ⟨g, 0, none⟩) L.length cap) := by rw [← HLn.out]; exact HR.out.2.2.1.box.cell 0 rfl
      have hd : Int.tdiv ((j : Int) - 1) 2 = (i : Int) := by
        rw [Int.tdiv_eq_ediv_of_nonneg (by omega)]
        omega
      have hij : i < j := by omega
      have hne : ((i : Int) == (j : Int)) = false := by simp; omega
      have HI := hideP hi
      have hm1 := meth_less hc
      have hlt : HS base wr hb g cap l := HR.out.2.2.1
      have KL := hideP (heapLess g L.length cap j i (psA l j) (psA l i) wr hlt.row.lt (by omega) (by omega) (hlt.row.at (by rw [HLn.out]; omega)) (hlt.row.at (by rw [HLn.out]; omega)))
      clear hi hlt
      go_wp2_with fail
      refine KL.out.mono ?_
      rintro e w1 ⟨rfl, hb1⟩
      have S1 := hideP (HR.out.2.2.1.next hb1)
      have B1 : Hid (Below base w w1) := HR.out.2.2.2.trans (hb1.mono (by have := HR.out.2.2.1.sz; exact this))
      clear hb1 hm1 hc
      cases hq : ltP (psA l j) (psA l i)
      · have HN : Hid (HeapOn l l.length) := by
          unfold Hid
          rw [HLn.out]
          exact up_done HR.out.2.1 (.inr (by rw [HI.out]; exact hq))
        go_wp2_with fail
        exact end_void Tryz.results202 rfl ⟨rfl, l, HR.out.1, HN.out, S1.out, B1.out⟩
      · have HN := hideP (up_next HLn.out HR.out.2.1 (by omega) hjn (by rw [HI.out]; exact hq))
        rw [HI.out] at HN
        have HPm := hideP ((swP_perm (l := l) (i := i) (j := j) (by rw [HLn.out]; omega) (by rw [HLn.out]; omega)).trans HR.out.1)
        have hc1 : w1.cell? ⟨hb, 0, none⟩ = some (.slice (some ⟨g, 0, none⟩) L.length cap) := by rw [← HLn.out]; exact S1.out.box.cell 0 rfl
        have hm2 := meth_swap hc1
        have KS0 := heapSwap g cap i j l w1 S1.out.row (by rw [HLn.out]; omega) (by rw [HLn.out]; omega)
        rw [HLn.out] at KS0
        have KS := hideP KS0
        clear KS0
        go_wp2_with fail
        refine KS.out.mono ?_
        rintro e w2 ⟨rfl, hr2, hg2⟩
        have S2 := hideP (S1.out.swap (swP_len l i j) hr2 hg2)
        have B2 : Hid (Below base w w2) := B1.out.trans (S1.out.bel hg2)
        clear hr2 hg2 hm2 hc1
        go_wp2_with fail
        exact ⟨⟨i, swP l i j, rfl, by omega, by rw [swP_len]; exact HLn.out, HPm.out, HN.out, S2.out, B2.out⟩, by simp [intOf]; omega⟩
end Go.Proofs.YtdgolaaheakfoaaGreatDoor.ctr
