/- Contract of the heap's Less: one segment is ahead of another by From, then To, then its number. -/
import Derived.Test.YtioiaefjkmgmdaaGreatDoorHeapCmp
namespace Go.Proofs.YtioiaefjkmgmdaaGreatDoor.ctr
open Go.RowKit

theorem at_two {w W0 : World} {o1 o2 : Obj} (e : W0 = (w.alloc o1).alloc o2) : Below w.heap.size w W0 := by
  rw [e]
  exact ((Below.refl _ _).alloc (Nat.le_refl _) _).alloc (by rw [World.size_alloc]; omega) _
set_option maxHeartbeats 4000000 in
theorem heapLess (g n cap i j : Nat) (a b : PSeg) (w : World) (hg : g < w.heap.size) (hi : i < n) (hj : j < n) (ha : IAt psK w g i a) (hb : IAt psK w g j b) :
    Calls Tryz.prog 298 #[.slice (some ⟨g, 0, none⟩) n cap, .int .i64 (i : Int), .int .i64 (j : Int)] w fun e w' => e = .returned (.bool (ltP a b)) ∧ Below w.heap.size w w' := by
  obtain ⟨a0, a1, a2, a3, a4, a5⟩ := ha.ps
  obtain ⟨b0, b1, b2, b3, b4, b5⟩ := hb.ps
  have HL := hideP (or_lt a b)

  clear ha hb
  go_enter Tryz.func298, Tryz.ntmps298
  go_wp2_with fail
  go_region
  · obtain ⟨W0, hW0⟩ : ∃ W0, W0 = (w.alloc (.cells #[.int .i64 a.s.fr, .int .i64 a.s.to, .int .i64 a.s.cal, .int .i64 a.s.sty, .int .i64 a.s.off, .int .i64 a.at'] 202)).alloc (.cells #[.int .i64 b.s.fr, .int .i64 b.s.to, .int .i64 b.s.cal, .int .i64 b.s.sty, .int .i64 b.s.off, .int .i64 b.at'] 202) := ⟨_, rfl⟩
    have k1 : Blk W0 w.heap.size #[.int .i64 a.s.fr, .int .i64 a.s.to, .int .i64 a.s.cal, .int .i64 a.s.sty, .int .i64 a.s.off, .int .i64 a.at'] 202 := by rw [hW0]; exact (Blk.new w _ _).alloc _
    have k2 : Blk W0 (w.heap.size + 1) #[.int .i64 b.s.fr, .int .i64 b.s.to, .int .i64 b.s.cal, .int .i64 b.s.sty, .int .i64 b.s.off, .int .i64 b.at'] 202 := by rw [hW0]; have := Blk.new (w.alloc (.cells #[.int .i64 a.s.fr, .int .i64 a.s.to, .int .i64 a.s.cal, .int .i64 a.s.sty, .int .i64 a.s.off, .int .i64 a.at'] 202)) #[.int .i64 b.s.fr, .int .i64 b.s.to, .int .i64 b.s.cal, .int .i64 b.s.sty, .int .i64 b.s.off, .int .i64 b.at'] 202; rw [World.size_alloc] at this; exact this
    have HB := hideP (at_two hW0)
    have c0 : ∀ x : Later W0, x.w.cell? ⟨w.heap.size, 0, none⟩ = some (.int .i64 a.s.fr) := fun x => (k1.later x).cell 0 rfl
    have c1 : ∀ x : Later W0, x.w.cell? ⟨w.heap.size, 1, none⟩ = some (.int .i64 a.s.to) := fun x => (k1.later x).cell 1 rfl
    have c5 : ∀ x : Later W0, x.w.cell? ⟨w.heap.size, 5, none⟩ = some (.int .i64 a.at') := fun x => (k1.later x).cell 5 rfl
    have d0 : ∀ x : Later W0, x.w.cell? ⟨w.heap.size + 1, 0, none⟩ = some (.int .i64 b.s.fr) := fun x => (k2.later x).cell 0 rfl
    have d1 : ∀ x : Later W0, x.w.cell? ⟨w.heap.size + 1, 1, none⟩ = some (.int .i64 b.s.to) := fun x => (k2.later x).cell 1 rfl
    have d5 : ∀ x : Later W0, x.w.cell? ⟨w.heap.size + 1, 5, none⟩ = some (.int .i64 b.at') := fun x => (k2.later x).cell 5 rfl
    rw [← hW0]
    clear k1 k2 hW0 a0 a1 a2 a3 a4 a5 b0 b1 b2 b3 b4 b5
    go_wp2_with fail
    obtain ⟨xd, hxd⟩ : ∃ xd : Later W0, W0.drew.drew = xd.w := ⟨⟨_, (Below.refl _ _).drew.drew⟩, rfl⟩
    refine wp_region_any (by kernel_rfl) ?_
    change wpAny _ _ _ _ (4 + 19) _ _ _
    refine any_prefix (C := fun w' => ∃ x : Later W0, w' = x.w) 19 4 (by decide) (by kernel_rfl) (by kernel_rfl) (by kernel_rfl) (by kernel_rfl) (by kernel_rfl) ⟨xd, hxd⟩ ?_
    simp only [List.take_succ_cons, List.take_zero]
    clear hxd xd
    repeat (go_big_quiet_step (first | (go_at_call 175; exact calls_same (cmpCmp _ _ _))))
    refine wpQuiet_nil ?_
    intro _ hw'
    obtain ⟨x5, rfl⟩ := hw'
    generalize hx : cmpI a.s.fr b.s.fr = x at *
    generalize hy : cmpI a.s.to b.s.to = y at *
    generalize hz : cmpI a.at' b.at' = z at *
    have HX := hideP hx
    have HY := hideP hy
    have HZ := hideP hz
    clear hx hy hz
    refine wpAny_ready (rs := [19]) (by kernel_rfl) (by simp) ?_
    refine AllReady.cons rfl (fun K hK => ?_) AllReady.nil
    go_simp
    refine hK _ _ ?_
    clear hK K
    refine wpAny_ready (rs := [20]) (by kernel_rfl) (by simp) ?_
    refine AllReady.cons rfl (fun K hK => ?_) AllReady.nil
    go_simp
    refine (cmpOr x y z x5.w.heap.size _ (by simp) (by simp) (by simp)).mono ?_
    rintro e w6 ⟨rfl, rfl⟩
    refine hK _ _ ?_
    clear hK K
    refine wpAny_ready (rs := [21]) (by kernel_rfl) (by simp) ?_
    refine AllReady.cons rfl (fun K hK => ?_) AllReady.nil
    go_simp
    refine hK _ _ ?_
    clear hK K
    refine wpAny_ready (rs := [22]) (by kernel_rfl) (by simp) ?_
    refine AllReady.cons rfl (fun K hK => ?_) AllReady.nil
    go_simp
    refine hK _ _ ?_
    clear hK K
    refine wpAny_done (by kernel_rfl) ?_ _
    go_wp2_with fail
    go_ret
    exact ⟨ret_bool HL.out, HB.out.trans ((x5.below.alloc (by exact x5.below.size) _).mono HB.out.size)⟩
  · obtain ⟨W0, hW0⟩ : ∃ W0, W0 = (w.alloc (.cells #[.int .i64 b.s.fr, .int .i64 b.s.to, .int .i64 b.s.cal, .int .i64 b.s.sty, .int .i64 b.s.off, .int .i64 b.at'] 202)).alloc (.cells #[.int .i64 a.s.fr, .int .i64 a.s.to, .int .i64 a.s.cal, .int .i64 a.s.sty, .int .i64 a.s.off, .int .i64 a.at'] 202) := ⟨_, rfl⟩
    have k1 : Blk W0 w.heap.size #[.int .i64 b.s.fr, .int .i64 b.s.to, .int .i64 b.s.cal, .int .i64 b.s.sty, .int .i64 b.s.off, .int .i64 b.at'] 202 := by rw [hW0]; exact (Blk.new w _ _).alloc _
    have k2 : Blk W0 (w.heap.size + 1) #[.int .i64 a.s.fr, .int .i64 a.s.to, .int .i64 a.s.cal, .int .i64 a.s.sty, .int .i64 a.s.off, .int .i64 a.at'] 202 := by rw [hW0]; have := Blk.new (w.alloc (.cells #[.int .i64 b.s.fr, .int .i64 b.s.to, .int .i64 b.s.cal, .int .i64 b.s.sty, .int .i64 b.s.off, .int .i64 b.at'] 202)) #[.int .i64 a.s.fr, .int .i64 a.s.to, .int .i64 a.s.cal, .int .i64 a.s.sty, .int .i64 a.s.off, .int .i64 a.at'] 202; rw [World.size_alloc] at this; exact this
    have HB := hideP (at_two hW0)
    have c0 : ∀ x : Later W0, x.w.cell? ⟨w.heap.size, 0, none⟩ = some (.int .i64 b.s.fr) := fun x => (k1.later x).cell 0 rfl
    have c1 : ∀ x : Later W0, x.w.cell? ⟨w.heap.size, 1, none⟩ = some (.int .i64 b.s.to) := fun x => (k1.later x).cell 1 rfl
    have c5 : ∀ x : Later W0, x.w.cell? ⟨w.heap.size, 5, none⟩ = some (.int .i64 b.at') := fun x => (k1.later x).cell 5 rfl
    have d0 : ∀ x : Later W0, x.w.cell? ⟨w.heap.size + 1, 0, none⟩ = some (.int .i64 a.s.fr) := fun x => (k2.later x).cell 0 rfl
    have d1 : ∀ x : Later W0, x.w.cell? ⟨w.heap.size + 1, 1, none⟩ = some (.int .i64 a.s.to) := fun x => (k2.later x).cell 1 rfl
    have d5 : ∀ x : Later W0, x.w.cell? ⟨w.heap.size + 1, 5, none⟩ = some (.int .i64 a.at') := fun x => (k2.later x).cell 5 rfl
    rw [← hW0]
    clear k1 k2 hW0 a0 a1 a2 a3 a4 a5 b0 b1 b2 b3 b4 b5
    go_wp2_with fail
    obtain ⟨xd, hxd⟩ : ∃ xd : Later W0, W0.drew.drew = xd.w := ⟨⟨_, (Below.refl _ _).drew.drew⟩, rfl⟩
    refine wp_region_any (by kernel_rfl) ?_
    change wpAny _ _ _ _ (4 + 19) _ _ _
    refine any_prefix (C := fun w' => ∃ x : Later W0, w' = x.w) 19 4 (by decide) (by kernel_rfl) (by kernel_rfl) (by kernel_rfl) (by kernel_rfl) (by kernel_rfl) ⟨xd, hxd⟩ ?_
    simp only [List.take_succ_cons, List.take_zero]
    clear hxd xd
    repeat (go_big_quiet_step (first | (go_at_call 175; exact calls_same (cmpCmp _ _ _))))
    refine wpQuiet_nil ?_
    intro _ hw'
    obtain ⟨x5, rfl⟩ := hw'
    generalize hx : cmpI a.s.fr b.s.fr = x at *
    generalize hy : cmpI a.s.to b.s.to = y at *
    generalize hz : cmpI a.at' b.at' = z at *
    have HX := hideP hx
    have HY := hideP hy
    have HZ := hideP hz
    clear hx hy hz
    refine wpAny_ready (rs := [19]) (by kernel_rfl) (by simp) ?_
    refine AllReady.cons rfl (fun K hK => ?_) AllReady.nil
    go_simp
    refine hK _ _ ?_
    clear hK K
    refine wpAny_ready (rs := [20]) (by kernel_rfl) (by simp) ?_
    refine AllReady.cons rfl (fun K hK => ?_) AllReady.nil
    go_simp
    refine (cmpOr x y z x5.w.heap.size _ (by simp) (by simp) (by simp)).mono ?_
    rintro e w6 ⟨rfl, rfl⟩
    refine hK _ _ ?_
    clear hK K
    refine wpAny_ready (rs := [21]) (by kernel_rfl) (by simp) ?_
    refine AllReady.cons rfl (fun K hK => ?_) AllReady.nil
    go_simp
    refine hK _ _ ?_
    clear hK K
    refine wpAny_ready (rs := [22]) (by kernel_rfl) (by simp) ?_
    refine AllReady.cons rfl (fun K hK => ?_) AllReady.nil
    go_simp
    refine hK _ _ ?_
    clear hK K
    refine wpAny_done (by kernel_rfl) ?_ _
    go_wp2_with fail
    go_ret
    exact ⟨ret_bool HL.out, HB.out.trans ((x5.below.alloc (by exact x5.below.size) _).mono HB.out.size)⟩
end Go.Proofs.YtioiaefjkmgmdaaGreatDoor.ctr
