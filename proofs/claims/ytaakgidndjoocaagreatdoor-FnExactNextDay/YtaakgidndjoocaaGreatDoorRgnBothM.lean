/- Contracts of the program's isInBoth, endsOk, reignOk, isBehind and reignNamed, and of the model's l08Dated: each answers its plain function. -/
import Derived.Test.YtaakgidndjoocaaGreatDoorRgnA
import Derived.Test.YtaakgidndjoocaaGreatDoorSolB
import Derived.Deep.RegionWith
namespace Go.Proofs.YtaakgidndjoocaaGreatDoor.ctr
open Go.RowKit

/-- Both calendars have a date for the day. -/
noncomputable def bothB (n : Int) : Bool := (dateOf 0 n).2.2.2.2 && (dateOf 1 n).2.2.2.2
noncomputable def endsB (f t : Int) : Bool := bothB f && bothB t
noncomputable def rgnB (r : Rgn) : Bool := nameOk r.name && (decide (r.fr ≤ r.to) && endsB r.fr r.to)
theorem both_bound {n : Int} (h : bothB n = true) : -1000 ≤ n ∧ n ≤ 1200000 := by
  unfold bothB at h
  by_cases g : ((0 : Int) = 0 ∨ (0 : Int) = 1) ∧ 1 ≤ yearOf 0 n ∧ yearOf 0 n ≤ 3000 ∧ -1000 ≤ n ∧ n ≤ 1200000
  · exact g.2.2.2
  · have := dateOf_no (c := 0) (n := n) g
    rw [this] at h
    cases h
/-- A world with a reign's block at its end, and what comes behind it. -/
theorem rgn_box (w : World) (s : ByteArray) (f t : Int) (T : TypeId) : ∃ W0, W0 = w.alloc (.cells #[.string s, .int .i64 f, .int .i64 t] T) ∧ (∀ x : Later W0, x.w.cell? ⟨w.heap.size, 0, none⟩ = some (.string s)) ∧ (∀ x : Later W0, x.w.cell? ⟨w.heap.size, 1, none⟩ = some (.int .i64 f)) ∧ (∀ x : Later W0, x.w.cell? ⟨w.heap.size, 2, none⟩ = some (.int .i64 t)) ∧ ∀ x : Later W0, Below w.heap.size w x.w :=
  ⟨_, rfl, Later.new rfl 0 rfl, Later.new rfl 1 rfl, Later.new rfl 2 rfl, fun x => below_alloc x.below⟩

set_option maxHeartbeats 1000000 in
theorem implBoth (n : Int) (w : World) (hT : Tab w) : Calls Tryz.prog 279 #[.int .i64 n] w fun e w' => e = .returned (.bool (bothB n)) ∧ Below w.heap.size w w' := by
  rcases h0 : dateOf 0 n with ⟨a0, y0, m0, d0, b0⟩
  rcases h1 : dateOf 1 n with ⟨a1, y1, m1, d1, b1⟩
  have K0 : ∀ W, Below w.heap.size w W → Calls Tryz.prog 99 #[.int .i64 0, .int .i64 n] W fun e w' => e = .returned (.tuple #[.agg #[.int .i64 a0, .int .i64 y0, .int .i64 m0, .int .i64 d0], .bool b0]) ∧ Below W.heap.size W w' := fun W hb => by
    have := implDateOf 0 n W (hT.later hb)
    unfold dateR at this
    rw [h0] at this
    exact this
  have K1 : ∀ W, Below w.heap.size w W → Calls Tryz.prog 99 #[.int .i64 1, .int .i64 n] W fun e w' => e = .returned (.tuple #[.agg #[.int .i64 a1, .int .i64 y1, .int .i64 m1, .int .i64 d1], .bool b1]) ∧ Below W.heap.size W w' := fun W hb => by
    have := implDateOf 1 n W (hT.later hb)
    unfold dateR at this
    rw [h1] at this
    exact this
  have HR : Hid (bothB n = (b0 && b1)) := by unfold Hid bothB; rw [h0, h1]
  clear h0 h1 hT
  go_enter Tryz.func279, Tryz.ntmps279
  go_wp2_with fail
  refine (K0 _ (Below.refl _ _)).mono ?_
  rintro e w1 ⟨rfl, hb⟩
  have B1 := hideP hb
  clear hb
  go_wp2_with fail
  refine (K1 _ (B1.out.alloc B1.out.size _)).mono ?_
  rintro e w2 ⟨rfl, hb⟩
  have B2 : Hid (Below w.heap.size w w2) := B1.out.trans ((below_alloc hb).mono B1.out.size)
  clear hb
  cases b0
  · go_wp2
    go_ret
    exact ⟨by rw [HR.out]; rfl, B2.out.alloc B2.out.size _⟩
  · go_wp2
    go_ret
    exact ⟨by rw [HR.out]; rfl, B2.out.alloc B2.out.size _⟩

set_option maxHeartbeats 1000000 in
theorem specDated (n : Int) (w : World) : Calls Tryz.prog 139 #[.int .i64 n] w fun e w' => e = .returned (.bool (bothB n)) ∧ Below w.heap.size w w' := by
  rcases h0 : dateOf 0 n with ⟨a0, y0, m0, d0, b0⟩
  rcases h1 : dateOf 1 n with ⟨a1, y1, m1, d1, b1⟩
  have K0 : ∀ W, Calls Tryz.prog 86 #[.int .i64 0, .int .i64 n] W fun e w' => e = .returned (.tuple #[.agg #[.int .i64 a0, .int .i64 y0, .int .i64 m0, .int .i64 d0], .bool b0]) ∧ Below W.heap.size W w' := fun W => by
    have := specDateOf 0 n W
    unfold dateR at this
    rw [h0] at this
    exact this
  have K1 : ∀ W, Calls Tryz.prog 86 #[.int .i64 1, .int .i64 n] W fun e w' => e = .returned (.tuple #[.agg #[.int .i64 a1, .int .i64 y1, .int .i64 m1, .int .i64 d1], .bool b1]) ∧ Below W.heap.size W w' := fun W => by
    have := specDateOf 1 n W
    unfold dateR at this
    rw [h1] at this
    exact this
  have HR : Hid (bothB n = (b0 && b1)) := by unfold Hid bothB; rw [h0, h1]
  clear h0 h1
  go_enter Tryz.func139, Tryz.ntmps139
  go_wp2_with fail
  refine (K0 _).mono ?_
  rintro e w1 ⟨rfl, hb⟩
  have B1 := hideP hb
  clear hb
  go_wp2_with fail
  refine (K1 _).mono ?_
  rintro e w2 ⟨rfl, hb⟩
  have B2 : Hid (Below w.heap.size w w2) := B1.out.trans ((below_alloc hb).mono B1.out.size)
  clear hb
  cases b0
  · go_wp2
    go_ret
    exact ⟨by rw [HR.out]; rfl, B2.out.alloc B2.out.size _⟩
  · go_wp2
    go_ret
    exact ⟨by rw [HR.out]; rfl, B2.out.alloc B2.out.size _⟩

set_option maxHeartbeats 1000000 in
theorem implEnds (s : ByteArray) (f t : Int) (w : World) (hT : Tab w) : Calls Tryz.prog 256 #[.agg #[.string s, .int .i64 f, .int .i64 t]] w fun e w' => e = .returned (.bool (endsB f t)) ∧ Below w.heap.size w w' := by
  obtain ⟨W0, hW0, c0, c1, c2, hBl⟩ := rgn_box w s f t 125
  have HW0 := hideP hW0
  have HBl := hideP hBl
  have K1 : ∀ x : Later W0, Calls Tryz.prog 279 #[.int .i64 f] x.w fun e w' => e = .returned (.bool (bothB f)) ∧ Below x.w.heap.size x.w w' := fun x => implBoth f x.w (hT.later (hBl x))
  have K2 : ∀ x : Later W0, Calls Tryz.prog 279 #[.int .i64 t] x.w fun e w' => e = .returned (.bool (bothB t)) ∧ Below x.w.heap.size x.w w' := fun x => implBoth t x.w (hT.later (hBl x))
  unfold endsB
  clear hW0 hBl hT
  generalize bothB f = b1 at *
  generalize bothB t = b2 at *
  cases b1
  · go_enter Tryz.func256, Tryz.ntmps256
    go_wp2_with fail
    rw [← HW0.out]
    refine (K1 ⟨W0, Below.refl _ _⟩).mono ?_
    rintro e w1 ⟨rfl, hb⟩
    obtain ⟨x1, rfl⟩ := Later.of hb
    clear hb
    go_wp2
    go_ret
    exact ⟨rfl, HBl.out x1⟩
  · go_enter Tryz.func256, Tryz.ntmps256
    go_wp2_with fail
    rw [← HW0.out]
    refine (K1 ⟨W0, Below.refl _ _⟩).mono ?_
    rintro e w1 ⟨rfl, hb⟩
    obtain ⟨x1, rfl⟩ := Later.of hb
    clear hb
    go_wp2_with fail
    refine (K2 x1).mono ?_
    rintro e w2 ⟨rfl, hb⟩
    obtain ⟨x2, rfl⟩ := x1.next hb
    clear hb
    go_wp2
    go_ret
    exact ⟨rfl, HBl.out x2⟩

theorem same_belowR {W w' : World} (h : w' = W) : Below W.heap.size W w' := by rw [h]; exact Below.refl _ _
set_option maxHeartbeats 1000000 in
theorem implReignOk (s : ByteArray) (f t : Int) (w : World) (hs : s.size ≤ maxLen) (hT : Tab w) : Calls Tryz.prog 202 #[.agg #[.string s, .int .i64 f, .int .i64 t]] w fun e w' => e = .returned (.bool (rgnB ⟨s, f, t⟩)) ∧ Below w.heap.size w w' := by
  obtain ⟨W0, hW0, c0, c1, c2, hBl⟩ := rgn_box w s f t 125
  have HW0 := hideP hW0
  have HBl := hideP hBl
  have KN : ∀ x : Later W0, Calls Tryz.prog 92 #[.string s] x.w fun e w' => e = .returned (.bool (nameOk s)) ∧ Below x.w.heap.size x.w w' := fun x => (implNameOk s x.w hs).mono fun _ _ h => ⟨h.1, same_belowR h.2⟩
  have KE : ∀ x : Later W0, Calls Tryz.prog 256 #[.agg #[.string s, .int .i64 f, .int .i64 t]] x.w fun e w' => e = .returned (.bool (endsB f t)) ∧ Below x.w.heap.size x.w w' := fun x => implEnds s f t x.w (hT.later (hBl x))
  unfold rgnB
  dsimp only
  clear hW0 hBl hT hs
  generalize nameOk s = b1 at *
  generalize endsB f t = b2 at *
  cases b1
  · go_enter Tryz.func202, Tryz.ntmps202
    go_wp2_with fail
    rw [← HW0.out]
    refine (KN ⟨W0, Below.refl _ _⟩).mono ?_
    rintro e w1 ⟨rfl, hb⟩
    obtain ⟨x1, rfl⟩ := Later.of hb
    clear hb
    go_wp2
    go_ret
    exact ⟨rfl, HBl.out x1⟩
  rw [Bool.true_and]
  by_cases hft : f ≤ t
  · have hd : decide (f ≤ t) = true := decide_eq_true hft
    go_enter Tryz.func202, Tryz.ntmps202
    go_wp2_with fail
    rw [← HW0.out]
    refine (KN ⟨W0, Below.refl _ _⟩).mono ?_
    rintro e w1 ⟨rfl, hb⟩
    obtain ⟨x1, rfl⟩ := Later.of hb
    clear hb
    go_wp2_with fail
    refine (KE x1).mono ?_
    rintro e w2 ⟨rfl, hb⟩
    obtain ⟨x2, rfl⟩ := x1.next hb
    clear hb
    go_wp2
    go_ret
    exact ⟨by simp [hft], HBl.out x2⟩
  · have hd : decide (f ≤ t) = false := decide_eq_false hft
    go_enter Tryz.func202, Tryz.ntmps202
    go_wp2_with fail
    rw [← HW0.out]
    refine (KN ⟨W0, Below.refl _ _⟩).mono ?_
    rintro e w1 ⟨rfl, hb⟩
    obtain ⟨x1, rfl⟩ := Later.of hb
    clear hb
    go_wp2
    go_ret
    exact ⟨by rw [decide_eq_false (show ¬ f ≤ t by omega)]; rfl, HBl.out x1⟩
end Go.Proofs.YtaakgidndjoocaaGreatDoor.ctr
