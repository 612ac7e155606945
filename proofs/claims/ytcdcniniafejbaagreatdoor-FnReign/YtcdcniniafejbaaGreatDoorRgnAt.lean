/- Contracts of both ReignAt and of the program's hasDay: the number of the first reign that has the day, -1 for none. -/
import Derived.Test.YtcdcniniafejbaaGreatDoorRgnList
import Derived.Deep.RegionWith
namespace Go.Proofs.YtcdcniniafejbaaGreatDoor.ctr
open Go.RowKit

def atR (l : List Rgn) (n : Int) : Int := rfind (hasD n) l
theorem implHasDay (s : ByteArray) (f t n : Int) (w : World) : Calls Tryz.prog 37 #[.agg #[.string s, .int .i64 f, .int .i64 t], .int .i64 n] w fun e w' => e = .returned (.bool (inB n f t)) ∧ Below w.heap.size w w' := by
  by_cases h1 : f ≤ n
  · by_cases h2 : n ≤ t
    · rw [inB_true h1 h2]
      go_enter Tryz.func37, Tryz.ntmps37
      go_wp2
      go_ret
      exact ⟨rfl, (Below.refl _ _).alloc (Nat.le_refl _) _⟩
    · rw [inB_false (.inr (by omega))]
      have hd : decide (n ≤ t) = false := decide_eq_false h2
      go_enter Tryz.func37, Tryz.ntmps37
      go_wp2
      go_ret
      exact ⟨rfl, (Below.refl _ _).alloc (Nat.le_refl _) _⟩
  · rw [inB_false (.inl (by omega))]
    have hd : decide (f ≤ n) = false := decide_eq_false h1
    go_enter Tryz.func37, Tryz.ntmps37
    go_wp2
    go_ret
    exact ⟨rfl, (Below.refl _ _).alloc (Nat.le_refl _) _⟩

set_option maxHeartbeats 1000000 in
theorem implReignAt (v : Value) (l : List Rgn) (n : Int) (w : World) (h : RRow w v l) : Calls Tryz.prog 23 #[v, .int .i64 n] w fun e w' => e = .returned (.int .i64 (atR l n)) ∧ Below w.heap.size w w' := by
  obtain ⟨a, c, rfl, hl, hm, _, H⟩ := h
  have K := hideP H
  unfold maxLen at hm
  clear H
  go_enter Tryz.func23, Tryz.ntmps23
  go_wp2
  go_loopw [9] (fun i wr => ∃ k : Nat, k ≤ l.length ∧ i = .int .i64 (k : Int) ∧ Hid (rfFrom (hasD n) (l.drop k) k = atR l n) ∧ Below w.heap.size w wr) (fun i _ => l.length - (intOf i).toNat)
  case atStart => exact ⟨0, Nat.zero_le _, rfl, rfl, Below.refl _ _⟩
  case round =>
    obtain ⟨k, hk, rfl, HF, hB⟩ := hrel
    have HB := hideP hB
    clear hB
    by_cases hlt : k < l.length
    · obtain ⟨g, rfl, hg, x⟩ := K.out k hlt
      obtain ⟨a0, a1, a2⟩ := x.below HB.out hg
      have K1 := hideP (fun h => rf_hit (p := hasD n) hlt h HF.out)
      have K2 := hideP (fun h => rf_miss (p := hasD n) hlt h HF.out)
      clear x
      generalize rgA l k = r at *
      have HD : Hid (hasD n r = inB n r.fr r.to) := rfl
      go_wp2_with fail
      refine (implHasDay _ _ _ _ _).mono ?_
      rintro e w1 ⟨rfl, hb⟩
      have HB1 : Hid (Below w.heap.size w w1) := HB.out.trans ((below_alloc hb).mono HB.out.size)
      clear hb a0 a1 a2
      cases hq : inB n r.fr r.to
      · have HN := hideP (K2.out (HD.out.trans hq))
        go_wp2
        exact ⟨⟨k + 1, by omega, by go_num, HN.out, HB1.out⟩, by simp [intOf]; omega⟩
      · have HN := hideP (K1.out (HD.out.trans hq))
        go_wp2
        go_ret
        exact ⟨ret_int HN.out.symm, HB1.out⟩
    · have HN := hideP (rf_end (by omega) HF.out)
      go_wp2
      go_ret
      exact ⟨ret_int HN.out.symm, HB.out⟩

set_option maxHeartbeats 1000000 in
theorem specReignAt (v : Value) (l : List Rgn) (n : Int) (w : World) (h : RRow w v l) : Calls Tryz.prog 24 #[v, .int .i64 n] w fun e w' => e = .returned (.int .i64 (atR l n)) ∧ Below w.heap.size w w' := by
  obtain ⟨a, c, rfl, hl, hm, _, H⟩ := h
  have K := hideP H
  unfold maxLen at hm
  clear H
  go_enter Tryz.func24, Tryz.ntmps24
  go_wp2
  go_loopw [5] (fun i wr => ∃ k : Nat, k ≤ l.length ∧ i = .int .i64 (k : Int) ∧ Hid (rfFrom (hasD n) (l.drop k) k = atR l n) ∧ Below w.heap.size w wr) (fun i _ => l.length - (intOf i).toNat)
  case atStart => exact ⟨0, Nat.zero_le _, rfl, rfl, Below.refl _ _⟩
  case round =>
    obtain ⟨k, hk, rfl, HF, hB⟩ := hrel
    have HB := hideP hB
    clear hB
    by_cases hlt : k < l.length
    · obtain ⟨g, rfl, hg, x⟩ := K.out k hlt
      have a1 : ∀ y : Later w, y.w.cell? ⟨g, k * 3 + 1, none⟩ = some (.int .i64 (rgA l k).fr) := fun y => (x.below y.below hg).2.1
      have a2 : ∀ y : Later w, y.w.cell? ⟨g, k * 3 + 2, none⟩ = some (.int .i64 (rgA l k).to) := fun y => (x.below y.below hg).2.2
      have K1 := hideP (fun h => rf_hit (p := hasD n) hlt h HF.out)
      have K2 := hideP (fun h => rf_miss (p := hasD n) hlt h HF.out)
      clear x
      generalize rgA l k = r at *
      have HD : Hid (hasD n r = inB n r.fr r.to) := rfl
      have KI : ∀ y : Later w, Calls Tryz.prog 58 #[.int .i64 n, .int .i64 r.fr, .int .i64 r.to] y.w fun e w' => e = .returned (.bool (inB n r.fr r.to)) ∧ w' = y.w := fun y => l01In _ _ _ y.w
      generalize inB n r.fr r.to = b at *
      go_wp2_with fail
      refine wp_region_later (W := w) HB.out (by kernel_rfl) (by kernel_rfl) ?_
      repeat (go_big_quiet_step (first | (go_at_call 58; exact calls_same (KI _)) | fail))
      refine wpQuiet_nil ?_
      intro _ hw'
      obtain ⟨x, rfl⟩ := hw'
      cases b
      · have HN := hideP (K2.out HD.out)
        go_wp2
        exact ⟨⟨k + 1, by omega, by go_num, HN.out, x.below⟩, by simp [intOf]; omega⟩
      · have HN := hideP (K1.out HD.out)
        go_wp2
        go_ret
        exact ⟨ret_int HN.out.symm, x.below⟩
    · have HN := hideP (rf_end (by omega) HF.out)
      go_wp2
      go_ret
      exact ⟨ret_int HN.out.symm, HB.out⟩
end Go.Proofs.YtcdcniniafejbaaGreatDoor.ctr
