/- The program's search by halves for a day's segment: the closure, sort.Search over it. -/
import Derived.Test.YtaakgidndjoocaaGreatDoorChgA
import Derived.Deep.LoopGhost
namespace Go.Proofs.YtaakgidndjoocaaGreatDoor.ctr
open Go.RowKit

set_option maxHeartbeats 1000000 in
theorem schHas (l : List Seg) (v1 : Value) (n : Int) (k bR bN : Nat) (w : World) (h : IRow segK w v1 l) (hk : k < l.length) (hR : w.cell? ⟨bR, 3, none⟩ = some v1) (hN : w.cell? ⟨bN, 0, none⟩ = some (.int .i64 n)) : Calls Tryz.prog 149 #[.int .i64 (k : Int), .pointer (some ⟨bR, 0, none⟩), .pointer (some ⟨bN, 0, none⟩)] w fun e w' => e = .returned (.bool (decide (n ≤ (atK segK l k).to))) ∧ Below w.heap.size w w' := by
  obtain ⟨a1, c1, rfl, hl, hm, hc⟩ := h
  obtain ⟨g, rfl, hg, x⟩ := hc k hk
  have e1 : ∀ y : Later w, y.w.cell? ⟨g, k * 5 + 1, none⟩ = some (.int .i64 (atK segK l k).to) := fun y => ((x.below y.below hg).seg).2.1
  have eR : ∀ y : Later w, y.w.cell? ⟨bR, 3, none⟩ = some (.slice (some ⟨g, 0, none⟩) l.length c1) := fun y => Later.at hR y
  have eN : ∀ y : Later w, y.w.cell? ⟨bN, 0, none⟩ = some (.int .i64 n) := fun y => Later.at hN y
  have hkz : (k : Int) < (l.length : Int) := by omega
  clear x hc hg hR hN
  generalize atK segK l k = s at *
  go_enter Tryz.func149, Tryz.ntmps149
  go_wp2_with fail
  refine wp_region_later (W := w) (Below.refl _ _) (by kernel_rfl) (by kernel_rfl) ?_
  repeat (go_big_quiet_step (fail))
  refine wpQuiet_nil ?_
  intro _ hw'
  obtain ⟨y, rfl⟩ := hw'
  go_wp2
  go_ret
  exact ⟨rfl, y.below⟩

set_option maxHeartbeats 4000000 in
theorem search (a b : Value) (n : Nat) (p : Nat → Bool) (w : World) (hsz : n ≤ 1000)
    (hf : ∀ x : Later w, ∀ i : Nat, i < n → Calls Tryz.prog 149 #[.int .i64 (i : Int), a, b] x.w fun e w' => e = .returned (.bool (p i)) ∧ Below x.w.heap.size x.w w')
    (hmono : ∀ a b, a ≤ b → b < n → p a = true → p b = true) :
    Calls Tryz.prog 148 #[.int .i64 (n : Int), .func (.func 149) #[] #[a, b]] w fun e w' => ∃ m : Nat, e = .returned (.int .i64 (m : Int)) ∧ m ≤ n ∧ (∀ t, t < m → p t = false) ∧ (∀ t, m ≤ t → t < n → p t = true) ∧ Below w.heap.size w w' := by
  have HF := hideP hf
  have M := hideP hmono
  clear hf hmono
  go_enter Tryz.func148, Tryz.ntmps148
  go_wp2
  go_loopg [5, 6] n (fun kx s5 s6 wr => ∃ (lo hi : Nat), s5 = .int .i64 (lo : Int) ∧ s6 = .int .i64 (hi : Int) ∧ lo ≤ hi ∧ hi ≤ n ∧ hi - lo ≤ kx ∧ (∃ x : Later w, wr = x.w) ∧ Hid ((∀ t, t < lo → p t = false) ∧ (∀ t, hi ≤ t → t < n → p t = true)))
  case atStart => exact ⟨0, n, rfl, rfl, Nat.zero_le _, Nat.le_refl _, by omega, ⟨⟨_, Below.refl _ _⟩, rfl⟩, (⟨fun t ht => absurd ht (Nat.not_lt_zero _), fun t h1 h2 => by omega⟩ : (∀ t, t < 0 → p t = false) ∧ (∀ t, n ≤ t → t < n → p t = true))⟩
  case round =>
    obtain ⟨lo, hi, rfl, rfl, hlh, hin, hg, ⟨x, rfl⟩, I⟩ := hrel
    by_cases hlt : lo < hi
    · have hc := HF.out x ((lo + hi) / 2) (by omega)
      rw [show (((lo + hi) / 2 : Nat) : Int) = ((lo : Int) + (hi : Int)) / 2 by omega] at hc
      cases hp : p ((lo + hi) / 2) <;> rw [hp] at hc
      · have HP := hideP hp
        clear hp
        go_wp2_with (refine hc.mono ?_; rintro e w' ⟨rfl, hb⟩; obtain ⟨x', rfl⟩ := x.next hb; clear hb)
        go_roundg (hi - ((lo + hi) / 2 + 1))
        case measure => omega
        case rel =>
          have I2 : Hid ((∀ t, t < (lo + hi) / 2 + 1 → p t = false) ∧ (∀ t, hi ≤ t → t < n → p t = true)) := ⟨fun t ht => (by
            cases h : p t with
            | false => rfl
            | true => have := M.out t ((lo + hi) / 2) (by omega) (by omega) h; rw [HP.out] at this; cases this), I.out.2⟩
          exact ⟨(lo + hi) / 2 + 1, hi, by rw [show ((lo : Int) + (hi : Int)) / 2 + 1 = (((lo + hi) / 2 + 1 : Nat) : Int) by omega], rfl, by omega, hin, Nat.le_refl _, ⟨x', rfl⟩, I2⟩
      · have HP := hideP hp
        clear hp
        go_wp2_with (refine hc.mono ?_; rintro e w' ⟨rfl, hb⟩; obtain ⟨x', rfl⟩ := x.next hb; clear hb)
        go_roundg ((lo + hi) / 2 - lo)
        case measure => omega
        case rel =>
          have I2 : Hid ((∀ t, t < lo → p t = false) ∧ (∀ t, (lo + hi) / 2 ≤ t → t < n → p t = true)) := ⟨I.out.1, fun t ht htn => M.out ((lo + hi) / 2) t ht htn HP.out⟩
          exact ⟨lo, (lo + hi) / 2, rfl, by rw [show ((lo : Int) + (hi : Int)) / 2 = (((lo + hi) / 2 : Nat) : Int) by omega], by omega, by omega, Nat.le_refl _, ⟨x', rfl⟩, I2⟩
    · obtain rfl : hi = lo := by omega
      go_wp2
      go_ret
      exact ⟨hi, rfl, hin, I.out.1, I.out.2, x.below⟩
end Go.Proofs.YtaakgidndjoocaaGreatDoor.ctr
