/- Contract of the laws' markReignS: marks are written into a list's own row; nothing else turns. -/
import Derived.Test.YtcdcniniafejbaaDoorRgnHelp
import Derived.Test.YtcdcniniafejbaaDoorRgnPair
import Derived.Test.YtcdcniniafejbaaDoorMarkCtr
namespace Go.Proofs.YtcdcniniafejbaaDoor.ctr
open Go.RowKit

theorem PMov.mono {w w0 w' : World} {v : Value} {xs : List (Int × Int)} (h : PMov w w' v xs) (hb : w0.heap.size ≤ w.heap.size) : PMov w0 w' v xs := by
  obtain ⟨ad, cap, rfl, h | ⟨g, t, zs, rfl, hg, hB⟩⟩ := h
  · exact ⟨ad, cap, rfl, .inl h⟩
  · exact ⟨_, cap, rfl, .inr ⟨g, t, zs, rfl, Nat.le_trans hb hg, hB⟩⟩
theorem own_belR {W W' : World} {g n B : Nat} (h : OwnRow W g n) (hb : Below B W W') (hg : g < B) : OwnRow W' g n := fun j hj => by
  obtain ⟨⟨u, hu⟩, hf⟩ := h j hj
  exact ⟨⟨u, (hb.cell (p := ⟨g, j, none⟩) hg).trans hu⟩, (hb.frozen (p := ⟨g, j, none⟩) hg).trans hf⟩
theorem own_rA {W : World} {g : Nat} {l : List Rgn} {t : TypeId} (h : Blk W g (rA l) t) : OwnRow W g (l.length * 3) := fun j hj => by
  have hs := rA_size l
  exact ⟨⟨(rA l)[j]'(by omega), h.cell j (by simp)⟩, h.thaw j⟩

set_option maxHeartbeats 2000000 in
theorem markRgns (g cap n : Nat) (w : World) (hn : n ≤ 1048576) (hg : g < w.heap.size) (ho : OwnRow w g (n * 3)) :
    Calls Tryd.prog 28 #[.slice (some ⟨g, 0, none⟩) n cap, .int .i64 1] w fun e w' => e = .returned (.int .i64 ((n * 3 + 1 : Nat) : Int)) ∧ w.grownBy w' (some g) := by
  have HO := hideP ho
  clear ho
  go_enter Tryd.func28, Tryd.ntmps28
  go_wp2
  go_loopw [1, 5] (fun t i wr => ∃ k : Nat, k ≤ n ∧ i = .int .i64 (k : Int) ∧ t = .int .i64 ((k * 3 + 1 : Nat) : Int) ∧ w.grownBy wr (some g) ∧ OwnRow wr g (n * 3)) (fun _ i _ => n - (intOf i).toNat)
  case atStart => exact ⟨0, Nat.zero_le _, rfl, rfl, ⟨rfl, rfl, rfl, Nat.le_refl _, fun _ _ _ => rfl⟩, HO.out⟩
  case round =>
    obtain ⟨k, hk, rfl, rfl, hG, hOw⟩ := hrel
    have HG := hideP hG
    have HW := hideP hOw
    clear hG hOw
    by_cases hlt : k < n
    · go_wp2_with fail
      rw [show ((k : Int) * 3 + 1) = ((k * 3 + 1 : Nat) : Int) from by omega]
      refine (markText (k * 3 + 1) _ (by omega) (by omega)).mono ?_
      rintro e w2 ⟨rfl, hb2⟩
      have hgw : g < wr.heap.size := Nat.lt_of_lt_of_le hg HG.out.size
      have hO2 := own_belR HW.out hb2 hgw
      have o1 := own_set hO2 (k * 3) (by omega) (.string (mk (k * 3 + 1)))
      have o2 := own_set o1 (k * 3 + 1) (by omega) (.int .i64 ((k : Int) * 3 + 1 + 1))
      have o3 := own_set o2 (k * 3 + 2) (by omega) (.int .i64 ((k : Int) * 3 + 1 + 1 + 1))
      obtain ⟨⟨u0, h0⟩, f0⟩ := hO2 (k * 3) (by omega)
      obtain ⟨⟨u1, h1⟩, f1⟩ := hO2 (k * 3 + 1) (by omega)
      obtain ⟨⟨u2, h2⟩, f2⟩ := hO2 (k * 3 + 2) (by omega)
      have HO3 := hideP o3
      have HG2 : Hid (w.grownBy w2 (some g)) := mgrown_trans HG.out ⟨hb2.os, hb2.tape, hb2.output, hb2.size, fun j hj _ => hb2.block j hj⟩
      clear hO2 hb2 o1 o2 o3
      go_wp2
      exact ⟨⟨k + 1, by omega, by go_num, by apply congrArg (Value.int .i64); omega, mgrown_trans HG2.out (mgrown_trans (mgrown_trans (mgrown_set _ _ _ _) (mgrown_set _ _ _ _)) (mgrown_set _ _ _ _)), HO3.out⟩, by simp [intOf]; omega⟩
    · have hkn : k = n := by omega
      subst hkn
      go_wp2
      go_ret
      exact ⟨rfl, HG.out⟩
end Go.Proofs.YtcdcniniafejbaaDoor.ctr
