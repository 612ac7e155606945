/- Contracts of both FindFeast: the first feast's number that has the name, -1 for none. -/
import Derived.Test.YtoofnjccpoeomaaGreatDoorFeaImpl2
namespace Go.Proofs.YtoofnjccpoeomaaGreatDoor.ctr
open Go.RowKit

set_option maxHeartbeats 1000000 in
theorem specFind (s : ByteArray) (w : World) : Calls Tryz.prog 42 #[.string s] w fun e w' => e = .returned (.int .i64 (findFeast s)) ∧ Below w.heap.size w w' := by
  go_enter Tryz.func42, Tryz.ntmps42
  go_wp2_with fail
  refine (specFeasts _).mono ?_
  rintro e W1 ⟨v, rfl, hr, hb⟩
  obtain ⟨g, cap, rfl, hg, hc⟩ := hr.row
  have HC := hideP hc
  have HB := hideP hb
  clear hr hc hb
  go_wp2
  go_loopw [4] (fun i wr => ∃ k : Nat, k ≤ 20 ∧ i = .int .i64 (k : Int) ∧ Hid (findFrom s (feasts.drop k) k = findFeast s) ∧ W1 = wr) (fun i _ => 20 - (intOf i).toNat)
  case atStart => exact ⟨0, Nat.zero_le _, rfl, rfl, rfl⟩
  case round =>
    obtain ⟨k, hk, rfl, HF, rfl⟩ := hrel
    by_cases hlt : k < 20
    · have c0 := HC.out k hlt 0 (by omega)
      have K1 := hideP (fun h => find_hit hlt h HF.out)
      have K2 := hideP (fun h => find_miss hlt h HF.out)
      have hsz := feaAt_size0 ⟨k, hlt⟩
      dsimp only at hsz
      generalize feaAt k = f at *
      obtain ⟨n, mv, o, m, d⟩ := f
      simp only [Fea.cs, List.getElem?_cons_zero, Nat.add_zero] at c0
      cases hq : (n.toList == s.toList)
      · have HN := hideP (K2.out (str_ne hq))
        go_wp2
        exact ⟨⟨k + 1, by omega, by go_num, HN.out, by first | rfl | trivial⟩, by simp [intOf]; omega⟩
      · have HN := hideP (K1.out (str_eq hq))
        go_wp2
        go_ret
        exact ⟨ret_int HN.out.symm, HB.out⟩
    · have HN := hideP (find_end (by omega) HF.out)
      go_wp2
      go_ret
      exact ⟨ret_int HN.out.symm, HB.out⟩

set_option maxHeartbeats 1000000 in
theorem implFind (s : ByteArray) (w : World) : Calls Tryz.prog 72 #[.string s] w fun e w' => e = .returned (.int .i64 (findFeast s)) ∧ Below w.heap.size w w' := by
  go_enter Tryz.func72, Tryz.ntmps72
  go_wp2_with fail
  refine (implFeasts _).mono ?_
  rintro e W1 ⟨v, rfl, hr, hb⟩
  obtain ⟨g, cap, rfl, hg, hc⟩ := hr.row
  have HC := hideP hc
  have HB := hideP hb
  clear hr hc hb
  go_wp2
  go_loopw [7] (fun i wr => ∃ k : Nat, k ≤ 20 ∧ i = .int .i64 (k : Int) ∧ Hid (findFrom s (feasts.drop k) k = findFeast s) ∧ Below W1.heap.size W1 wr) (fun i _ => 20 - (intOf i).toNat)
  case atStart => exact ⟨0, Nat.zero_le _, rfl, rfl, Below.refl _ _⟩
  case round =>
    obtain ⟨k, hk, rfl, HF, hBr⟩ := hrel
    have HR := hideP hBr
    clear hBr
    by_cases hlt : k < 20
    · have c0 := (HR.out.cell (p := ⟨g, k * 5 + 0, none⟩) hg).trans (HC.out k hlt 0 (by omega))
      have c1 := (HR.out.cell (p := ⟨g, k * 5 + 1, none⟩) hg).trans (HC.out k hlt 1 (by omega))
      have c2 := (HR.out.cell (p := ⟨g, k * 5 + 2, none⟩) hg).trans (HC.out k hlt 2 (by omega))
      have c3 := (HR.out.cell (p := ⟨g, k * 5 + 3, none⟩) hg).trans (HC.out k hlt 3 (by omega))
      have c4 := (HR.out.cell (p := ⟨g, k * 5 + 4, none⟩) hg).trans (HC.out k hlt 4 (by omega))
      have K1 := hideP (fun h => find_hit hlt h HF.out)
      have K2 := hideP (fun h => find_miss hlt h HF.out)
      have hsz := feaAt_size0 ⟨k, hlt⟩
      dsimp only at hsz
      generalize feaAt k = f at *
      obtain ⟨n, mv, o, m, d⟩ := f
      simp only [Fea.cs, List.getElem?_cons_zero, List.getElem?_cons_succ, Nat.add_zero] at c0 c1 c2 c3 c4
      cases hq : (n.toList == s.toList)
      · have HN := hideP (K2.out (str_ne hq))
        go_wp2
        exact ⟨⟨k + 1, by omega, by go_num, HN.out, HR.out.alloc HR.out.size _⟩, by simp [intOf]; omega⟩
      · have HN := hideP (K1.out (str_eq hq))
        go_wp2
        go_ret
        exact ⟨ret_int HN.out.symm, HB.out.trans ((HR.out.alloc HR.out.size _).mono HB.out.size)⟩
    · have HN := hideP (find_end (by omega) HF.out)
      go_wp2
      go_ret
      exact ⟨ret_int HN.out.symm, HB.out.trans (HR.out.mono HB.out.size)⟩
end Go.Proofs.YtoofnjccpoeomaaGreatDoor.ctr
