/- Contract of strings.SplitN at a hyphen and four: a new list of the parts, or of four where there are more. No word on the library's own tables. -/
import Derived.Test.YtioiaefjkmgmdaaDoorSplPlain
import Derived.Test.YtioiaefjkmgmdaaDoorCutByte
import Derived.Test.YtioiaefjkmgmdaaDoorBlkKit
namespace Go.Proofs.YtioiaefjkmgmdaaDoor.ctr
open Go.RowKit

theorem make_str (n : Nat) (hn : n ≤ 4) (W : World) : (Instr.makeSlice 35 (.int .i64 (n : Int)) (.int .i64 (n : Int))).run Tryd.prog W = .ok (.slice (some ⟨W.heap.size, 0, none⟩) n n) (W.alloc (.cells (madeCells #[.string ⟨#[]⟩] n) 9)) := by
  obtain ⟨i0, hi, e⟩ := Option.map_eq_some_iff.1 info_str
  simp only [Prod.mk.injEq] at e
  obtain ⟨hz, hs, hb⟩ := e
  have h := run_make (P := Tryd.prog) W 35 9 i0 _ Tryd.underlying35 hi hz .i64 .i64 (n : Int) (n : Int) (by omega) (by omega) (by rw [hb]; omega) (by omega)
  rw [hs] at h
  simp only [Int.toNat_natCast, Nat.mul_one] at h
  exact h
theorem run_ahead0 (s : ByteArray) (p : Nat) (hp : p < s.size) (w : World) : (Instr.slice 9 (.string s) none (some (.int .i64 (p : Int))) none).run Tryd.prog w = .ok (.string (s.extract 0 p)) w := run_ahead s p hp w
theorem implIndex (s : ByteArray) (g : UInt8) (w : World) : Calls Tryd.prog 38 #[.string s, .string ⟨#[g]⟩] w fun e w' => e = .returned (.int .i64 (Lib.indexByte s.data.toList g)) ∧ w' = w := by
  go_enter Tryd.func38, Tryd.ntmps38
  go_wp2_with fail
  refine (Tryd.stringslite_Index_one s g w).mono ?_
  rintro e w1 ⟨rfl, rfl⟩
  go_wp2
  go_ret
  exact ⟨rfl, rfl⟩
/-- The splitting under way. -/
structure SpSt (w : World) (s : ByteArray) (K k : Nat) (u : ByteArray) (D : List ByteArray) (W : World) : Prop where
  len : D.length = k
  small : u.size ≤ s.size
  eq : Lib.splitB ⟨#[45]⟩ 0 K s = D ++ Lib.splitB ⟨#[45]⟩ 0 (K - k) u
  blk : ∃ cs, Blk W w.heap.size cs 9 ∧ cs.size = K + 1 ∧ ∀ j, j < k → cs[j]? = some (.string (D.getD j ⟨#[]⟩))
  below : Below w.heap.size w W
theorem SpSt.put {w W : World} {s : ByteArray} {K k : Nat} {u : ByteArray} {D : List ByteArray} (h : SpSt w s K k u D W) (hk : k ≤ K) (x : ByteArray) : ∃ cs, Blk (W.setCell ⟨w.heap.size, k, none⟩ (.string x)) w.heap.size cs 9 ∧ cs.size = K + 1 ∧ ∀ j, j < k + 1 → cs[j]? = some (.string ((D ++ [x]).getD j ⟨#[]⟩)) := by
  obtain ⟨cs, hb, hs, hc⟩ := h.blk
  refine ⟨_, hb.set k (.string x), by simpa using hs, fun j hj => ?_⟩
  have hl := h.len
  by_cases e : j = k
  · subst e
    rw [Array.getElem?_setIfInBounds_self_of_lt (by omega)]
    simp [List.getD, ← hl]
  · rw [Array.getElem?_setIfInBounds_ne (by omega), hc j (by omega)]
    simp [List.getD, List.getElem?_append_left (by omega : j < D.length)]
theorem SpSt.next {w W : World} {s : ByteArray} {K k p : Nat} {u : ByteArray} {D : List ByteArray} (h : SpSt w s K k u D W) (hk : k < K) (hp : p < u.size) (hi : Lib.indexByte u.data.toList 45 = p) : SpSt w s K (k + 1) (u.extract (p + 1) u.size) (D ++ [u.extract 0 p]) (W.setCell ⟨w.heap.size, k, none⟩ (.string (u.extract 0 p))) := by
  refine ⟨by rw [List.length_append, h.len]; rfl, ?_, ?_, h.put (by omega) _, below_store h.below _ (Nat.le_refl _)⟩
  · have := h.small
    rw [ByteArray.size_extract]
    omega
  · have e := Lib.splitB_hit ⟨#[45]⟩ 0 (K - (k + 1)) u p (by rw [index_sign]; exact hi)
    rw [h.eq, show K - k = K - (k + 1) + 1 by omega, e, List.append_assoc]
    rfl
/-- What is told. -/
def SpOut (s : ByteArray) (w W : World) (v : Value) : Prop := ∃ (L : List ByteArray) (g cp : Nat), v = .slice (some ⟨g, 0, none⟩) L.length cp ∧ L.length ≤ cp ∧ cp ≤ maxLen ∧ (L = cut s 45 ∨ (L.length ≠ 3 ∧ (cut s 45).length ≠ 3)) ∧ (∀ i, i < L.length → W.cell? ⟨g, i, none⟩ = some (.string (L.getD i ⟨#[]⟩))) ∧ Below w.heap.size w W
theorem SpSt.done {w W : World} {s : ByteArray} {k : Nat} {u : ByteArray} {D : List ByteArray} (h : SpSt w s (min 4 (s.size + 1) - 1) k u D W) (hk : k ≤ min 4 (s.size + 1) - 1) (hu : Lib.splitB ⟨#[45]⟩ 0 (min 4 (s.size + 1) - 1 - k) u = [u]) : SpOut s w (W.setCell ⟨w.heap.size, k, none⟩ (.string u)) (.slice (some ⟨w.heap.size, 0, none⟩) (k + 1) (min 4 (s.size + 1))) := by
  obtain ⟨cs, hb, hs, hc⟩ := h.put hk u
  have he := h.eq
  rw [hu] at he
  have hl : (D ++ [u]).length = k + 1 := by rw [List.length_append, h.len]; rfl
  refine ⟨D ++ [u], w.heap.size, min 4 (s.size + 1), by rw [hl], by omega, by unfold maxLen; omega, ?_, fun i hi => hb.cell i (hc i (by omega)), below_store h.below _ (Nat.le_refl _)⟩
  rcases split_four s with q | ⟨q1, q2⟩
  · exact .inl (by rw [← he, q])
  · exact .inr ⟨by rw [← he]; omega, by omega⟩
set_option maxHeartbeats 2000000 in
theorem implGenSplit (s : ByteArray) (w : World) (hs : s.size ≤ 1048576) : Calls Tryd.prog 32 #[.string s, .string ⟨#[45]⟩, .int .i64 0, .int .i64 4] w fun e W' => ∃ v, e = .returned v ∧ SpOut s w W' v := by
  obtain ⟨N, hN⟩ : ∃ N : Nat, N = min 4 (s.size + 1) := ⟨_, rfl⟩
  have hmin : min (4 : Int) ((s.size : Int) + 1) = (N : Int) := by omega
  have hN1 : 1 ≤ N := by omega
  have hN4 : N ≤ 4 := by omega
  have hmk := make_str N hN4
  have S0 : Hid (SpSt w s (N - 1) 0 s [] (w.alloc (.cells (madeCells #[.string ⟨#[]⟩] N) 9))) := ⟨rfl, Nat.le_refl _, rfl, ⟨_, Blk.new _ _ _, by rw [size_madeCells]; omega, fun j hj => by omega⟩, (Below.refl _ _).alloc (Nat.le_refl _) _⟩
  have hne : ((⟨#[45]⟩ : ByteArray).toList == (⟨#[]⟩ : ByteArray).toList) = false := by rw [ByteArray.toList_eq, ByteArray.toList_eq]; rfl
  have HN := hideP hN
  have hN' : min 4 (s.size + 1) = N := hN.symm
  clear hN
  go_enter Tryd.func32, Tryd.ntmps32
  go_wp2_with fail
  go_loopw [0, 10] (fun t i wr => ∃ (k : Nat) (u : ByteArray) (D : List ByteArray), k ≤ N - 1 ∧ t = .string u ∧ i = .int .i64 (k : Int) ∧ SpSt w s (N - 1) k u D wr) (fun _ i _ => N - 1 - (intOf i).toNat)
  case atStart => exact ⟨0, s, [], Nat.zero_le _, rfl, rfl, S0.out⟩
  case round =>
    obtain ⟨k, u, D, hk, rfl, rfl, hS⟩ := hrel
    have S := hideP hS
    clear hS S0
    obtain ⟨cs, hb, hcs, _⟩ := S.out.blk
    have hus := S.out.small
    have hck : ∃ x, wr.cell? ⟨w.heap.size, k, none⟩ = some x := ⟨_, hb.cell k (show cs[k]? = some (cs[k]'(by omega)) by simp)⟩
    obtain ⟨x, hx⟩ := hck
    have hf := hb.thaw k
    clear hb hcs
    by_cases hlt : k < N - 1
    · have hlt' : (k : Int) < (N : Int) - 1 := by omega
      rcases cut_first u 45 with ⟨p, hp, hi, _, _⟩ | ⟨hi, _⟩
      · have KI : Hid (∀ W, Calls Tryd.prog 38 #[.string u, .string ⟨#[45]⟩] W fun e w' => e = .returned (.int .i64 (p : Int)) ∧ w' = W) := fun W => by rw [← hi]; exact implIndex u 45 W
        have S2 := hideP (S.out.next hlt hp hi)
        have h1 := run_ahead u p hp
        have h2 := run_behind u p hp
        have hwr : IntKind.i64.wrap ((p : Int) + 1) = (p : Int) + 1 := by rw [PlainAid.i64_is]; unfold wrap64; omega
        have hle : (p : Int) < (u.size : Int) := by omega
        have hle2 : (u.size : Int) ≤ 1048576 := by omega
        have hneg : ¬ (p : Int) < 0 := by omega
        clear hi S
        go_wp2_with fail
        refine (KI.out _).mono ?_
        rintro e w1 ⟨rfl, rfl⟩
        go_wp2
        exact ⟨⟨k + 1, _, _, by omega, rfl, by go_num, S2.out⟩, by simp [intOf]; omega⟩
      · have KI : Hid (∀ W, Calls Tryd.prog 38 #[.string u, .string ⟨#[45]⟩] W fun e w' => e = .returned (.int .i64 (-1)) ∧ w' = W) := fun W => by rw [← hi]; exact implIndex u 45 W
        have HD := hideP (SpSt.done (by rw [← HN.out]; exact S.out) (by rw [← HN.out]; exact hk) (Lib.splitB_miss _ _ _ _ (by rw [index_sign]; exact hi)))
        clear hi S
        go_wp2_with fail
        refine (KI.out _).mono ?_
        rintro e w1 ⟨rfl, rfl⟩
        go_wp2
        go_ret
        rw [← HN.out] at HD
        exact ⟨_, rfl, HD.out⟩
    · obtain rfl : k = N - 1 := by omega
      have hlt' : ¬ ((N - 1 : Nat) : Int) < (N : Int) - 1 := by omega
      have HD := hideP (SpSt.done (by rw [← HN.out]; exact S.out) (by rw [← HN.out]; exact hk) (by rw [← HN.out, Nat.sub_self]; rfl))
      clear S
      have hNN : N - 1 + 1 = N := by omega
      rw [← HN.out, hNN] at HD
      go_wp2
      go_ret
      exact ⟨_, rfl, HD.out⟩
theorem implSplitN (s : ByteArray) (w : World) (hs : s.size ≤ 1048576) : Calls Tryd.prog 23 #[.string s, .string ⟨#[45]⟩, .int .i64 4] w fun e W' => ∃ v, e = .returned v ∧ SpOut s w W' v := by
  go_enter Tryd.func23, Tryd.ntmps23
  go_wp2_with fail
  refine (implGenSplit s w hs).mono ?_
  rintro e w1 ⟨v, rfl, hv⟩
  go_wp2
  go_ret
  exact ⟨_, rfl, hv⟩
end Go.Proofs.YtioiaefjkmgmdaaDoor.ctr
