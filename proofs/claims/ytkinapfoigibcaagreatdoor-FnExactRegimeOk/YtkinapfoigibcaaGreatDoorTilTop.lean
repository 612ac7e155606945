/- Contracts of the program's checkTiles and Tiles. -/
import Derived.Test.YtkinapfoigibcaaGreatDoorTilImpl
import Derived.Test.YtkinapfoigibcaaGreatDoorAsHit
namespace Go.Proofs.YtkinapfoigibcaaGreatDoor.ctr
open Go.RowKit

theorem ins_mem {l : List Seg} {s x : Seg} (h : x ∈ insS l s) : x ∈ l ∨ x = s := by
  unfold insS at h
  rcases List.mem_append.1 h with h | h
  · exact .inl (List.mem_of_mem_take h)
  · rcases List.mem_cons.1 h with h | h
    · exact .inr h
    · exact .inl (List.mem_of_mem_drop h)
theorem fold_mem : ∀ (l a : List Seg) {x : Seg}, x ∈ l.foldl insS a → x ∈ a ∨ x ∈ l
  | [], _, _, h => .inl h
  | s :: l, a, x, h => by
    rcases fold_mem l (insS a s) h with h | h
    · rcases ins_mem h with h | h
      · exact .inl h
      · exact .inr (h ▸ List.mem_cons_self)
    · exact .inr (List.mem_cons_of_mem _ h)
theorem full_mem {l : List Seg} {x : Seg} (h : x ∈ fullS l) : x ∈ l := by
  rcases fold_mem l [] (List.mem_filter.1 h).1 with h | h
  · simp at h
  · exact h
/-- What is wrong, as an error. -/
def errOf (c d : Int) : Value := if c = 0 then .nilIface else .iface 113 (.agg #[.int .i64 c, .int .i64 d])
theorem tilesZ_eq (f t : Int) (l : List Seg) : tilesZ f t l = if sharedB (fullS l) = true then 1 else if bareB f t (fullS l) = true then 2 else 0 := by
  unfold tilesZ tileC
  rw [bareB_same]
set_option maxRecDepth 100000 in
set_option maxHeartbeats 2000000 in
theorem implCheckT (f t : Int) (v : Value) (l : List Seg) (w : World) (h : IRow segK w v l) (hl : l.length ≤ 1048576) (ht : t ≤ 9223372036854775807) (hw : ∀ s ∈ l, -9223372036854775808 ≤ s.to) : Calls Tryz.prog 92 #[.int .i64 f, .int .i64 t, v] w fun e w' => ∃ d : Int, e = .returned (errOf (tilesZ f t l) d) ∧ Below w.heap.size w w' := by
  have KS := hideP (implSorted v l w h hl)
  have hfl := full_len l
  have hw' : ∀ s ∈ fullS l, -9223372036854775808 ≤ s.to := fun s hs => hw s (full_mem hs)
  have HF : Hid ((sortS l).filter hasDayB = fullS l) := rfl
  obtain ⟨Z, hZ⟩ : ∃ Z : Int, Z = tilesZ f t l := ⟨_, rfl⟩
  have HZ0 := hideP hZ
  rw [tilesZ_eq] at HZ0
  rw [← hZ]
  clear hZ
  obtain ⟨ad, ca, rfl, _⟩ := h
  have HZ := HZ0
  clear HZ0
  go_enter Tryz.func92, Tryz.ntmps92
  go_wp2_with fail
  refine KS.out.mono ?_
  rintro e w1 ⟨o, rfl, ⟨g, c, rfl, hg, hP⟩, hB⟩
  have KD := hideP (deleteDel g c (sortS l) w1 hP)
  have HB := hideP hB
  have Hg := hideP hg
  clear hP hB hg
  go_wp2_with fail
  refine KD.out.mono ?_
  rintro e w2 ⟨o, rfl, rfl, hP2, hG2⟩
  rw [HF.out] at hP2
  rw [HF.out]
  have HB2 : Hid (Below w.heap.size w w2) := HB.out.trans (below_grown2 hG2 HB.out.size (fun k e => by cases e; exact Hg.out))
  have KSh := hideP (implShared _ _ w2 hP2.row (by omega))
  have KBa : Hid (∀ W, Below w2.heap.size w2 W → Calls Tryz.prog 112 #[.int .i64 f, .int .i64 t, .slice (some ⟨g, 0, none⟩) (fullS l).length c] W fun e w' => ∃ d : Int, e = .returned (.tuple #[.int .i64 d, .bool (bareB f t (fullS l))]) ∧ Below W.heap.size W w') := fun W hb => implBare f t _ _ W (hP2.row.below hb) (by omega) ht hw'
  clear hP2 hG2 hw hw' HF
  generalize sharedB (fullS l) = sb at *
  generalize bareB f t (fullS l) = bb at *
  go_wp2_with fail
  refine KSh.out.mono ?_
  rintro e w3 ⟨d, rfl, hb⟩
  have HB3 : Hid (Below w.heap.size w w3) := HB2.out.trans (hb.mono HB2.out.size)
  have HB23 := hideP hb
  clear hb
  cases sb
  case true =>
    have HQ : Hid (Z = 1) := HZ.out
    clear HZ
    go_wp2_with fail
    go_ret
    exact ⟨d, (by rw [HQ.out]; rfl), HB3.out⟩
  go_wp2_with fail
  refine (KBa.out w3 HB23.out).mono ?_
  rintro e w4 ⟨d', rfl, hb⟩
  have HB4 : Hid (Below w.heap.size w w4) := HB3.out.trans (hb.mono HB3.out.size)
  clear hb
  cases bb
  · have HQ : Hid (Z = 0) := HZ.out
    clear HZ
    go_wp2_with fail
    go_ret
    exact ⟨0, (by rw [HQ.out]; rfl), HB4.out⟩
  · have HQ : Hid (Z = 2) := HZ.out
    clear HZ
    go_wp2_with fail
    go_ret
    exact ⟨d', (by rw [HQ.out]; rfl), HB4.out⟩
/-- The listed type that errors.As asks for. -/
def ErrT (w : World) : Prop := w.cell? ⟨1, 0, none⟩ = some (.iface 150 (.agg #[.pointer (some ⟨3, 89, none⟩)]))
theorem ErrT.below {w w' : World} (h : ErrT w) (hb : Below w.heap.size w w') : ErrT w' := Later.at h ⟨w', hb⟩
theorem tilesZ_cases (f t : Int) (l : List Seg) : tilesZ f t l = 0 ∨ tilesZ f t l = 1 ∨ tilesZ f t l = 2 := by
  unfold tilesZ tileC
  split
  · exact .inr (.inl rfl)
  · split
    · exact .inr (.inr rfl)
    · exact .inl rfl
set_option maxRecDepth 100000 in
set_option maxHeartbeats 2000000 in
theorem implTiles (f t : Int) (v : Value) (l : List Seg) (w : World) (h : IRow segK w v l) (hl : l.length ≤ 1048576) (ht : t ≤ 9223372036854775807) (hw : ∀ s ∈ l, -9223372036854775808 ≤ s.to) (hE : ErrT w) : Calls Tryz.prog 71 #[.int .i64 f, .int .i64 t, v] w fun e w' => e = .returned (.int .i64 (tilesZ f t l)) ∧ Below w.heap.size w w' := by
  obtain ⟨W0, hW0⟩ : ∃ W0, W0 = w.alloc (.cells #[.int .i64 0, .int .i64 0] 113) := ⟨_, rfl⟩
  have hb0 : Below w.heap.size w W0 := by rw [hW0]; exact (Below.refl _ _).alloc (Nat.le_refl _) _
  have hK0 : Blk W0 w.heap.size #[.int .i64 0, .int .i64 0] 113 := by rw [hW0]; exact Blk.new _ _ _
  have KC := hideP (implCheckT f t v l W0 (h.below hb0) hl ht hw)
  have hz := tilesZ_cases f t l
  have HE := hideP (hE.below hb0)
  have HB0 := hideP hb0
  have HK0 := hideP hK0
  have HW0 := hideP hW0
  obtain ⟨ad, ca, rfl, _⟩ := h
  generalize tilesZ f t l = z at *
  clear hb0 hK0 hW0 hE hw
  go_enter Tryz.func71, Tryz.ntmps71
  go_wp2_with fail
  rw [← HW0.out]
  refine KC.out.mono ?_
  rintro e w1 ⟨d, rfl, hb⟩
  have HB1 : Hid (Below w.heap.size w w1) := HB0.out.trans (hb.mono HB0.out.size)
  have HE1 := hideP (HE.out.below hb)
  have HK1 := hideP (HK0.out.below hb HK0.out.lt)
  clear hb
  by_cases h0 : z = 0
  · subst h0
    have KN := hideP (as_nil (.iface 116 (.pointer (some ⟨w.heap.size, 0, none⟩))) w1)
    rw [errOf, if_pos rfl]
    go_wp2_with fail
    refine KN.out.mono ?_
    rintro e w2 ⟨rfl, rfl⟩
    go_wp2_with fail
    go_ret
    exact ⟨rfl, HB1.out⟩
  · rw [errOf, if_neg h0]
    have KN := hideP (as_hit z d w.heap.size _ _ w1 HE1.out HK1.out)
    go_wp2_with fail
    refine KN.out.mono ?_
    rintro e w2 ⟨rfl, hw2⟩
    have HB2 : Hid (Below w.heap.size w w2) := by
      unfold Hid
      rw [hw2]
      have s1 := HB1.out.size
      exact below_store (below_store ((((HB1.out.alloc s1 _).alloc (by rw [World.size_alloc]; omega) _).alloc (by rw [World.size_alloc, World.size_alloc]; omega) _).alloc (by rw [World.size_alloc, World.size_alloc, World.size_alloc]; omega) _) _ (Nat.le_refl _)) _ (Nat.le_refl _)
    have c0 : w2.cell? ⟨w.heap.size, 0, none⟩ = some (.int .i64 z) := by
      rw [hw2]
      exact ((((((HK1.out.alloc _).alloc _).alloc _).alloc _).set 0 _).set 1 _).cell 0 rfl
    clear hw2
    go_wp2_with fail
    go_ret
    exact ⟨rfl, HB2.out⟩
end Go.Proofs.YtkinapfoigibcaaGreatDoor.ctr
