/- Contract of the program's Lines: it answers, in new memory, the plain list lines, at every text of at most 1048576 bytes; nothing that was there turns. -/
import Derived.Test.YtljlgnadomebcacDoorLinesSpec
import Derived.Test.YtljlgnadomebcacDoorWordsImpl
namespace Go.Proofs.YtljlgnadomebcacDoor.ctr
open Go.RowKit Go.Shelf

attribute [local go_sem] Oper.semAt_some

theorem put_size (W : World) (l : Nat) (o : Obj) : (W.putObj l o).heap.size = W.heap.size := by simp [World.putObj]

set_option maxRecDepth 100000 in
set_option maxHeartbeats 2000000 in
theorem lines_in (n : Nat) (hn : 6 ≤ n) (s : ByteArray) (hs : s.size ≤ 1048576) (w : World) :
    CallsIn Fence.wide n Tryd.prog 27 #[.string s] w fun e W' => ∃ v, e = .returned v ∧ NewRow w.heap.size W' v (lines s) ∧ Below w.heap.size w W' := by
  have h1 : 1 ≤ n := by omega
  have hcl := cut_len s 10
  obtain ⟨i0, hi, hz0, hz1, hz2⟩ := info_parts info_str
  refine callsIn_of_wp_marks Tryd.func27 rfl trivial ?_ rfl
  simp only [Tryd.ntmps27, List.size_toArray, List.length_cons, List.length_nil, Nat.reduceAdd, Nat.reduceSub, Array.replicate_succ, Array.replicate_zero, List.push_toArray, List.append_toArray, List.nil_append, List.cons_append]
  gi_wp2_with fail
  refine ⟨trivial, ?_⟩
  refine (parts_in _ s 10 _).mono ?_
  rintro e w' ⟨rfl, rfl⟩
  gi_wp2_with fail
  have bO := Boxed.new w 31 (.slice none 0 0)
  have b1 := Boxed.new (w.alloc (.cells #[.slice none 0 0] 31)) 9 (.string s)
  rw [size_new'] at b1
  have b2 := Boxed.new ((w.alloc (.cells #[.slice none 0 0] 31)).alloc (.cells #[.string s] 9)) 5 (.int .u8 10)
  rw [size_new', size_new'] at b2
  obtain ⟨W0, hW0⟩ : ∃ W0, ((w.alloc (.cells #[.slice none 0 0] 31)).alloc (.cells #[.string s] 9)).alloc (.cells #[.int .u8 10] 5) = W0 := ⟨_, rfl⟩
  have hB0 : Below w.heap.size w W0 := by
    rw [← hW0]
    exact (((Below.refl _ w).alloc (Nat.le_refl _) _).alloc (by rw [size_new']; omega) _).alloc (by rw [size_new', size_new']; omega) _
  have hz : W0.heap.size = w.heap.size + 3 := by rw [← hW0, size_new', size_new', size_new']
  have bO' := (bO.alloc (.cells #[.string s] 9)).alloc (.cells #[.int .u8 10] 5)
  have b1' := b1.alloc (.cells #[.int .u8 10] 5)
  rw [hW0] at bO' b1' b2 ⊢
  clear bO b1
  refine wpIn_rangeFunc_ownG rfl h1 (gf := 67) (lb := #[.pointer (some ⟨w.heap.size + 1, 0, none⟩), .pointer (some ⟨w.heap.size + 2, 0, none⟩)]) rfl trivial (enters_of Tryd.func67 (by kernel_rfl) rfl)
    (parts_stops (n - 1) (by omega) (w.heap.size + 1) (w.heap.size + 2) s 10 hs W0 (by omega) (by omega) b1'.cell b2.cell) keep_t (keep_b (by omega) (by omega)) (Below.refl _ _) (fun _ => rfl)
    (fun pre W => (∃ v, Boxed W w.heap.size 31 v ∧ W.ownsRow (w.heap.size + 3) 9 1 v pre.length (pre.map Value.string) ∧ (v = .slice none 0 0 ↔ pre = [])) ∧ Below w.heap.size w W ∧ w.heap.size + 3 ≤ W.heap.size)
    (fun _ _ _ => False)
    (OwnFrom.and (Own.from (holdsRow_own (w.heap.size + 3) w.heap.size 31 9 1 (fun pre : List ByteArray => pre.length) (fun pre => pre.map Value.string) (fun pre v => v = .slice none 0 0 ↔ pre = [])) _) (OwnFrom.and (ownFrom_below (Nat.le_refl _) (by omega)) (fun s' A B row hs' hg _ => Nat.le_trans hs' hg.size)))
    (fun _ _ _ _ _ hs _ _ => hs)
    ⟨⟨_, bO', World.ownsRow_nil _ _ _ _, by simp⟩, hB0, by omega⟩
    (fun x => { tmps := #[.string s, undef, .slice none 0 0, .pointer (some ⟨w.heap.size, 0, none⟩), .string x, undef, .string s, .func (.func 67) #[] #[.pointer (some ⟨w.heap.size + 1, 0, none⟩), .pointer (some ⟨w.heap.size + 2, 0, none⟩)], .string x, undef, undef, undef, undef, undef, undef, undef, undef, undef, undef, undef, undef, undef, undef, undef, undef], defers := [] }) ?assign ?body ?done ?stop
  case assign =>
    intro l x W K hK
    gi_wp2
    exact hK
  case body =>
    rintro l pre x W ⟨⟨v, hv, hrow, hnil⟩, hB, hsz⟩ hlt
    have hc := hv.cell
    gi_wp2_with (gi_at_builtin; refine wpListIn_append_own _ rfl _ _ 31 rfl (w.heap.size + 3) 9 i0 (.string ⟨#[]⟩) 1 16 Tryd.underlying31 hi hz0 hz1 hz2 rfl (by decide) _ _ _ rfl (hrow.alloc _) ⟨W.heap.size, 0, none⟩ 1 1 [.string x] rfl rfl (cell_one_new _ _ _) (by simp [Value.oneCell']) (by unfold maxLen; omega) (by omega) (by rw [size_new']; omega) ?_; intro v' w1 hown' hgrow _; obtain ⟨g', cap', rfl⟩ := ownsRow_succ hown'; obtain ⟨hv1, hv2, hr2, hk2, hb2, hk3⟩ := appended3 (n0 := w.heap.size) (B1 := w.heap.size + 1) (B2 := w.heap.size + 2) hv (by decide) hrow hsz (by omega) (Nat.le_refl _) (by omega) (by omega) (by omega) (by omega) hown' hgrow; have hc1 := hv1.cell; have hf1 := hv1.frozen)
    exact ⟨hk2.from _, hk3, ⟨_, hv2, by simpa using hr2, by simp⟩, hB.trans hb2, Nat.le_trans hsz hb2.size⟩
  case done =>
    rintro D ys W hD rfl ⟨⟨v, hv, hrow, hnil⟩, hB, hsz⟩ hK
    obtain ⟨g0, c0, rfl, hg0, hl0, hs0, ho0⟩ := own_row hrow (cut_ne s 10)
    have hcap : (cut s 10).length ≤ c0 := by
      rcases hrow.2 with ⟨h, _⟩ | ⟨g, cap, cur, h, _, _, hc, _⟩
      · cases h
      · cases h; exact hc
    obtain ⟨hl, hget⟩ := cut_last s 10
    have hc0 : W.cell? ⟨g0, (partsTo s 10 s.size).length, none⟩ = some (.string (lastPart s 10)) := by
      rw [← hget]
      exact hs0 _ (by omega)
    have HS0 : Hid (StrAt W g0 (cut s 10)) := hs0
    have HO0 : Hid (OwnRow W g0 (cut s 10).length) := ho0
    have hpl := parts_len s 10 s.size
    have hc := hv.cell
    have hf := hv.frozen
    clear hrow hs0 ho0 hget hnil
    rw [hl] at hcap hv hc
    generalize hp : (partsTo s 10 s.size).length = p at *
    have HP : Hid ((partsTo s 10 s.size).length = p) := hp
    have HL : Hid ((cut s 10).length = p + 1) := hl
    have he := empty_iff (lastPart s 10)
    clear hp hl
    by_cases hze : (lastPart s 10).size = 0
    · have he' : (lastPart s 10).toList.isEmpty = true := by rw [he]; simp [hze]
      have HN : Hid (lines s = partsTo s 10 s.size) := by unfold Hid lines; rw [if_pos hze]
      clear he hze
      gi_wp2
      have hDs : D ≠ w.heap.size := by omega
      have hK2 : (W.setCell ⟨w.heap.size, 0, none⟩ (.slice (some ⟨g0, 0, none⟩) p c0)).heap[D]? = some (.deferred (some [])) := (Below.heap_setCell W _ _ D hDs).trans hK
      have hgD : g0 ≠ D := by
        rintro rfl
        simp [World.cell?, hK] at hc0
      refine ⟨by simp, .inl ⟨_, _, rfl, run_takeDeferred hK2, ?_⟩⟩
      have hh : ((W.setCell ⟨w.heap.size, 0, none⟩ (.slice (some ⟨g0, 0, none⟩) p c0)).putObj D (.deferred none)).heap[g0]? = W.heap[g0]? := (World.putObj_heap_other hgD).trans (Below.heap_setCell W _ _ g0 (by show g0 ≠ w.heap.size; omega))
      refine ⟨_, results_tmp rfl _ _ _, .slice (some ⟨g0, 0, none⟩) p c0, rfl, ?_, ?_⟩
      · rw [HN.out]
        refine ⟨g0, c0, by rw [HP.out], by omega, by rw [put_size, mset_size]; exact hl0, fun j hj => ?_, fun j hj => ?_⟩
        · rw [World.cell?_of_block (a := ⟨g0, j, none⟩) hh, ← cut_init s 10 j hj]
          exact HS0.out j (by rw [HL.out, ← HP.out]; omega)
        · obtain ⟨⟨u, hu⟩, hf⟩ := HO0.out j (by rw [HL.out, ← HP.out]; omega)
          exact ⟨⟨u, (World.cell?_of_block (a := ⟨g0, j, none⟩) hh).trans hu⟩, (World.frozen?_of_block (a := ⟨g0, j, none⟩) hh).trans hf⟩
      · exact (hB.setCell (p := ⟨w.heap.size, 0, none⟩) (Nat.le_refl _) _).trans (belowK_b (w := w) (Nat.le_refl _) _ D _ _ (by omega) hK2 rfl rfl)
    · have he' : (lastPart s 10).toList.isEmpty = false := by rw [he]; simp [hze]
      have HN : Hid (lines s = cut s 10) := by unfold Hid lines; rw [if_neg hze]
      clear he hze
      gi_wp2
      have hgD : g0 ≠ D := by
        rintro rfl
        simp [World.cell?, hK] at hc0
      refine ⟨by simp, .inl ⟨_, _, rfl, run_takeDeferred hK, ?_⟩⟩
      have hh : (W.putObj D (.deferred none)).heap[g0]? = W.heap[g0]? := World.putObj_heap_other hgD
      refine ⟨_, results_tmp rfl _ _ _, .slice (some ⟨g0, 0, none⟩) (p + 1) c0, rfl, ?_, ?_⟩
      · rw [HN.out]
        refine ⟨g0, c0, by rw [HL.out], by omega, by rw [put_size]; exact hl0, fun j hj => ?_, fun j hj => ?_⟩
        · rw [World.cell?_of_block (a := ⟨g0, j, none⟩) hh]
          exact HS0.out j hj
        · obtain ⟨⟨u, hu⟩, hf⟩ := HO0.out j hj
          exact ⟨⟨u, (World.cell?_of_block (a := ⟨g0, j, none⟩) hh).trans hu⟩, (World.frozen?_of_block (a := ⟨g0, j, none⟩) hh).trans hf⟩
      · exact hB.trans (belowK_b (w := w) (Nat.le_refl _) W D _ _ (by omega) hK rfl rfl)
  case stop =>
    rintro D c pre W _ _ h _
    exact h.elim
theorem implLines (s : ByteArray) (w : World) (hs : s.size ≤ 1048576) :
    Calls Tryd.prog 27 #[.string s] w fun e W' => ∃ v, e = .returned v ∧ NewRow w.heap.size W' v (lines s) ∧ Below w.heap.size w W' :=
  (callsIn_wide (n := 6)).1 (lines_in 6 (Nat.le_refl _) s hs w)
end Go.Proofs.YtljlgnadomebcacDoor.ctr
