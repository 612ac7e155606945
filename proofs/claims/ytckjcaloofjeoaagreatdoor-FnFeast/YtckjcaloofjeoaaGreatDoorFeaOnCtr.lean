/- Contracts of both FeastsOn: each answers, in a row of its own, the names of the feasts that the day is; nothing that was there turns. -/
import Derived.Test.YtckjcaloofjeoaaGreatDoorFeaDayCtr
import Derived.Test.YtckjcaloofjeoaaGreatDoorFeaImpl2
import Derived.Test.YtckjcaloofjeoaaGreatDoorJDate
import Derived.Test.YtckjcaloofjeoaaGreatDoorCutCtr
namespace Go.Proofs.YtckjcaloofjeoaaGreatDoor.ctr
open Go.RowKit

/-- The row g holds the feasts' cells. -/
def FeaBlk (W : World) (g : Nat) (cur : Array Value) : Prop := Blk W g cur 25 ∧ ∀ k, k < 20 → ∀ j, j < 5 → cur[k * 5 + j]? = (feaAt k).cs[j]?
theorem FeaOwn.blk {w W : World} {v : Value} (h : FeaOwn w W v) : ∃ g cap cur, v = .slice (some ⟨g, 0, none⟩) 20 cap ∧ w.heap.size ≤ g ∧ FeaBlk W g cur := by
  rcases h.2 with ⟨_, h0⟩ | ⟨g, cap, cur, hv, hb, hh, hcap, _, hsz, htake⟩
  · simp at h0
  · refine ⟨g, cap, cur, hv, hb, hh, fun k hk j hj => ?_⟩
    rw [← feaCell hk hj, ← htake, List.getElem?_take, if_pos (by omega)]
    simp
theorem FeaBlk.at {W : World} {g : Nat} {cur : Array Value} (h : FeaBlk W g cur) {k : Nat} (hk : k < 20) : W.cell? ⟨g, k * 5, none⟩ = some (.string (feaAt k).name) ∧ W.cell? ⟨g, k * 5 + 1, none⟩ = some (.bool (feaAt k).mv) ∧ W.cell? ⟨g, k * 5 + 2, none⟩ = some (.int .i64 (feaAt k).off) ∧ W.cell? ⟨g, k * 5 + 3, none⟩ = some (.int .i64 (feaAt k).m) ∧ W.cell? ⟨g, k * 5 + 4, none⟩ = some (.int .i64 (feaAt k).d) := by
  have e := fun j hj => h.2 k hk j hj
  exact ⟨h.1.cell _ (e 0 (by omega)), h.1.cell _ (e 1 (by omega)), h.1.cell _ (e 2 (by omega)), h.1.cell _ (e 3 (by omega)), h.1.cell _ (e 4 (by omega))⟩
theorem FeaBlk.below {W W' : World} {g : Nat} {cur : Array Value} (h : FeaBlk W g cur) (hb : Below W.heap.size W W') : FeaBlk W' g cur := ⟨h.1.below hb h.1.lt, h.2⟩
theorem own_ne {w : World} {base e size : Nat} {v : Value} {n : Nat} {xs : List Value} {b : Nat} {vs : Array Value} {t : TypeId} (h : w.ownsRow base e size v n xs) (hb : Blk w b vs t) (hte : t ≠ e) : some b ≠ v.ownBlock := by
  intro he
  rcases h.2 with ⟨rfl, _⟩ | ⟨g, cap, cur, rfl, _, hh, _⟩
  · cases he
  · have hg : b = g := by simpa [Value.ownBlock] using he
    subst hg
    unfold Blk at hb
    rw [hb] at hh
    simp at hh
    exact hte hh.2
theorem Blk.gr {w w' : World} {b : Nat} {vs : Array Value} {t : TypeId} {row : Option Nat} (h : Blk w b vs t) (g : w.grownBy w' row) (hn : some b ≠ row) : Blk w' b vs t := (g.block b h.lt hn).trans h
theorem own_later {w w' : World} {base e size : Nat} {v : Value} {n : Nat} {xs : List Value} (h : w.ownsRow base e size v n xs) (hb : Below w.heap.size w w') : w'.ownsRow base e size v n xs :=
  h.kept (row := none) ⟨hb.os, hb.tape, hb.output, hb.size, fun k hk _ => hb.block k hk⟩ (Classical.em _)
/-- The state of a loop that goes over the feasts: the names so far lie in a row of their own, the date's block and the feasts' row stand. -/
structure OnSt (w : World) (db g : Nat) (dv cur : Array Value) (o : Value) (xs : List ByteArray) (W : World) : Prop where
  row : W.ownsRow w.heap.size 9 1 o xs.length (xs.map Value.string)
  below : Below w.heap.size w W
  date : Blk W db dv 48
  fea : FeaBlk W g cur
theorem OnSt.later {w : World} {db g : Nat} {dv cur : Array Value} {o : Value} {xs : List ByteArray} {W W' : World} (h : OnSt w db g dv cur o xs W) (hb : Below W.heap.size W W') : OnSt w db g dv cur o xs W' :=
  ⟨own_later h.row hb, h.below.trans (hb.mono h.below.size), h.date.below hb h.date.lt, h.fea.below hb⟩
theorem OnSt.app {w : World} {db g : Nat} {dv cur : Array Value} {o o' : Value} {xs : List ByteArray} {W W' : World} {ob : Obj} (h : OnSt w db g dv cur o xs W) (s : ByteArray) (hr : W'.ownsRow w.heap.size 9 1 o' (xs.length + 1) (xs.map Value.string ++ [.string s])) (hg : (W.alloc ob).grownBy W' o.ownBlock) : OnSt w db g dv cur o' (xs ++ [s]) W' := by
  have hr' : W'.ownsRow w.heap.size 9 1 o' (xs ++ [s]).length ((xs ++ [s]).map Value.string) := by
    rw [List.length_append, List.map_append]
    exact hr
  have hd := h.date.alloc ob
  have hf := h.fea.1.alloc ob
  exact ⟨hr', (h.below.alloc h.below.size ob).grown hg (by have := h.below.size; rw [sz_new]; omega) (own_base5 h.row), hd.gr hg (own_ne h.row h.date (by decide)), hf.gr hg (own_ne h.row h.fea.1 (by decide)), h.fea.2⟩

/-- The names of the feasts that day n is. -/
noncomputable def feastsOn (c n : Int) : List ByteArray := if (dateOf c n).2.2.2.2 = true then onTo c (dateOf c n).2.1 n 20 else []
theorem dateR_parts (c n : Int) : ∃ a y m d ok, dateOf c n = (a, y, m, d, ok) ∧ dateR c n = .tuple #[.agg #[.int .i64 a, .int .i64 y, .int .i64 m, .int .i64 d], .bool ok] := ⟨_, _, _, _, _, rfl, rfl⟩
theorem date_blk (W : World) (a y m d : Int) : Blk (W.alloc (.cells #[.int .i64 a, .int .i64 y, .int .i64 m, .int .i64 d] 48)) W.heap.size #[.int .i64 a, .int .i64 y, .int .i64 m, .int .i64 d] 48 := Blk.new W _ _

set_option maxRecDepth 100000 in
set_option maxHeartbeats 2000000 in
theorem specFeastsOn (c n : Int) (w : World) : Calls Tryz.prog 21 #[.int .i64 c, .int .i64 n] w fun e w' => ∃ v, e = .returned v ∧ w'.ownsRow w.heap.size 9 1 v (feastsOn c n).length ((feastsOn c n).map Value.string) ∧ Below w.heap.size w w' := by
  obtain ⟨i0, hi, hz0, hz1, hz2⟩ := info_parts info_str
  obtain ⟨a, y, m0, d0, ok, hD, hR⟩ := dateR_parts c n
  have KD := fun W => specDateOf c n W
  have HF : Hid (feastsOn c n = if ok = true then onTo c y n 20 else []) := by unfold Hid feastsOn; rw [hD]
  rw [hR] at KD
  rw [HF.out]
  clear hD hR HF
  obtain ⟨R, hRR⟩ : ∃ R, R = (if ok = true then onTo c y n 20 else []) := ⟨_, rfl⟩
  rw [← hRR]
  have HRR := hideP hRR
  clear hRR
  go_enter Tryz.func21, Tryz.ntmps21
  go_wp2_with fail
  refine (KD _).mono ?_
  rintro e W1 ⟨rfl, hb1⟩
  have R1 := hideP (own_later (own_empty w 9) hb1)
  have B1 : Hid (Below w.heap.size w W1) := below_alloc hb1
  clear hb1 KD
  go_wp2_with fail
  refine (specFeasts _).mono ?_
  rintro e W2 ⟨v, rfl, hr, hb2⟩
  obtain ⟨g, cap, cur, rfl, hg, hf⟩ := hr.blk
  have S2 : Hid (OnSt w W1.heap.size g #[.int .i64 a, .int .i64 y, .int .i64 m0, .int .i64 d0] cur (.slice (some ⟨w.heap.size, 0, none⟩) 0 0) [] W2) :=
    ⟨own_later (R1.out.alloc _) hb2, (B1.out.alloc B1.out.size _).trans (hb2.mono (by have := B1.out.size; rw [sz_new]; omega)), (date_blk W1 a y m0 d0).below hb2 (by rw [sz_new]; omega), hf⟩
  clear hr hb2 hf hg R1 B1
  cases ok
  · go_wp2
    go_loopw [5, 9] (fun o i wr => o = .slice (some ⟨w.heap.size, 0, none⟩) 0 0 ∧ i = .int .i64 0 ∧ W2 = wr) (fun _ _ _ => 0)
    case atStart => exact ⟨rfl, rfl, rfl⟩
    case round =>
      obtain ⟨rfl, rfl, rfl⟩ := hrel
      go_wp2
      go_ret
      exact ⟨_, rfl, by have e : R = [] := HRR.out; rw [e]; exact S2.out.row, S2.out.below⟩
  · go_wp2
    go_loopw [5, 9] (fun o i wr => ∃ k : Nat, k ≤ 20 ∧ i = .int .i64 (k : Int) ∧ OnSt w W1.heap.size g #[.int .i64 a, .int .i64 y, .int .i64 m0, .int .i64 d0] cur o (onTo c y n k) wr) (fun _ i _ => 20 - (intOf i).toNat)
    case atStart => exact ⟨0, Nat.zero_le _, rfl, S2.out⟩
    case round =>
      obtain ⟨k, hk, rfl, hS⟩ := hrel
      have S := hideP hS
      clear hS S2
      by_cases hlt : k < 20
      · have q0 : ∀ x : Later wr, x.w.cell? ⟨W1.heap.size, 1, none⟩ = some (.int .i64 y) := fun x => (S.out.later x.below).date.cell 1 rfl
        have c0 : ∀ x : Later wr, x.w.cell? ⟨g, k * 5, none⟩ = some (.string (feaAt k).name) := fun x => ((S.out.later x.below).fea.at hlt).1
        have c1 : ∀ x : Later wr, x.w.cell? ⟨g, k * 5 + 1, none⟩ = some (.bool (feaAt k).mv) := fun x => ((S.out.later x.below).fea.at hlt).2.1
        have c2 : ∀ x : Later wr, x.w.cell? ⟨g, k * 5 + 2, none⟩ = some (.int .i64 (feaAt k).off) := fun x => ((S.out.later x.below).fea.at hlt).2.2.1
        have c3 : ∀ x : Later wr, x.w.cell? ⟨g, k * 5 + 3, none⟩ = some (.int .i64 (feaAt k).m) := fun x => ((S.out.later x.below).fea.at hlt).2.2.2.1
        have c4 : ∀ x : Later wr, x.w.cell? ⟨g, k * 5 + 4, none⟩ = some (.int .i64 (feaAt k).d) := fun x => ((S.out.later x.below).fea.at hlt).2.2.2.2
        have hsz := feaAt_size0 ⟨k, hlt⟩
        dsimp only at hsz
        have H1 := hideP (fun h => onTo_hit (c := c) (y := y) (n := n) hlt h)
        have H2 := hideP (fun h => onTo_miss (c := c) (y := y) (n := n) hlt h)
        have hlen := onTo_len c y n k hk
        generalize feaAt k = f at *
        obtain ⟨s, mv, o, m, d⟩ := f
        dsimp only at c0 c1 c2 c3 c4 hsz
        have KF : ∀ x : Later wr, Calls Tryz.prog 19 #[.int .i64 c, .int .i64 y, .agg #[.string s, .bool mv, .int .i64 o, .int .i64 m, .int .i64 d]] x.w fun e w' => e = .returned (.int .i64 (Fea.day ⟨s, mv, o, m, d⟩ c y)) ∧ Below x.w.heap.size x.w w' := fun x => specFeaDay c y s mv o m d x.w (by unfold maxLen; omega)
        generalize Fea.day ⟨s, mv, o, m, d⟩ c y = day at *
        by_cases hday : day = n
        · subst hday
          have HN := hideP (H1.out rfl)
          clear H1 H2
          go_wp2_with fail
          refine wp_region_later (W := wr) (Below.refl _ _) (by kernel_rfl) (by kernel_rfl) ?_
          repeat (go_big_quiet_step (first | (go_at_call 19; exact calls_later (KF _))))
          refine wpQuiet_nil ?_
          intro _ hw'
          obtain ⟨x, rfl⟩ := hw'
          have Sx := hideP (S.out.later x.below)
          go_wp2_with (at_builtin; refine wpList_append_own _ rfl _ _ 32 rfl w.heap.size 9 i0 (.string ⟨#[]⟩) 1 16 Tryz.underlying32 hi hz0 hz1 hz2 rfl (by decide) _ _ _ rfl (Sx.out.row.alloc _) ⟨x.w.heap.size, 0, none⟩ 1 1 [.string s] rfl rfl (cell_one_new _ _ _) (by simp [Value.oneCell']) (by unfold maxLen; omega) (by omega) (by have := Sx.out.below.size; rw [sz_new]; omega) ?_; intro v' w1 hown' hgrow _)
          refine ⟨⟨k + 1, by omega, by go_num, ?_⟩, by simp [intOf]; omega⟩
          rw [HN.out]
          exact Sx.out.app s hown' hgrow
        · have hd' : (day == n) = false := by simp [hday]
          have HN := hideP (H2.out hday)
          clear H1 H2
          go_wp2_with fail
          refine wp_region_later (W := wr) (Below.refl _ _) (by kernel_rfl) (by kernel_rfl) ?_
          repeat (go_big_quiet_step (first | (go_at_call 19; exact calls_later (KF _))))
          refine wpQuiet_nil ?_
          intro _ hw'
          obtain ⟨x, rfl⟩ := hw'
          go_wp2
          refine ⟨⟨k + 1, by omega, by go_num, ?_⟩, by simp [intOf]; omega⟩
          rw [HN.out]
          exact S.out.later x.below
      · have hkn : k = 20 := by omega
        subst hkn
        go_wp2
        go_ret
        exact ⟨_, rfl, by have e : R = onTo c y n 20 := HRR.out; rw [e]; exact S.out.row, S.out.below⟩
end Go.Proofs.YtckjcaloofjeoaaGreatDoor.ctr
