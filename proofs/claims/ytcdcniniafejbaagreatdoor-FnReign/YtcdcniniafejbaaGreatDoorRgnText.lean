/- Contracts of both ReignText: each answers its plain text, where the program's tables hold what they must. -/
import Derived.Test.YtcdcniniafejbaaGreatDoorRgnYear2
import Derived.Test.YtcdcniniafejbaaGreatDoorRgnOkS
import Derived.Test.YtcdcniniafejbaaGreatDoorRgnGapP
import Derived.Test.YtcdcniniafejbaaGreatDoorRomanPut
import Derived.Deep.RegionWith
namespace Go.Proofs.YtcdcniniafejbaaGreatDoor.ctr
open Go.RowKit

theorem rom_sizeR (k : Int) : (putRoman k).size ≤ 15 := by
  unfold putRoman
  split
  · rename_i h
    show (roman k.toNat).length ≤ 15
    unfold roman
    rw [List.length_append, List.length_append, List.length_append, manyL_len]
    have h1 := digL_len (k.toNat / 100 % 10) 67 68 77
    have h2 := digL_len (k.toNat / 10 % 10) 88 76 67
    have h3 := digL_len (k.toNat % 10) 73 86 88
    omega
  · show 0 ≤ 15
    omega
theorem name_size {s : ByteArray} (h : nameOk s = true) : s.size ≤ 16 := by
  unfold nameOk at h
  simp only [Bool.and_eq_true] at h
  have := (inB_iff.1 h.1).2
  omega
/-- The year of the reign that has the day. -/
noncomputable def yearAt (c s ru : Int) (l : List Rgn) (n : Int) : Int := reignYear c s ru (rgA l (atR l n).toNat).fr (rgA l (atR l n).toNat).to n
noncomputable def reignText (c s ru : Int) (l : List Rgn) (n : Int) : ByteArray := if atR l n = -1 ∨ reignsOk l = false ∨ yearAt c s ru l n = 0 then ⟨#[]⟩ else putRoman (yearAt c s ru l n) ++ ⟨#[32]⟩ ++ (rgA l (atR l n).toNat).name
theorem rt_no {c s ru : Int} {l : List Rgn} {n : Int} (h : atR l n = -1 ∨ reignsOk l = false ∨ yearAt c s ru l n = 0) : reignText c s ru l n = ⟨#[]⟩ := by unfold reignText; rw [if_pos h]
theorem rt_yes {c s ru : Int} {l : List Rgn} {n : Int} {k : Nat} (h1 : atR l n = (k : Int)) (h2 : reignsOk l = true) (h3 : reignYear c s ru (rgA l k).fr (rgA l k).to n ≠ 0) : reignText c s ru l n = putRoman (reignYear c s ru (rgA l k).fr (rgA l k).to n) ++ ⟨#[32]⟩ ++ (rgA l k).name := by
  have e : (atR l n).toNat = k := by omega
  unfold reignText yearAt
  have hn : ¬ (atR l n = -1 ∨ reignsOk l = false ∨ reignYear c s ru (rgA l k).fr (rgA l k).to n = 0) := by
    rintro (a | a | a)
    · omega
    · rw [h2] at a
      cases a
    · exact h3 a
  rw [e, if_neg hn]
theorem calls_belR {P : Program} {f : FuncId} {args : Array Value} {W : World} {v : Value} (h : Calls P f args W fun e w' => e = .returned v ∧ w' = W) : Calls P f args W fun e w' => e = .returned v ∧ Below W.heap.size W w' :=
  h.mono fun _ _ ⟨a, b⟩ => ⟨a, by rw [b]; exact Below.refl _ _⟩

set_option maxRecDepth 100000 in
set_option maxHeartbeats 2000000 in
theorem implReignText (c s ru : Int) (v : Value) (l : List Rgn) (n : Int) (q : Addr) (w : World) (h : RRow w v l) (hT : Tab w) (hS : Sent w q) (hP : Shp w) : Calls Tryz.prog 13 #[.int .i64 c, .int .i64 s, .int .i64 ru, v, .int .i64 n] w fun e w' => e = .returned (.string (reignText c s ru l n)) ∧ Below w.heap.size w w' := by
  have KA : ∀ x : Later w, Calls Tryz.prog 23 #[v, .int .i64 n] x.w fun e w' => e = .returned (.int .i64 (atR l n)) ∧ Below x.w.heap.size x.w w' := fun x => implReignAt v l n x.w (h.below x.below)
  have KO : ∀ x : Later w, Calls Tryz.prog 21 #[v] x.w fun e w' => e = .returned (.bool (reignsOk l)) ∧ Below x.w.heap.size x.w w' := fun x => implReignsOk v l q x.w (h.below x.below) (hT.later x.below) (hS.later x.below)
  have KY : Hid (∀ (nm : ByteArray) (f t : Int) (x : Later w), Calls Tryz.prog 9 #[.int .i64 c, .int .i64 s, .int .i64 ru, .agg #[.string nm, .int .i64 f, .int .i64 t], .int .i64 n] x.w fun e w' => e = .returned (.int .i64 (reignYear c s ru f t n)) ∧ Below x.w.heap.size x.w w') := fun nm f t x => implReignYear c s ru nm f t n x.w (hT.later x.below)
  have KP : Hid (∀ (y : Int) (x : Later w), Calls Tryz.prog 42 #[.int .i64 y] x.w fun e w' => e = .returned (.string (putRoman y)) ∧ Below x.w.heap.size x.w w') := fun y x => implPutRoman y x.w (hP.later x.below)
  have HH := hideP h
  obtain ⟨ad, cap, rfl, hlc, hm, hnm, hrow⟩ := h
  have HROW := hideP hrow
  unfold maxLen at hm
  clear hrow hnm hT hS hP
  rcases rf_cases (hasD n) l with ⟨ha, _⟩ | ⟨k, hk, ha, hd, _⟩
  · have ha2 : atR l n = -1 := ha
    have HR := hideP (rt_no (c := c) (s := s) (ru := ru) (.inl ha2))
    simp only [ha2] at KA
    clear ha ha2
    go_enter Tryz.func13, Tryz.ntmps13
    go_wp2_with fail
    refine (KA ⟨w, Below.refl _ _⟩).mono ?_
    rintro e wq ⟨rfl, hb⟩
    obtain ⟨x1, rfl⟩ := Later.of hb
    clear hb
    go_wp2
    go_ret
    exact ⟨by rw [HR.out]; rfl, x1.below⟩
  have ha2 : atR l n = (k : Int) := ha
  simp only [ha2] at KA
  obtain ⟨g, rfl, hg, hx⟩ := HROW.out k hk
  have e0 : ∀ x : Later w, x.w.cell? ⟨g, k * 3, none⟩ = some (.string (rgA l k).name) := fun x => (hx.below x.below hg).1
  have e1 : ∀ x : Later w, x.w.cell? ⟨g, k * 3 + 1, none⟩ = some (.int .i64 (rgA l k).fr) := fun x => (hx.below x.below hg).2.1
  have e2 : ∀ x : Later w, x.w.cell? ⟨g, k * 3 + 2, none⟩ = some (.int .i64 (rgA l k).to) := fun x => (hx.below x.below hg).2.2
  clear hx HROW hd ha
  cases ho : reignsOk l
  · have HR := hideP (rt_no (c := c) (s := s) (ru := ru) (n := n) (.inr (.inl ho)))
    simp only [ho] at KO
    clear ho ha2
    go_enter Tryz.func13, Tryz.ntmps13
    go_wp2_with fail
    refine (KA ⟨w, Below.refl _ _⟩).mono ?_
    rintro e wq ⟨rfl, hb⟩
    obtain ⟨x1, rfl⟩ := Later.of hb
    clear hb
    go_wp2_with fail
    refine (KO x1).mono ?_
    rintro e wq ⟨rfl, hb⟩
    obtain ⟨x2, rfl⟩ := x1.next hb
    clear hb
    go_wp2
    go_ret
    exact ⟨by rw [HR.out]; rfl, x2.below⟩
  simp only [ho] at KO
  have hns := name_size (ok_rgn ho hk).1
  have KZ := KY.out (rgA l k).name (rgA l k).fr (rgA l k).to
  have HY0 : Hid (reignYear c s ru (rgA l k).fr (rgA l k).to n = 0 → reignText c s ru l n = ⟨#[]⟩) := fun h0 => rt_no (.inr (.inr (by unfold yearAt; rw [ha2]; exact h0)))
  have HY1 : Hid (reignYear c s ru (rgA l k).fr (rgA l k).to n ≠ 0 → reignText c s ru l n = putRoman (reignYear c s ru (rgA l k).fr (rgA l k).to n) ++ ⟨#[32]⟩ ++ (rgA l k).name) := fun h0 => rt_yes ha2 ho h0
  clear ho ha2 KY
  generalize reignYear c s ru (rgA l k).fr (rgA l k).to n = y at *
  generalize rgA l k = r at *
  obtain ⟨nm, f, t⟩ := r
  dsimp only at e0 e1 e2 hns KZ HY1
  by_cases hy : y = 0
  · have HR := hideP (HY0.out hy)
    subst hy
    go_enter Tryz.func13, Tryz.ntmps13
    go_wp2_with fail
    refine (KA ⟨w, Below.refl _ _⟩).mono ?_
    rintro e wq ⟨rfl, hb⟩
    obtain ⟨x1, rfl⟩ := Later.of hb
    clear hb
    go_wp2_with fail
    refine (KO x1).mono ?_
    rintro e wq ⟨rfl, hb⟩
    obtain ⟨x2, rfl⟩ := x1.next hb
    clear hb
    go_wp2_with fail
    refine (KZ x2).mono ?_
    rintro e wq ⟨rfl, hb⟩
    obtain ⟨x3, rfl⟩ := x2.next hb
    clear hb
    go_wp2
    go_ret
    exact ⟨by rw [HR.out]; rfl, x3.below⟩
  · have HR := hideP (HY1.out hy)
    have hy2 : (y == 0) = false := by simp [hy]
    have KR := KP.out y
    have s2 := rom_sizeR y
    clear KP HY0 HY1
    generalize putRoman y = tx at *
    have s1 : (tx ++ (⟨#[32]⟩ : ByteArray)).size ≤ 16 := by rw [ByteArray.size_append]; show tx.size + 1 ≤ 16; omega
    go_enter Tryz.func13, Tryz.ntmps13
    go_wp2_with fail
    refine (KA ⟨w, Below.refl _ _⟩).mono ?_
    rintro e wq ⟨rfl, hb⟩
    obtain ⟨x1, rfl⟩ := Later.of hb
    clear hb
    go_wp2_with fail
    refine (KO x1).mono ?_
    rintro e wq ⟨rfl, hb⟩
    obtain ⟨x2, rfl⟩ := x1.next hb
    clear hb
    go_wp2_with fail
    refine (KZ x2).mono ?_
    rintro e wq ⟨rfl, hb⟩
    obtain ⟨x3, rfl⟩ := x2.next hb
    clear hb
    go_wp2_with fail
    refine wp_region_later (W := w) x3.below (by kernel_rfl) (by kernel_rfl) ?_
    repeat (go_big_quiet_step (first | (go_at_call 42; exact calls_later (KR _)) | fail))
    refine wpQuiet_nil ?_
    intro _ hw'
    obtain ⟨x, rfl⟩ := hw'
    go_wp2
    go_ret
    exact ⟨by rw [HR.out]; rfl, x.below⟩

set_option maxRecDepth 100000 in
set_option maxHeartbeats 2000000 in
theorem specReignText (c s ru : Int) (v : Value) (l : List Rgn) (n : Int) (w : World) (h : RRow w v l) : Calls Tryz.prog 28 #[.int .i64 c, .int .i64 s, .int .i64 ru, v, .int .i64 n] w fun e w' => e = .returned (.string (reignText c s ru l n)) ∧ Below w.heap.size w w' := by
  have KA : ∀ x : Later w, Calls Tryz.prog 24 #[v, .int .i64 n] x.w fun e w' => e = .returned (.int .i64 (atR l n)) ∧ Below x.w.heap.size x.w w' := fun x => specReignAt v l n x.w (h.below x.below)
  have KO : ∀ x : Later w, Calls Tryz.prog 22 #[v] x.w fun e w' => e = .returned (.bool (reignsOk l)) ∧ Below x.w.heap.size x.w w' := fun x => specReignsOk v l x.w (h.below x.below)
  have KY : Hid (∀ (nm : ByteArray) (f t : Int) (x : Later w), Calls Tryz.prog 25 #[.int .i64 c, .int .i64 s, .int .i64 ru, .agg #[.string nm, .int .i64 f, .int .i64 t], .int .i64 n] x.w fun e w' => e = .returned (.int .i64 (reignYear c s ru f t n)) ∧ Below x.w.heap.size x.w w') := fun nm f t x => specReignYear c s ru nm f t n x.w
  have KP : Hid (∀ (y : Int) (x : Later w), Calls Tryz.prog 63 #[.int .i64 y] x.w fun e w' => e = .returned (.string (putRoman y)) ∧ Below x.w.heap.size x.w w') := fun y x => calls_belR (specPutRoman y x.w)
  have HH := hideP h
  obtain ⟨ad, cap, rfl, hlc, hm, hnm, hrow⟩ := h
  have HROW := hideP hrow
  unfold maxLen at hm
  clear hrow hnm
  rcases rf_cases (hasD n) l with ⟨ha, _⟩ | ⟨k, hk, ha, hd, _⟩
  · have ha2 : atR l n = -1 := ha
    have HR := hideP (rt_no (c := c) (s := s) (ru := ru) (.inl ha2))
    simp only [ha2] at KA
    clear ha ha2
    go_enter Tryz.func28, Tryz.ntmps28
    go_wp2_with fail
    refine (KA ⟨w, Below.refl _ _⟩).mono ?_
    rintro e wq ⟨rfl, hb⟩
    obtain ⟨x1, rfl⟩ := Later.of hb
    clear hb
    go_wp2
    go_ret
    exact ⟨by rw [HR.out]; rfl, x1.below⟩
  have ha2 : atR l n = (k : Int) := ha
  simp only [ha2] at KA
  obtain ⟨g, rfl, hg, hx⟩ := HROW.out k hk
  have e0 : ∀ x : Later w, x.w.cell? ⟨g, k * 3, none⟩ = some (.string (rgA l k).name) := fun x => (hx.below x.below hg).1
  have e1 : ∀ x : Later w, x.w.cell? ⟨g, k * 3 + 1, none⟩ = some (.int .i64 (rgA l k).fr) := fun x => (hx.below x.below hg).2.1
  have e2 : ∀ x : Later w, x.w.cell? ⟨g, k * 3 + 2, none⟩ = some (.int .i64 (rgA l k).to) := fun x => (hx.below x.below hg).2.2
  clear hx HROW hd ha
  cases ho : reignsOk l
  · have HR := hideP (rt_no (c := c) (s := s) (ru := ru) (n := n) (.inr (.inl ho)))
    simp only [ho] at KO
    clear ho ha2
    go_enter Tryz.func28, Tryz.ntmps28
    go_wp2_with fail
    refine (KA ⟨w, Below.refl _ _⟩).mono ?_
    rintro e wq ⟨rfl, hb⟩
    obtain ⟨x1, rfl⟩ := Later.of hb
    clear hb
    go_wp2_with fail
    refine (KO x1).mono ?_
    rintro e wq ⟨rfl, hb⟩
    obtain ⟨x2, rfl⟩ := x1.next hb
    clear hb
    go_wp2
    go_ret
    exact ⟨by rw [HR.out]; rfl, x2.below⟩
  simp only [ho] at KO
  have hns := name_size (ok_rgn ho hk).1
  have KZ := KY.out (rgA l k).name (rgA l k).fr (rgA l k).to
  have HY0 : Hid (reignYear c s ru (rgA l k).fr (rgA l k).to n = 0 → reignText c s ru l n = ⟨#[]⟩) := fun h0 => rt_no (.inr (.inr (by unfold yearAt; rw [ha2]; exact h0)))
  have HY1 : Hid (reignYear c s ru (rgA l k).fr (rgA l k).to n ≠ 0 → reignText c s ru l n = putRoman (reignYear c s ru (rgA l k).fr (rgA l k).to n) ++ ⟨#[32]⟩ ++ (rgA l k).name) := fun h0 => rt_yes ha2 ho h0
  clear ho ha2 KY
  generalize reignYear c s ru (rgA l k).fr (rgA l k).to n = y at *
  generalize rgA l k = r at *
  obtain ⟨nm, f, t⟩ := r
  dsimp only at e0 e1 e2 hns KZ HY1
  by_cases hy : y = 0
  · have HR := hideP (HY0.out hy)
    subst hy
    go_enter Tryz.func28, Tryz.ntmps28
    go_wp2_with fail
    refine (KA ⟨w, Below.refl _ _⟩).mono ?_
    rintro e wq ⟨rfl, hb⟩
    obtain ⟨x1, rfl⟩ := Later.of hb
    clear hb
    go_wp2_with fail
    refine (KO x1).mono ?_
    rintro e wq ⟨rfl, hb⟩
    obtain ⟨x2, rfl⟩ := x1.next hb
    clear hb
    go_wp2_with fail
    refine (KZ x2).mono ?_
    rintro e wq ⟨rfl, hb⟩
    obtain ⟨x3, rfl⟩ := x2.next hb
    clear hb
    go_wp2
    go_ret
    exact ⟨by rw [HR.out]; rfl, x3.below⟩
  · have HR := hideP (HY1.out hy)
    have hy2 : (y == 0) = false := by simp [hy]
    have KR := KP.out y
    have s2 := rom_sizeR y
    clear KP HY0 HY1
    generalize putRoman y = tx at *
    have s1 : (tx ++ (⟨#[32]⟩ : ByteArray)).size ≤ 16 := by rw [ByteArray.size_append]; show tx.size + 1 ≤ 16; omega
    go_enter Tryz.func28, Tryz.ntmps28
    go_wp2_with fail
    refine (KA ⟨w, Below.refl _ _⟩).mono ?_
    rintro e wq ⟨rfl, hb⟩
    obtain ⟨x1, rfl⟩ := Later.of hb
    clear hb
    go_wp2_with fail
    refine (KO x1).mono ?_
    rintro e wq ⟨rfl, hb⟩
    obtain ⟨x2, rfl⟩ := x1.next hb
    clear hb
    go_wp2_with fail
    refine (KZ x2).mono ?_
    rintro e wq ⟨rfl, hb⟩
    obtain ⟨x3, rfl⟩ := x2.next hb
    clear hb
    go_wp2_with fail
    refine wp_region_later (W := w) x3.below (by kernel_rfl) (by kernel_rfl) ?_
    repeat (go_big_quiet_step (first | (go_at_call 63; exact calls_later (KR _)) | fail))
    refine wpQuiet_nil ?_
    intro _ hw'
    obtain ⟨x, rfl⟩ := hw'
    go_wp2
    go_ret
    exact ⟨by rw [HR.out]; rfl, x.below⟩

end Go.Proofs.YtcdcniniafejbaaGreatDoor.ctr
