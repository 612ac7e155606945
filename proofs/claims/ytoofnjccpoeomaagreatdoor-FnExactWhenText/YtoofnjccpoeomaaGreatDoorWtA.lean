/- Contracts of both WhenText: the same plain function. Contracts of both WhenText: the same plain function. -/
import Derived.Test.YtoofnjccpoeomaaGreatDoorWhnOkS
import Derived.Test.YtoofnjccpoeomaaGreatDoorRomTextI
import Derived.Test.YtoofnjccpoeomaaGreatDoorRomTextS
import Derived.Test.YtoofnjccpoeomaaGreatDoorDecImpl
import Derived.Lib.ItoaLen
namespace Go.Proofs.YtoofnjccpoeomaaGreatDoor.ctr
open Go.RowKit

abbrev decT (n : Int) : ByteArray := ⟨(Lib.itoa n).toArray⟩
theorem decT_small {n : Int} (h0 : -9223372036854775808 ≤ n) (h1 : n ≤ 9223372036854775807) : (decT n).size ≤ 21 := by
  have h := Lib.itoa_length_le n h0 h1
  show (Lib.itoa n).toArray.size ≤ 21
  simpa using h
theorem monT_small {m : Int} (h1 : 1 ≤ m) (h2 : m ≤ 12) : (monthText m).size ≤ 3 := by rw [month_size h1 h2]; exact Nat.le_refl _
def plusT (b : ByteArray) (k : Int) : ByteArray := if 0 < k then b ++ ⟨#[43]⟩ ++ decT k else b
def whnTx (s : Whn) : ByteArray := if whnB s = true then (if s.kind = 0 then decT s.day ++ ⟨#[32]⟩ ++ monthText s.mon else if s.kind = 1 then romanText s.rom else plusT s.feast s.plus) else ⟨#[]⟩
abbrev PowT (w : World) : Prop := Lib.TabIs Tryz.prog w "internal/strconv.uint64pow10" .u64 Lib.pow10Tab
theorem PowT.later {w w1 : World} (h : PowT w) (hb : Below w.heap.size w w1) : PowT w1 := kit.tab_below h hb (g := 5) (by kernel_rfl)
theorem asDD (v : Value) (w : World) : (Instr.typeAssert (.iface 72 v) 51 72 true).run Tryz.prog w = .ok (.tuple #[v, .bool true]) w := by kernel_rfl
theorem asRD (v : Value) (w : World) : (Instr.typeAssert (.iface 75 v) 51 72 true).run Tryz.prog w = .ok (.tuple #[.agg #[.int .i64 0, .int .i64 0], .bool false]) w := by kernel_rfl
theorem asFD (v : Value) (w : World) : (Instr.typeAssert (.iface 80 v) 51 72 true).run Tryz.prog w = .ok (.tuple #[.agg #[.int .i64 0, .int .i64 0], .bool false]) w := by kernel_rfl
theorem asRR (v : Value) (w : World) : (Instr.typeAssert (.iface 75 v) 51 75 true).run Tryz.prog w = .ok (.tuple #[v, .bool true]) w := by kernel_rfl
theorem asFR (v : Value) (w : World) : (Instr.typeAssert (.iface 80 v) 51 75 true).run Tryz.prog w = .ok (.tuple #[.agg #[.int .i64 0, .int .i64 0, .int .i64 0, .bool false], .bool false]) w := by kernel_rfl
theorem asFF (v : Value) (w : World) : (Instr.typeAssert (.iface 80 v) 51 80 true).run Tryz.prog w = .ok (.tuple #[v, .bool true]) w := by kernel_rfl

set_option maxHeartbeats 2000000 in
theorem implPlusT (b : ByteArray) (k : Int) (w : World) (hb : b.size ≤ 16) (h0 : 0 ≤ k) (h9 : k ≤ 99) (hP : PowT w) : Calls Tryz.prog 47 #[.string b, .int .i64 k] w fun e w' => e = .returned (.string (plusT b k)) ∧ Below w.heap.size w w' := by
  unfold plusT
  by_cases hk : k = 0
  · subst hk
    rw [if_neg (by omega)]
    go_enter Tryz.func47, Tryz.ntmps47
    go_wp2
    go_ret
    exact ⟨rfl, Below.refl _ _⟩
  · have hk' : (k == 0) = false := by simp [hk]
    rw [if_pos (by omega)]
    have KI : Calls Tryz.prog 28 #[.int .i64 k] w fun e w' => e = .returned (.string (decT k)) ∧ Below w.heap.size w w' := implDecText k w (by omega) (by omega) hP
    have hsz2 : (b ++ (⟨#[43]⟩ : ByteArray)).size ≤ 17 := by rw [ByteArray.size_append]; show b.size + 1 ≤ 17; omega
    have hsz3 := decT_small (n := k) (by omega) (by omega)
    generalize decT k = tk at *
    clear hP
    go_enter Tryz.func47, Tryz.ntmps47
    go_wp2_with fail
    refine KI.mono ?_
    rintro e w1 ⟨rfl, hb1⟩
    go_wp2
    go_ret
    exact ⟨rfl, hb1⟩

set_option maxHeartbeats 4000000 in
theorem txDay (m d : Int) (w : World) (m1 : 1 ≤ m) (m2 : m ≤ 12) (d1 : 1 ≤ d) (d2 : d ≤ 31) (hP : PowT w) (hN : Mon w) : Calls Tryz.prog 23 #[.iface 72 (.agg #[.int .i64 m, .int .i64 d])] w fun e w' => e = .returned (.string (decT d ++ ⟨#[32]⟩ ++ monthText m)) ∧ Below w.heap.size w w' := by
  obtain ⟨W0, hW0, hC, hBl⟩ := box_any w #[.int .i64 m, .int .i64 d] 72
  have c0 : ∀ x : Later W0, x.w.cell? ⟨w.heap.size, 0, none⟩ = some (.int .i64 m) := fun x => (hC x).cell 0 rfl
  have c1 : ∀ x : Later W0, x.w.cell? ⟨w.heap.size, 1, none⟩ = some (.int .i64 d) := fun x => (hC x).cell 1 rfl
  have HW0 := hideP hW0
  have HBl := hideP hBl
  have KD : ∀ z : Later W0, Calls Tryz.prog 28 #[.int .i64 d] z.w fun e w' => e = .returned (.string (decT d)) ∧ Below z.w.heap.size z.w w' := fun z => implDecText d z.w (by omega) (by omega) (hP.later (hBl z))
  have KM : ∀ z : Later W0, Calls Tryz.prog 45 #[.int .i64 m] z.w fun e w' => e = .returned (.string (monthText m)) ∧ Below z.w.heap.size z.w w' := fun z => (implMonthName m z.w (hN.later (hBl z))).mono fun _ _ h => ⟨h.1, by first | exact h.2 | (rw [h.2]; exact Below.refl _ _)⟩
  have z1 := decT_small (n := d) (by omega) (by omega)
  have z2 := monT_small m1 m2
  have q1 := asDD
  clear hW0 hC hBl hP hN m1 m2 d1 d2
  generalize decT d = td at *
  generalize monthText m = tm at *
  have s1 : (td ++ (⟨#[32]⟩ : ByteArray)).size ≤ 22 := by rw [ByteArray.size_append]; show _ + 1 ≤ 22; omega
  have s2 : (td ++ (⟨#[32]⟩ : ByteArray) ++ tm).size ≤ 25 := by rw [ByteArray.size_append]; omega
  go_enter Tryz.func23, Tryz.ntmps23
  go_wp2_with fail
  rw [← HW0.out]
  refine wp_region_later (W := W0) (Below.refl _ _) (by kernel_rfl) (by kernel_rfl) ?_
  repeat (go_big_quiet_step (first | (go_at_call 28; exact calls_later (KD _)) | (go_at_call 45; exact calls_later (KM _)) | fail))
  refine wpQuiet_nil ?_
  intro _ hw'
  obtain ⟨x1, rfl⟩ := hw'
  go_wp2
  go_ret
  exact ⟨rfl, HBl.out x1⟩

set_option maxHeartbeats 4000000 in
theorem txRom (a b c : Int) (t : Bool) (w : World) (hT : Tab w) (hS : Shp w) (hM : Mrk w) (hN : Mon w) : Calls Tryz.prog 23 #[.iface 75 (.agg #[.int .i64 a, .int .i64 b, .int .i64 c, .bool t])] w fun e w' => e = .returned (.string (romanText ⟨a, b, c, t⟩)) ∧ Below w.heap.size w w' := by
  have K : ∀ W, Below w.heap.size w W → Calls Tryz.prog 46 #[.agg #[.int .i64 a, .int .i64 b, .int .i64 c, .bool t]] W fun e w' => e = .returned (.string (romanText ⟨a, b, c, t⟩)) ∧ Below W.heap.size W w' := fun W hb => implRomanText ⟨a, b, c, t⟩ W (hT.later hb) (hS.later hb) (hM.later hb) (hN.later hb)
  have q1 := asRD
  have q2 := asRR
  generalize romanText ⟨a, b, c, t⟩ = rt at *
  clear hT hS hM hN
  have B1 : Below w.heap.size w (w.alloc (.cells #[.int .i64 0, .int .i64 0] 72)) := (Below.refl _ _).alloc (Nat.le_refl _) _
  have B2 := B1.alloc B1.size (.cells #[.int .i64 a, .int .i64 b, .int .i64 c, .bool t] 75)
  go_enter Tryz.func23, Tryz.ntmps23
  go_wp2_with fail
  refine (K _ B2).mono ?_
  rintro e w1 ⟨rfl, hb⟩
  have B3 : Below w.heap.size w w1 := B2.trans (hb.mono B2.size)
  clear hb
  go_wp2
  go_ret
  exact ⟨rfl, B3⟩

set_option maxHeartbeats 4000000 in
theorem txFea (n : ByteArray) (mv : Bool) (o x y p : Int) (w : World) (hn : n.size ≤ 16) (p1 : 0 ≤ p) (p2 : p ≤ 99) (hP : PowT w) : Calls Tryz.prog 23 #[.iface 80 (.agg #[.string n, .bool mv, .int .i64 o, .int .i64 x, .int .i64 y, .int .i64 p])] w fun e w' => e = .returned (.string (plusT n p)) ∧ Below w.heap.size w w' := by
  have K : ∀ W, Below w.heap.size w W → Calls Tryz.prog 47 #[.string n, .int .i64 p] W fun e w' => e = .returned (.string (plusT n p)) ∧ Below W.heap.size W w' := fun W hb => implPlusT n p W hn p1 p2 (hP.later hb)
  have q1 := asFD
  have q2 := asFR
  have q3 := asFF
  generalize plusT n p = rt at *
  clear hP
  have B1 : Below w.heap.size w (w.alloc (.cells #[.int .i64 0, .int .i64 0] 72)) := (Below.refl _ _).alloc (Nat.le_refl _) _
  have B2 := B1.alloc B1.size (.cells #[.int .i64 0, .int .i64 0, .int .i64 0, .bool false] 75)
  have B3 := B2.alloc B2.size (.cells #[.string n, .bool mv, .int .i64 o, .int .i64 x, .int .i64 y, .int .i64 p] 80)
  go_enter Tryz.func23, Tryz.ntmps23
  go_wp2_with fail
  refine (K _ B3).mono ?_
  rintro e w1 ⟨rfl, hb⟩
  have B4 : Below w.heap.size w w1 := B3.trans (hb.mono B3.size)
  clear hb
  go_wp2
  go_ret
  exact ⟨rfl, B4⟩
end Go.Proofs.YtoofnjccpoeomaaGreatDoor.ctr

namespace Go.Proofs.YtoofnjccpoeomaaGreatDoor.ctr
open Go.RowKit

theorem findFrom_name (s : ByteArray) : ∀ (l : List Fea) (k : Nat), 0 ≤ findFrom s l k → ∃ j, findFrom s l k = ((k + j : Nat) : Int) ∧ (l.getD j fea0).name = s
  | [], k, h => by unfold findFrom at h; omega
  | f :: l, k, h => by
    unfold findFrom at h ⊢
    by_cases e : f.name = s
    · rw [if_pos e]
      exact ⟨0, rfl, e⟩
    · rw [if_neg e] at h ⊢
      obtain ⟨j, h1, h2⟩ := findFrom_name s l (k + 1) h
      exact ⟨j + 1, by rw [h1]; omega, h2⟩
theorem find_name {s : ByteArray} (h : 0 ≤ findFeast s) : (feaAt (findFeast s).toNat).name = s := by
  obtain ⟨j, h1, h2⟩ := findFrom_name s feasts 0 h
  have e : findFeast s = ((0 + j : Nat) : Int) := h1
  rw [e, Int.toNat_natCast, Nat.zero_add]
  exact h2
theorem feaOf_name {f : ByteArray} (h : 0 ≤ findFeast f) : (feaOf f).name = f := by
  unfold feaOf
  rw [if_neg (by omega)]
  exact find_name h

theorem whn_cases {k m d a b c : Int} {t : Bool} {f : ByteArray} {p : Int} (h : whnB ⟨k, m, d, ⟨a, b, c, t⟩, f, p⟩ = true) :
    (k = 0 ∧ a = 0 ∧ b = 0 ∧ c = 0 ∧ t = false ∧ f = ⟨#[]⟩ ∧ p = 0 ∧ 1 ≤ m ∧ m ≤ 12 ∧ 1 ≤ d ∧ d ≤ 31) ∨ (k = 1 ∧ m = 0 ∧ d = 0 ∧ f = ⟨#[]⟩ ∧ p = 0 ∧ romB ⟨a, b, c, t⟩ = true) ∨ (k = 2 ∧ m = 0 ∧ d = 0 ∧ a = 0 ∧ b = 0 ∧ c = 0 ∧ t = false ∧ 0 ≤ findFeast f ∧ 0 ≤ p ∧ p ≤ 99) := by
  by_cases h0 : k = 0
  · subst h0
    rw [whnB_0] at h
    simp [inB] at h
    refine .inl ⟨rfl, ?_⟩
    obtain ⟨⟨⟨ha, hb, hc, ht⟩, hf, hp⟩, ⟨m1, m2⟩, d1, d2⟩ := h
    exact ⟨ha, hb, hc, ht, toList_nil hf, hp, m1, m2, d1, d2⟩
  by_cases h1 : k = 1
  · subst h1
    rw [whnB_1] at h
    simp at h
    refine .inr (.inl ⟨rfl, ?_⟩)
    obtain ⟨⟨⟨hm, hd⟩, hf, hp⟩, hr⟩ := h
    exact ⟨hm, hd, toList_nil hf, hp, hr⟩
  by_cases h2 : k = 2
  · subst h2
    rw [whnB_2] at h
    simp [inB] at h
    refine .inr (.inr ⟨rfl, ?_⟩)
    obtain ⟨⟨⟨hm, hd⟩, ha, hb, hc, ht⟩, hz, p1, p2⟩ := h
    exact ⟨hm, hd, ha, hb, hc, ht, hz, p1, p2⟩
  rw [whnB_no h0 h1 h2] at h
  cases h

set_option maxHeartbeats 4000000 in
theorem implWhenText (s : Whn) (w : World) (hT : Tab w) (hS : Shp w) (hM : Mrk w) (hN : Mon w) (hP : PowT w) : Calls Tryz.prog 9 #[whnV s] w fun e w' => e = .returned (.string (whnTx s)) ∧ Below w.heap.size w w' := by
  obtain ⟨k, m, d, ⟨a, b, c, t⟩, f, p⟩ := s
  obtain ⟨W0, hW0, hC, hBl⟩ := box_any w #[.int .i64 k, .int .i64 m, .int .i64 d, .int .i64 a, .int .i64 b, .int .i64 c, .bool t, .string f, .int .i64 p] 30
  have c0 : ∀ x : Later W0, x.w.cell? ⟨w.heap.size, 0, none⟩ = some (.int .i64 k) := fun x => (hC x).cell 0 rfl
  have c1 : ∀ x : Later W0, x.w.cell? ⟨w.heap.size, 1, none⟩ = some (.int .i64 m) := fun x => (hC x).cell 1 rfl
  have c2 : ∀ x : Later W0, x.w.cell? ⟨w.heap.size, 2, none⟩ = some (.int .i64 d) := fun x => (hC x).cell 2 rfl
  have c3 : ∀ x : Later W0, x.w.cell? ⟨w.heap.size, 3, none⟩ = some (.int .i64 a) := fun x => (hC x).cell 3 rfl
  have c4 : ∀ x : Later W0, x.w.cell? ⟨w.heap.size, 4, none⟩ = some (.int .i64 b) := fun x => (hC x).cell 4 rfl
  have c5 : ∀ x : Later W0, x.w.cell? ⟨w.heap.size, 5, none⟩ = some (.int .i64 c) := fun x => (hC x).cell 5 rfl
  have c6 : ∀ x : Later W0, x.w.cell? ⟨w.heap.size, 6, none⟩ = some (.bool t) := fun x => (hC x).cell 6 rfl
  have c7 : ∀ x : Later W0, x.w.cell? ⟨w.heap.size, 7, none⟩ = some (.string f) := fun x => (hC x).cell 7 rfl
  have c8 : ∀ x : Later W0, x.w.cell? ⟨w.heap.size, 8, none⟩ = some (.int .i64 p) := fun x => (hC x).cell 8 rfl
  have HW0 := hideP hW0
  have HBl := hideP hBl
  have KO : ∀ x : Later W0, Calls Tryz.prog 22 #[.agg #[.int .i64 k, .int .i64 m, .int .i64 d, .int .i64 a, .int .i64 b, .int .i64 c, .bool t, .string f, .int .i64 p]] x.w fun e w' => e = .returned (.bool (whnB ⟨k, m, d, ⟨a, b, c, t⟩, f, p⟩)) ∧ Below x.w.heap.size x.w w' := fun x => implWhenOk ⟨k, m, d, ⟨a, b, c, t⟩, f, p⟩ x.w (hT.later (hBl x))
  have HK : whnB ⟨k, m, d, ⟨a, b, c, t⟩, f, p⟩ = true → ∃ v, (∀ W, Calls Tryz.prog 24 #[.agg #[.int .i64 k, .int .i64 m, .int .i64 d, .int .i64 a, .int .i64 b, .int .i64 c, .bool t, .string f, .int .i64 p]] W fun e w' => e = .returned v ∧ Below W.heap.size W w') ∧ ∀ W, Below w.heap.size w W → Calls Tryz.prog 23 #[v] W fun e w' => e = .returned (.string (whnTx ⟨k, m, d, ⟨a, b, c, t⟩, f, p⟩)) ∧ Below W.heap.size W w' := fun h => by
    have e := whn_cases h
    rcases e with ⟨rfl, rfl, rfl, rfl, rfl, rfl, rfl, m1, m2, d1, d2⟩ | ⟨rfl, rfl, rfl, rfl, rfl, _⟩ | ⟨rfl, rfl, rfl, rfl, rfl, rfl, rfl, hz, p1, p2⟩
    · refine ⟨_, fun W => kindDay m d W, fun W hb => ?_⟩
      unfold whnTx
      rw [if_pos h, if_pos rfl]
      exact txDay m d W m1 m2 d1 d2 (hP.later hb) (hN.later hb)
    · refine ⟨_, fun W => kindRom a b c t W, fun W hb => ?_⟩
      unfold whnTx
      rw [if_pos h, if_neg (show ¬ (1 : Int) = 0 by omega), if_pos rfl]
      exact txRom a b c t W (hT.later hb) (hS.later hb) (hM.later hb) (hN.later hb)
    · refine ⟨_, fun W => kindFea f p W, fun W hb => ?_⟩
      unfold whnTx
      rw [if_pos h, if_neg (show ¬ (2 : Int) = 0 by omega), if_neg (show ¬ (2 : Int) = 1 by omega)]
      have := txFea (feaOf f).name (feaOf f).mv (feaOf f).off (feaOf f).m (feaOf f).d p W (feaOf_len f) p1 p2 (hP.later hb)
      rw [feaOf_name hz] at this
      rw [feaOf_name hz]
      exact this
  have HX : whnB ⟨k, m, d, ⟨a, b, c, t⟩, f, p⟩ = false → whnTx ⟨k, m, d, ⟨a, b, c, t⟩, f, p⟩ = ⟨#[]⟩ := fun h => by unfold whnTx; rw [h]; rfl
  generalize whnTx ⟨k, m, d, ⟨a, b, c, t⟩, f, p⟩ = tx at *
  generalize whnB ⟨k, m, d, ⟨a, b, c, t⟩, f, p⟩ = B at *
  clear hW0 hC hBl hT hS hM hN hP
  cases B
  · rw [HX rfl]
    clear HK HX
    go_enter Tryz.func9, Tryz.ntmps9
    go_wp2_with fail
    rw [← HW0.out]
    refine (KO ⟨W0, Below.refl _ _⟩).mono ?_
    rintro e w1 ⟨rfl, hb⟩
    obtain ⟨x1, rfl⟩ := Later.of hb
    clear hb
    go_wp2
    go_ret
    exact ⟨rfl, HBl.out x1⟩
  obtain ⟨v, K1, K2⟩ := HK rfl
  clear HX HK
  go_enter Tryz.func9, Tryz.ntmps9
  go_wp2_with fail
  rw [← HW0.out]
  refine (KO ⟨W0, Below.refl _ _⟩).mono ?_
  rintro e w1 ⟨rfl, hb⟩
  obtain ⟨x1, rfl⟩ := Later.of hb
  clear hb
  go_wp2_with fail
  refine (K1 _).mono ?_
  rintro e w2 ⟨rfl, hb⟩
  obtain ⟨x2, rfl⟩ := x1.next hb
  clear hb
  go_wp2_with fail
  refine (K2 _ (HBl.out x2)).mono ?_
  rintro e w3 ⟨rfl, hb⟩
  obtain ⟨x3, rfl⟩ := x2.next hb
  clear hb
  go_wp2
  go_ret
  exact ⟨rfl, HBl.out x3⟩

set_option maxRecDepth 100000 in
set_option maxHeartbeats 4000000 in
theorem specWhenText (s : Whn) (w : World) : Calls Tryz.prog 7 #[whnV s] w fun e w' => e = .returned (.string (whnTx s)) ∧ Below w.heap.size w w' := by
  obtain ⟨k, m, d, ⟨a, b, c, t⟩, f, p⟩ := s
  obtain ⟨W0, hW0, hC, hBl⟩ := box_any w #[.int .i64 k, .int .i64 m, .int .i64 d, .int .i64 a, .int .i64 b, .int .i64 c, .bool t, .string f, .int .i64 p] 30
  have c0 : ∀ x : Later W0, x.w.cell? ⟨w.heap.size, 0, none⟩ = some (.int .i64 k) := fun x => (hC x).cell 0 rfl
  have c1 : ∀ x : Later W0, x.w.cell? ⟨w.heap.size, 1, none⟩ = some (.int .i64 m) := fun x => (hC x).cell 1 rfl
  have c2 : ∀ x : Later W0, x.w.cell? ⟨w.heap.size, 2, none⟩ = some (.int .i64 d) := fun x => (hC x).cell 2 rfl
  have c3 : ∀ x : Later W0, x.w.cell? ⟨w.heap.size, 3, none⟩ = some (.int .i64 a) := fun x => (hC x).cell 3 rfl
  have c4 : ∀ x : Later W0, x.w.cell? ⟨w.heap.size, 4, none⟩ = some (.int .i64 b) := fun x => (hC x).cell 4 rfl
  have c5 : ∀ x : Later W0, x.w.cell? ⟨w.heap.size, 5, none⟩ = some (.int .i64 c) := fun x => (hC x).cell 5 rfl
  have c6 : ∀ x : Later W0, x.w.cell? ⟨w.heap.size, 6, none⟩ = some (.bool t) := fun x => (hC x).cell 6 rfl
  have c7 : ∀ x : Later W0, x.w.cell? ⟨w.heap.size, 7, none⟩ = some (.string f) := fun x => (hC x).cell 7 rfl
  have c8 : ∀ x : Later W0, x.w.cell? ⟨w.heap.size, 8, none⟩ = some (.int .i64 p) := fun x => (hC x).cell 8 rfl
  have HW0 := hideP hW0
  have HBl := hideP hBl
  have KO : ∀ x : Later W0, Calls Tryz.prog 17 #[.agg #[.int .i64 k, .int .i64 m, .int .i64 d, .int .i64 a, .int .i64 b, .int .i64 c, .bool t, .string f, .int .i64 p]] x.w fun e w' => e = .returned (.bool (whnB ⟨k, m, d, ⟨a, b, c, t⟩, f, p⟩)) ∧ Below x.w.heap.size x.w w' := fun x => specWhenOk ⟨k, m, d, ⟨a, b, c, t⟩, f, p⟩ x.w
  clear hW0 hC hBl
  cases hB : whnB ⟨k, m, d, ⟨a, b, c, t⟩, f, p⟩
  · rw [show whnTx ⟨k, m, d, ⟨a, b, c, t⟩, f, p⟩ = ⟨#[]⟩ by unfold whnTx; rw [hB]; rfl]
    rw [hB] at KO
    clear hB
    go_enter Tryz.func7, Tryz.ntmps7
    go_wp2_with fail
    rw [← HW0.out]
    refine (KO ⟨W0, Below.refl _ _⟩).mono ?_
    rintro e w1 ⟨rfl, hb⟩
    obtain ⟨x1, rfl⟩ := Later.of hb
    clear hb
    go_wp2
    go_ret
    exact ⟨rfl, HBl.out x1⟩
  rw [hB] at KO
  rcases whn_cases hB with ⟨rfl, rfl, rfl, rfl, rfl, rfl, rfl, m1, m2, d1, d2⟩ | ⟨rfl, rfl, rfl, rfl, rfl, _⟩ | ⟨rfl, rfl, rfl, rfl, rfl, rfl, rfl, hz, p1, p2⟩
  · rw [show whnTx ⟨0, m, d, ⟨0, 0, 0, false⟩, ⟨#[]⟩, 0⟩ = decT d ++ ⟨#[32]⟩ ++ monthText m by unfold whnTx; rw [if_pos hB, if_pos rfl]]
    have KD : ∀ z : Later W0, Calls Tryz.prog 18 #[.int .i64 d] z.w fun e w' => e = .returned (.string (decT d)) ∧ Below z.w.heap.size z.w w' := fun z => (specDecText d z.w (by omega) (by omega)).mono fun _ _ h => ⟨h.1, by rw [h.2]; exact Below.refl _ _⟩
    have KM : ∀ z : Later W0, Calls Tryz.prog 19 #[.int .i64 m] z.w fun e w' => e = .returned (.string (monthText m)) ∧ Below z.w.heap.size z.w w' := fun z => specMonthName m z.w
    have z1 := decT_small (n := d) (by omega) (by omega)
    have z2 := monT_small m1 m2
    clear hB m1 m2 d1 d2
    generalize decT d = td at *
    generalize monthText m = tm at *
    have s1 : (td ++ (⟨#[32]⟩ : ByteArray)).size ≤ 22 := by rw [ByteArray.size_append]; show _ + 1 ≤ 22; omega
    have s2 : (td ++ (⟨#[32]⟩ : ByteArray) ++ tm).size ≤ 25 := by rw [ByteArray.size_append]; omega
    go_enter Tryz.func7, Tryz.ntmps7
    go_wp2_with fail
    rw [← HW0.out]
    refine (KO ⟨W0, Below.refl _ _⟩).mono ?_
    rintro e w1 ⟨rfl, hb⟩
    obtain ⟨x1, rfl⟩ := Later.of hb
    clear hb KO
    go_wp2_with fail
    refine wp_region_later (W := W0) x1.below (by kernel_rfl) (by kernel_rfl) ?_
    repeat (go_big_quiet_step (first | (go_at_call 18; exact calls_later (KD _)) | (go_at_call 19; exact calls_later (KM _)) | fail))
    refine wpQuiet_nil ?_
    intro _ hw'
    obtain ⟨x2, rfl⟩ := hw'
    go_wp2
    go_ret
    exact ⟨rfl, HBl.out x2⟩
  · rw [show whnTx ⟨1, 0, 0, ⟨a, b, c, t⟩, ⟨#[]⟩, 0⟩ = romanText ⟨a, b, c, t⟩ by unfold whnTx; rw [if_pos hB, if_neg (show ¬ (1 : Int) = 0 by omega), if_pos rfl]]
    have KR : ∀ W, Calls Tryz.prog 20 #[.agg #[.int .i64 a, .int .i64 b, .int .i64 c, .bool t]] W fun e w' => e = .returned (.string (romanText ⟨a, b, c, t⟩)) ∧ Below W.heap.size W w' := fun W => specRomanText ⟨a, b, c, t⟩ W
    clear hB
    generalize romanText ⟨a, b, c, t⟩ = rt at *
    go_enter Tryz.func7, Tryz.ntmps7
    go_wp2_with fail
    rw [← HW0.out]
    refine (KO ⟨W0, Below.refl _ _⟩).mono ?_
    rintro e w1 ⟨rfl, hb⟩
    obtain ⟨x1, rfl⟩ := Later.of hb
    clear hb KO
    go_wp2_with fail
    refine (KR _).mono ?_
    rintro e w2 ⟨rfl, hb⟩
    obtain ⟨x2, rfl⟩ := x1.next hb
    clear hb
    go_wp2
    go_ret
    exact ⟨rfl, HBl.out x2⟩
  · rw [show whnTx ⟨2, 0, 0, ⟨0, 0, 0, false⟩, f, p⟩ = plusT f p by unfold whnTx; rw [if_pos hB, if_neg (show ¬ (2 : Int) = 0 by omega), if_neg (show ¬ (2 : Int) = 1 by omega)]]
    have hf : f.size ≤ 16 := by have := feaOf_len f; rw [feaOf_name hz] at this; exact this
    clear hB hz
    unfold plusT
    by_cases hp : 0 < p
    case neg =>
      rw [if_neg hp]
      go_enter Tryz.func7, Tryz.ntmps7
      go_wp2_with fail
      rw [← HW0.out]
      refine (KO ⟨W0, Below.refl _ _⟩).mono ?_
      rintro e w1 ⟨rfl, hb⟩
      obtain ⟨x1, rfl⟩ := Later.of hb
      clear hb KO
      go_wp2
      go_ret
      exact ⟨rfl, HBl.out x1⟩
    rw [if_pos hp]
    have KD : ∀ z : Later W0, Calls Tryz.prog 18 #[.int .i64 p] z.w fun e w' => e = .returned (.string (decT p)) ∧ Below z.w.heap.size z.w w' := fun z => (specDecText p z.w (by omega) (by omega)).mono fun _ _ h => ⟨h.1, by rw [h.2]; exact Below.refl _ _⟩
    have z1 := decT_small (n := p) (by omega) (by omega)
    generalize decT p = td at *
    have s1 : (f ++ (⟨#[43]⟩ : ByteArray)).size ≤ 17 := by rw [ByteArray.size_append]; show _ + 1 ≤ 17; omega
    have s2 : (f ++ (⟨#[43]⟩ : ByteArray) ++ td).size ≤ 38 := by rw [ByteArray.size_append]; omega
    go_enter Tryz.func7, Tryz.ntmps7
    go_wp2_with fail
    rw [← HW0.out]
    refine (KO ⟨W0, Below.refl _ _⟩).mono ?_
    rintro e w1 ⟨rfl, hb⟩
    obtain ⟨x1, rfl⟩ := Later.of hb
    clear hb KO
    go_wp2_with fail
    refine wp_region_later (W := W0) x1.below (by kernel_rfl) (by kernel_rfl) ?_
    repeat (go_big_quiet_step (first | (go_at_call 18; exact calls_later (KD _)) | fail))
    refine wpQuiet_nil ?_
    intro _ hw'
    obtain ⟨x2, rfl⟩ := hw'
    go_wp2
    go_ret
    exact ⟨rfl, HBl.out x2⟩
end Go.Proofs.YtoofnjccpoeomaaGreatDoor.ctr
