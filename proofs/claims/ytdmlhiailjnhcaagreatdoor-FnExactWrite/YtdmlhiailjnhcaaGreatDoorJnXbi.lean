/- Contracts of both WhenText: the same plain function; and what else the law reaches. -/
import Derived.Test.YtdmlhiailjnhcaaGreatDoorJnXaa
import Derived.Test.YtdmlhiailjnhcaaGreatDoorJnXbe
import Derived.Test.YtdmlhiailjnhcaaGreatDoorRomTextIX
import Derived.Test.YtdmlhiailjnhcaaGreatDoorJnXap
import Derived.Test.YtdmlhiailjnhcaaGreatDoorJnXas
import Derived.Lib.ItoaLen
namespace Go.Proofs.YtdmlhiailjnhcaaGreatDoor.ctr
open Go.RowKit
abbrev decT (n : Int) : ByteArray := ⟨(Lib.itoa n).toArray⟩
theorem decT_small {n : Int} (h0 : -9223372036854775808 ≤ n) (h1 : n ≤ 9223372036854775807) : (decT n).size ≤ 21 := by
 have h := Lib.itoa_length_le n h0 h1
 show (Lib.itoa n).toArray.size ≤ 21
 simpa using h
theorem monT_small {m : Int} (h1 : 1 ≤ m) (h2 : m ≤ 12) : (monthText m).size ≤ 3 := by rw [month_size h1 h2]; exact Nat.le_refl _
def plusT (b : ByteArray) (k : Int) : ByteArray := if 0 < k then b ++ ⟨#[43]⟩ ++ decT k else b
def whnTx (s : Whn) : ByteArray := if whnB s = true then (if s.kind = 0 then decT s.day ++ ⟨#[32]⟩ ++ monthText s.mon else if s.kind = 1 then romanText s.rom else plusT s.feast s.plus) else ⟨#[]⟩
abbrev PowT (w : World) : Prop := Lib.TabIs Tryz.prog w "internal/strconv.uint64pow10" .u64 Lib.pow10Tab
theorem PowT.later {w w1 : World} (h : PowT w) (hb : Below w.heap.size w w1) : PowT w1 := kit.tab_below h hb (g := 5) (by kernel_rfl)
theorem asDD (v : Value) (w : World) : (Instr.typeAssert (.iface 191 v) 158 191 true).run Tryz.prog w = .ok (.tuple #[v, .bool true]) w := by kernel_rfl
theorem asRD (v : Value) (w : World) : (Instr.typeAssert (.iface 193 v) 158 191 true).run Tryz.prog w = .ok (.tuple #[.agg #[.int .i64 0, .int .i64 0], .bool false]) w := by kernel_rfl
theorem asFD (v : Value) (w : World) : (Instr.typeAssert (.iface 196 v) 158 191 true).run Tryz.prog w = .ok (.tuple #[.agg #[.int .i64 0, .int .i64 0], .bool false]) w := by kernel_rfl
theorem asRR (v : Value) (w : World) : (Instr.typeAssert (.iface 193 v) 158 193 true).run Tryz.prog w = .ok (.tuple #[v, .bool true]) w := by kernel_rfl
theorem asFR (v : Value) (w : World) : (Instr.typeAssert (.iface 196 v) 158 193 true).run Tryz.prog w = .ok (.tuple #[.agg #[.int .i64 0, .int .i64 0, .int .i64 0, .bool false], .bool false]) w := by kernel_rfl
theorem asFF (v : Value) (w : World) : (Instr.typeAssert (.iface 196 v) 158 196 true).run Tryz.prog w = .ok (.tuple #[v, .bool true]) w := by kernel_rfl
set_option maxHeartbeats 2000000 in
theorem implPlusT (b : ByteArray) (k : Int) (w : World) (hb : b.size ≤ 16) (h0 : 0 ≤ k) (h9 : k ≤ 99) (hP : PowT w) : CR 198 #[.string b, .int .i64 k] w (.string (plusT b k)) := by
 unfold plusT
 by_cases hk : k = 0
 · subst hk
   rw [if_neg (by omega)]
   go_enter Tryz.func198, Tryz.ntmps198
   go_wp2
   go_ret
   exact ⟨rfl, Below.refl _ _⟩
 · have hk' : (k == 0) = false := by simp [hk]
   rw [if_pos (by omega)]
   have KI : CR 100 #[.int .i64 k] w (.string (decT k)) := implDecText k w (by omega) (by omega) hP
   have hsz2 : (b ++ (⟨#[43]⟩ : ByteArray)).size ≤ 17 := by rw [ByteArray.size_append]; show b.size + 1 ≤ 17; omega
   have hsz3 := decT_small (n := k) (by omega) (by omega)
   generalize decT k = tk at *
   clear hP
   go_enter Tryz.func198, Tryz.ntmps198
   go_wp2_with fail
   refine KI.mono ?_
   rintro e w1 ⟨rfl, hb1⟩
   go_wp2
   go_ret
   exact ⟨rfl, hb1⟩
set_option maxHeartbeats 4000000 in
theorem txDay (m d : Int) (w : World) (m1 : 1 ≤ m) (m2 : m ≤ 12) (d1 : 1 ≤ d) (d2 : d ≤ 31) (hP : PowT w) (hN : Mon w) : CR 148 #[.iface 191 (.agg #[.int .i64 m, .int .i64 d])] w (.string (decT d ++ ⟨#[32]⟩ ++ monthText m)) := by
 obtain ⟨W0, hW0, hC, hBl⟩ := box_any w #[.int .i64 m, .int .i64 d] 191
 obtain ⟨c0, c1⟩ := cells2 hC
 have HW0 := hideP hW0
 have HBl := hideP hBl
 have KD : ∀ z : Later W0, CR 100 #[.int .i64 d] z.w (.string (decT d)) := fun z => implDecText d z.w (by omega) (by omega) (hP.later (hBl z))
 have KM : ∀ z : Later W0, CR 196 #[.int .i64 m] z.w (.string (monthText m)) := fun z => (implMonthName m z.w (hN.later (hBl z))).mono fun _ _ h => ⟨h.1, by first | exact h.2 | (rw [h.2]; exact Below.refl _ _)⟩
 have z1 := decT_small (n := d) (by omega) (by omega)
 have z2 := monT_small m1 m2
 have q1 := asDD
 clear hW0 hC hBl hP hN m1 m2 d1 d2
 generalize decT d = td at *
 generalize monthText m = tm at *
 have s1 : (td ++ (⟨#[32]⟩ : ByteArray)).size ≤ 22 := by rw [ByteArray.size_append]; show _ + 1 ≤ 22; omega
 have s2 : (td ++ (⟨#[32]⟩ : ByteArray) ++ tm).size ≤ 25 := by rw [ByteArray.size_append]; omega
 go_enter Tryz.func148, Tryz.ntmps148
 go_wp2_with fail
 rw [← HW0.out]
 refine wp_region_later (W := W0) (Below.refl _ _) (by kernel_rfl) (by kernel_rfl) ?_
 repeat (go_big_quiet_step (first | (go_at_call 100; exact calls_later (KD _)) | (go_at_call 196; exact calls_later (KM _)) | fail))
 refine wpQuiet_nil ?_
 intro _ hw'
 obtain ⟨x1, rfl⟩ := hw'
 go_wp2
 go_ret
 exact ⟨rfl, HBl.out x1⟩
set_option maxHeartbeats 4000000 in
theorem txRom (a b c : Int) (t : Bool) (w : World) (hT : Tab w) (hS : Shp w) (hM : Mrk w) (hN : Mon w) : CR 148 #[.iface 193 (.agg #[.int .i64 a, .int .i64 b, .int .i64 c, .bool t])] w (.string (romanText ⟨a, b, c, t⟩)) := by
 have K : ∀ W, Below w.heap.size w W → CR 197 #[.agg #[.int .i64 a, .int .i64 b, .int .i64 c, .bool t]] W (.string (romanText ⟨a, b, c, t⟩)) := fun W hb => implRomanText ⟨a, b, c, t⟩ W (hT.later hb) (hS.later hb) (hM.later hb) (hN.later hb)
 have q1 := asRD
 have q2 := asRR
 generalize romanText ⟨a, b, c, t⟩ = rt at *
 clear hT hS hM hN
 have B1 : Below w.heap.size w (w.alloc (.cells #[.int .i64 0, .int .i64 0] 191)) := (Below.refl _ _).alloc (Nat.le_refl _) _
 have B2 := B1.alloc B1.size (.cells #[.int .i64 a, .int .i64 b, .int .i64 c, .bool t] 193)
 go_enter Tryz.func148, Tryz.ntmps148
 go_wp2_with fail
 refine (K _ B2).mono ?_
 rintro e w1 ⟨rfl, hb⟩
 have B3 : Below w.heap.size w w1 := B2.trans (hb.mono B2.size)
 clear hb
 go_wp2
 go_ret
 exact ⟨rfl, B3⟩
set_option maxHeartbeats 4000000 in
theorem txFea (n : ByteArray) (mv : Bool) (o x y p : Int) (w : World) (hn : n.size ≤ 16) (p1 : 0 ≤ p) (p2 : p ≤ 99) (hP : PowT w) : CR 148 #[.iface 196 (.agg #[.string n, .bool mv, .int .i64 o, .int .i64 x, .int .i64 y, .int .i64 p])] w (.string (plusT n p)) := by
 have K : ∀ W, Below w.heap.size w W → CR 198 #[.string n, .int .i64 p] W (.string (plusT n p)) := fun W hb => implPlusT n p W hn p1 p2 (hP.later hb)
 have q1 := asFD
 have q2 := asFR
 have q3 := asFF
 generalize plusT n p = rt at *
 clear hP
 have B1 : Below w.heap.size w (w.alloc (.cells #[.int .i64 0, .int .i64 0] 191)) := (Below.refl _ _).alloc (Nat.le_refl _) _
 have B2 := B1.alloc B1.size (.cells #[.int .i64 0, .int .i64 0, .int .i64 0, .bool false] 193)
 have B3 := B2.alloc B2.size (.cells #[.string n, .bool mv, .int .i64 o, .int .i64 x, .int .i64 y, .int .i64 p] 196)
 go_enter Tryz.func148, Tryz.ntmps148
 go_wp2_with fail
 refine (K _ B3).mono ?_
 rintro e w1 ⟨rfl, hb⟩
 have B4 : Below w.heap.size w w1 := B3.trans (hb.mono B3.size)
 clear hb
 go_wp2
 go_ret
 exact ⟨rfl, B4⟩
set_option maxHeartbeats 4000000 in
theorem implWhenText (s : Whn) (w : World) (hT : Tab w) (hS : Shp w) (hM : Mrk w) (hN : Mon w) (hP : PowT w) : CR 99 #[whnV s] w (.string (whnTx s)) := by
 obtain ⟨k, m, d, ⟨a, b, c, t⟩, f, p⟩ := s
 obtain ⟨W0, hW0, hC, hBl⟩ := box_any w #[.int .i64 k, .int .i64 m, .int .i64 d, .int .i64 a, .int .i64 b, .int .i64 c, .bool t, .string f, .int .i64 p] 31
 obtain ⟨c0, c1, c2, c3, c4, c5, c6, c7, c8⟩ := cells9 hC
 have HW0 := hideP hW0
 have HBl := hideP hBl
 have KO : ∀ x : Later W0, CR 136 #[.agg #[.int .i64 k, .int .i64 m, .int .i64 d, .int .i64 a, .int .i64 b, .int .i64 c, .bool t, .string f, .int .i64 p]] x.w (.bool (whnB ⟨k, m, d, ⟨a, b, c, t⟩, f, p⟩)) := fun x => implWhenOk ⟨k, m, d, ⟨a, b, c, t⟩, f, p⟩ x.w (hT.later (hBl x))
 have HK : whnB ⟨k, m, d, ⟨a, b, c, t⟩, f, p⟩ = true → ∃ v, (∀ W, CR 139 #[.agg #[.int .i64 k, .int .i64 m, .int .i64 d, .int .i64 a, .int .i64 b, .int .i64 c, .bool t, .string f, .int .i64 p]] W v) ∧ ∀ W, Below w.heap.size w W → CR 148 #[v] W (.string (whnTx ⟨k, m, d, ⟨a, b, c, t⟩, f, p⟩)) := fun h => by
  have e := whn_cases h
  rcases e with ⟨rfl, rfl, rfl, rfl, rfl, rfl, rfl, m1, m2, d1, d2⟩ | ⟨rfl, rfl, rfl, rfl, rfl, _⟩ | ⟨rfl, rfl, rfl, rfl, rfl, rfl, rfl, hz, p1, p2⟩
  · refine ⟨_, fun W => kindDay m d W, fun W hb => ?_⟩
    unfold whnTx
    rw [if_pos h, if_pos rfl]
    exact txDay m d W m1 m2 d1 d2 (hP.later hb) (hN.later hb)
  · refine ⟨_, fun W => kindRom a b c t W, fun W hb => ?_⟩
    unfold whnTx
    rw [if_pos h, if_neg (show ¬ (1 : Int) = 0 by omega), if_pos rfl]
    exact txRom a b c t W (hT.later hb) (hS.later hb) (hM.later hb) (hN.later hb)
  · refine ⟨_, fun W => kindFea f p W, fun W hb => ?_⟩
    unfold whnTx
    rw [if_pos h, if_neg (show ¬ (2 : Int) = 0 by omega), if_neg (show ¬ (2 : Int) = 1 by omega)]
    have := txFea (feaOf f).name (feaOf f).mv (feaOf f).off (feaOf f).m (feaOf f).d p W (feaOf_len f) p1 p2 (hP.later hb)
    rw [feaOf_name hz] at this
    rw [feaOf_name hz]
    exact this
 have HX : whnB ⟨k, m, d, ⟨a, b, c, t⟩, f, p⟩ = false → whnTx ⟨k, m, d, ⟨a, b, c, t⟩, f, p⟩ = ⟨#[]⟩ := fun h => by unfold whnTx; rw [h]; rfl
 generalize whnTx ⟨k, m, d, ⟨a, b, c, t⟩, f, p⟩ = tx at *
 generalize whnB ⟨k, m, d, ⟨a, b, c, t⟩, f, p⟩ = B at *
 clear hW0 hC hBl hT hS hM hN hP
 cases B
 · rw [HX rfl]
   clear HK HX
   go_enter Tryz.func99, Tryz.ntmps99
   go_wp2_with fail
   rw [← HW0.out]
   refine latO (KO ⟨W0, Below.refl _ _⟩) fun x1 => ?_
   go_wp2
   go_ret
   exact ⟨rfl, HBl.out x1⟩
 obtain ⟨v, K1, K2⟩ := HK rfl
 clear HX HK
 go_enter Tryz.func99, Tryz.ntmps99
 go_wp2_with fail
 rw [← HW0.out]
 refine latO (KO ⟨W0, Below.refl _ _⟩) fun x1 => ?_
 go_wp2_with fail
 refine lat (K1 _) fun x2 => ?_
 go_wp2_with fail
 refine lat (K2 _ (HBl.out x2)) fun x3 => ?_
 go_wp2
 go_ret
 exact ⟨rfl, HBl.out x3⟩
set_option maxRecDepth 100000 in
set_option maxHeartbeats 4000000 in
theorem specWhenText (s : Whn) (w : World) : CR 96 #[whnV s] w (.string (whnTx s)) := by
 obtain ⟨k, m, d, ⟨a, b, c, t⟩, f, p⟩ := s
 obtain ⟨W0, hW0, hC, hBl⟩ := box_any w #[.int .i64 k, .int .i64 m, .int .i64 d, .int .i64 a, .int .i64 b, .int .i64 c, .bool t, .string f, .int .i64 p] 31
 obtain ⟨c0, c1, c2, c3, c4, c5, c6, c7, c8⟩ := cells9 hC
 have HW0 := hideP hW0
 have HBl := hideP hBl
 have KO : ∀ x : Later W0, CR 133 #[.agg #[.int .i64 k, .int .i64 m, .int .i64 d, .int .i64 a, .int .i64 b, .int .i64 c, .bool t, .string f, .int .i64 p]] x.w (.bool (whnB ⟨k, m, d, ⟨a, b, c, t⟩, f, p⟩)) := fun x => specWhenOk ⟨k, m, d, ⟨a, b, c, t⟩, f, p⟩ x.w
 clear hW0 hC hBl
 cases hB : whnB ⟨k, m, d, ⟨a, b, c, t⟩, f, p⟩
 · rw [show whnTx ⟨k, m, d, ⟨a, b, c, t⟩, f, p⟩ = ⟨#[]⟩ by unfold whnTx; rw [hB]; rfl]
   rw [hB] at KO
   clear hB
   go_enter Tryz.func96, Tryz.ntmps96
   go_wp2_with fail
   rw [← HW0.out]
   refine latO (KO ⟨W0, Below.refl _ _⟩) fun x1 => ?_
   go_wp2
   go_ret
   exact ⟨rfl, HBl.out x1⟩
 rw [hB] at KO
 rcases whn_cases hB with ⟨rfl, rfl, rfl, rfl, rfl, rfl, rfl, m1, m2, d1, d2⟩ | ⟨rfl, rfl, rfl, rfl, rfl, _⟩ | ⟨rfl, rfl, rfl, rfl, rfl, rfl, rfl, hz, p1, p2⟩
 focus
   rw [show whnTx ⟨0, m, d, ⟨0, 0, 0, false⟩, ⟨#[]⟩, 0⟩ = decT d ++ ⟨#[32]⟩ ++ monthText m by unfold whnTx; rw [if_pos hB, if_pos rfl]]
   have KD : ∀ z : Later W0, CR 97 #[.int .i64 d] z.w (.string (decT d)) := fun z => (specDecText d z.w (by omega) (by omega)).mono fun _ _ h => ⟨h.1, by rw [h.2]; exact Below.refl _ _⟩
   have KM : ∀ z : Later W0, CR 146 #[.int .i64 m] z.w (.string (monthText m)) := fun z => specMonthName m z.w
   have z1 := decT_small (n := d) (by omega) (by omega)
   have z2 := monT_small m1 m2
   clear hB m1 m2 d1 d2
   generalize decT d = td at *
   generalize monthText m = tm at *
   have s1 : (td ++ (⟨#[32]⟩ : ByteArray)).size ≤ 22 := by rw [ByteArray.size_append]; show _ + 1 ≤ 22; omega
   have s2 : (td ++ (⟨#[32]⟩ : ByteArray) ++ tm).size ≤ 25 := by rw [ByteArray.size_append]; omega
 rotate_left
 focus
   rw [show whnTx ⟨1, 0, 0, ⟨a, b, c, t⟩, ⟨#[]⟩, 0⟩ = romanText ⟨a, b, c, t⟩ by unfold whnTx; rw [if_pos hB, if_neg (show ¬ (1 : Int) = 0 by omega), if_pos rfl]]
   have KR : ∀ W, CR 147 #[.agg #[.int .i64 a, .int .i64 b, .int .i64 c, .bool t]] W (.string (romanText ⟨a, b, c, t⟩)) := fun W => specRomanText ⟨a, b, c, t⟩ W
   clear hB
   generalize romanText ⟨a, b, c, t⟩ = rt at *
 rotate_left
 focus
   rw [show whnTx ⟨2, 0, 0, ⟨0, 0, 0, false⟩, f, p⟩ = plusT f p by unfold whnTx; rw [if_pos hB, if_neg (show ¬ (2 : Int) = 0 by omega), if_neg (show ¬ (2 : Int) = 1 by omega)]]
   have hf : f.size ≤ 16 := by have := feaOf_len f; rw [feaOf_name hz] at this; exact this
   clear hB hz
   unfold plusT
   by_cases hp : 0 < p
   case neg =>
    rw [if_neg hp]
    go_enter Tryz.func96, Tryz.ntmps96
    go_wp2_with fail
    rw [← HW0.out]
    refine latO (KO ⟨W0, Below.refl _ _⟩) fun x1 => ?_
    clear KO
    go_wp2
    go_ret
    exact ⟨rfl, HBl.out x1⟩
   rw [if_pos hp]
   have KD : ∀ z : Later W0, CR 97 #[.int .i64 p] z.w (.string (decT p)) := fun z => (specDecText p z.w (by omega) (by omega)).mono fun _ _ h => ⟨h.1, by rw [h.2]; exact Below.refl _ _⟩
   have z1 := decT_small (n := p) (by omega) (by omega)
   generalize decT p = td at *
   have s1 : (f ++ (⟨#[43]⟩ : ByteArray)).size ≤ 17 := by rw [ByteArray.size_append]; show _ + 1 ≤ 17; omega
   have s2 : (f ++ (⟨#[43]⟩ : ByteArray) ++ td).size ≤ 38 := by rw [ByteArray.size_append]; omega
 rotate_left
 all_goals
  go_enter Tryz.func96, Tryz.ntmps96
  go_wp2_with fail
  rw [← HW0.out]
  refine latO (KO ⟨W0, Below.refl _ _⟩) fun x1 => ?_
  clear KO
  go_wp2_with fail
 · refine wp_region_later (W := W0) x1.below (by kernel_rfl) (by kernel_rfl) ?_
   repeat (go_big_quiet_step (first | (go_at_call 97; exact calls_later (KD _)) | (go_at_call 146; exact calls_later (KM _)) | fail))
   refine wpQuiet_nil ?_
   intro _ hw'
   obtain ⟨x2, rfl⟩ := hw'
   go_wp2
   go_ret
   exact ⟨rfl, HBl.out x2⟩
 · refine lat (KR _) fun x2 => ?_
   go_wp2
   go_ret
   exact ⟨rfl, HBl.out x2⟩
 · refine wp_region_later (W := W0) x1.below (by kernel_rfl) (by kernel_rfl) ?_
   repeat (go_big_quiet_step (first | (go_at_call 97; exact calls_later (KD _)) | fail))
   refine wpQuiet_nil ?_
   intro _ hw'
   obtain ⟨x2, rfl⟩ := hw'
   go_wp2
   go_ret
   exact ⟨rfl, HBl.out x2⟩
def sayTx (s : Say) : ByteArray := if sayB s = true then (let t1 := whnTx s.whn ++ ⟨#[32]⟩ ++ decT s.year; let t2 := if s.sol = -1 then t1 else t1 ++ (⟨#[47]⟩ ++ decT s.sol); if s.cal = -1 then t2 else t2 ++ (⟨#[32]⟩ ++ calText s.cal)) else ⟨#[]⟩
theorem sayTx_no {s : Say} (h : sayB s = false) : sayTx s = ⟨#[]⟩ := by unfold sayTx; rw [h]; rfl
theorem sayTx_yes {s : Say} (h : sayB s = true) : sayTx s = (let t1 := whnTx s.whn ++ ⟨#[32]⟩ ++ decT s.year; let t2 := if s.sol = -1 then t1 else t1 ++ (⟨#[47]⟩ ++ decT s.sol); if s.cal = -1 then t2 else t2 ++ (⟨#[32]⟩ ++ calText s.cal)) := by unfold sayTx; rw [if_pos h]
theorem app_size (a b : ByteArray) (n m : Nat) (h1 : a.size ≤ n) (h2 : b.size ≤ m) : (a ++ b).size ≤ n + m := by rw [ByteArray.size_append]; omega
theorem whnTx_size (s : Whn) : (whnTx s).size ≤ 60 := by
 unfold whnTx
 by_cases h : whnB s = true
 · rw [if_pos h]
   obtain ⟨k, m, d, ⟨a, b, c, t⟩, f, p⟩ := s
   rcases whn_cases h with ⟨rfl, rfl, rfl, rfl, rfl, rfl, rfl, m1, m2, d1, d2⟩ | ⟨rfl, rfl, rfl, rfl, rfl, _⟩ | ⟨rfl, rfl, rfl, rfl, rfl, rfl, rfl, hz, p1, p2⟩
   · rw [if_pos rfl]
     have := app_size (decT d ++ ⟨#[32]⟩) (monthText m) 22 3 (app_size (decT d) ⟨#[32]⟩ 21 1 (decT_small (by omega) (by omega)) (Nat.le_refl 1)) (monT_small m1 m2)
     exact Nat.le_trans this (by omega)
   · rw [if_neg (show ¬ (1 : Int) = 0 by omega), if_pos rfl]
     exact Nat.le_trans (text_size _) (by omega)
   · rw [if_neg (show ¬ (2 : Int) = 0 by omega), if_neg (show ¬ (2 : Int) = 1 by omega)]
     have hf : f.size ≤ 16 := by have := feaOf_len f; rw [feaOf_name hz] at this; exact this
     show (plusT f p).size ≤ 60
     unfold plusT
     split
     · exact Nat.le_trans (app_size (f ++ ⟨#[43]⟩) (decT p) 17 21 (app_size f ⟨#[43]⟩ 16 1 hf (Nat.le_refl 1)) (decT_small (by omega) (by omega))) (by omega)
     · omega
 · rw [if_neg h]
   decide
theorem say_parts {k m d a b c : Int} {t : Bool} {f : ByteArray} {p y so ca : Int} (h : sayB ⟨⟨k, m, d, ⟨a, b, c, t⟩, f, p⟩, y, so, ca⟩ = true) : 1 ≤ y ∧ y ≤ 3000 ∧ (so = -1 ∨ (1 ≤ so ∧ so ≤ 3000)) ∧ (ca = -1 ∨ ca = 0 ∨ ca = 1) := by
 unfold sayB at h
 simp [inB] at h
 obtain ⟨_, ⟨y1, y2⟩, h3, h4⟩ := h
 refine ⟨y1, y2, ?_, ?_⟩
 · rcases h3 with h3 | h3
   · exact .inl h3
   · exact .inr h3
 · rcases h4 with h4 | h4
   · exact .inl h4
   · exact .inr (by rcases Classical.em (ca = 0 ∨ ca = 1) with q | q; exact q; rw [calB_no (by omega)] at h4; cases h4)
theorem cal_size {c : Int} (h : c = 0 ∨ c = 1) : (calText c).size ≤ 3 := by rcases h with rfl | rfl <;> decide
set_option maxRecDepth 100000 in
set_option maxHeartbeats 8000000 in
theorem implSayingText (s : Say) (w : World) (hT : Tab w) (hS : Shp w) (hM : Mrk w) (hN : Mon w) (hP : PowT w) : CR 52 #[sayV s] w (.string (sayTx s)) := by
 obtain ⟨⟨k, m, d, ⟨a, b, c, t⟩, f, p⟩, y, so, ca⟩ := s
 obtain ⟨W0, hW0, hC, hBl⟩ := box_any w #[.int .i64 k, .int .i64 m, .int .i64 d, .int .i64 a, .int .i64 b, .int .i64 c, .bool t, .string f, .int .i64 p, .int .i64 y, .int .i64 so, .int .i64 ca] 44
 obtain ⟨c0, c1, c2, c3, c4, c5, c6, c7, c8, c9, c10, c11⟩ := cells12 hC
 have HW0 := hideP hW0
 have HBl := hideP hBl
 have KO : ∀ x : Later W0, CR 87 #[.agg #[.int .i64 k, .int .i64 m, .int .i64 d, .int .i64 a, .int .i64 b, .int .i64 c, .bool t, .string f, .int .i64 p, .int .i64 y, .int .i64 so, .int .i64 ca]] x.w (.bool (sayB ⟨⟨k, m, d, ⟨a, b, c, t⟩, f, p⟩, y, so, ca⟩)) := fun x => implSayingOk ⟨⟨k, m, d, ⟨a, b, c, t⟩, f, p⟩, y, so, ca⟩ x.w (hT.later (hBl x))
 have KW : ∀ x : Later W0, CR 99 #[.agg #[.int .i64 k, .int .i64 m, .int .i64 d, .int .i64 a, .int .i64 b, .int .i64 c, .bool t, .string f, .int .i64 p]] x.w (.string (whnTx ⟨k, m, d, ⟨a, b, c, t⟩, f, p⟩)) := fun x => implWhenText ⟨k, m, d, ⟨a, b, c, t⟩, f, p⟩ x.w (hT.later (hBl x)) (hS.later (hBl x)) (hM.later (hBl x)) (hN.later (hBl x)) (hP.later (hBl x))
 cases hB : sayB ⟨⟨k, m, d, ⟨a, b, c, t⟩, f, p⟩, y, so, ca⟩
 · rw [sayTx_no hB]
   rw [hB] at KO
   clear hW0 hC hBl hB hT hS hM hN hP
   go_enter Tryz.func52, Tryz.ntmps52
   go_wp2_with fail
   rw [← HW0.out]
   refine latO (KO ⟨W0, Below.refl _ _⟩) fun x1 => ?_
   go_wp2
   go_ret
   exact ⟨rfl, HBl.out x1⟩
 rw [sayTx_yes hB]
 rw [hB] at KO
 obtain ⟨y1, y2, hso, hca⟩ := say_parts hB
 have KD : ∀ x : Later W0, CR 100 #[.int .i64 y] x.w (.string (decT y)) := fun x => implDecText y x.w (by omega) (by omega) (hP.later (hBl x))
 have KQ : ∀ x : Later W0, CR 100 #[.int .i64 so] x.w (.string (decT so)) := fun x => implDecText so x.w (by omega) (by omega) (hP.later (hBl x))
 have KN : ∀ W, Calls Tryz.prog 101 #[.int .i64 ca] W fun e w' => e = .returned (.string (calText ca)) ∧ w' = W := fun W => implCalName ca W
 have z1 := whnTx_size ⟨k, m, d, ⟨a, b, c, t⟩, f, p⟩
 have z2 := decT_small (n := y) (by omega) (by omega)
 have z3 := decT_small (n := so) (by omega) (by omega)
 have z4 : ca = -1 ∨ (ca ≠ -1 ∧ (calText ca).size ≤ 3) := by rcases hca with h | h; exact .inl h; exact .inr ⟨by omega, cal_size h⟩
 clear hW0 hC hBl hB y1 y2 hca hT hS hM hN hP
 simp only []
 generalize whnTx ⟨k, m, d, ⟨a, b, c, t⟩, f, p⟩ = tw at *
 generalize decT y = ty at *
 generalize decT so = ts at *
 generalize calText ca = tc at *
 have s1 : (tw ++ (⟨#[32]⟩ : ByteArray)).size ≤ 61 := app_size _ _ 60 1 z1 (Nat.le_refl 1)
 have s2 : (tw ++ (⟨#[32]⟩ : ByteArray) ++ ty).size ≤ 82 := app_size _ _ 61 21 s1 z2
 rcases hso with rfl | hso
 · rw [if_pos rfl]
   rcases z4 with rfl | ⟨cn, z4⟩
   focus
     rw [if_pos rfl]
     clear KN KQ
   rotate_left
   focus
     rw [if_neg cn]
     have e2 : (ca == -1) = false := by simpa using cn
   rotate_left
   all_goals
    go_enter Tryz.func52, Tryz.ntmps52
    go_wp2_with fail
    rw [← HW0.out]
    refine latO (KO ⟨W0, Below.refl _ _⟩) fun x1 => ?_
    go_wp2_with fail
    refine wp_region_later (W := W0) x1.below (by kernel_rfl) (by kernel_rfl) ?_
    repeat (go_big_quiet_step (first | (go_at_call 99; exact calls_later (KW _)) | (go_at_call 100; exact calls_later (KD _)) | fail))
    refine wpQuiet_nil ?_
    intro _ hw'
    obtain ⟨x2, rfl⟩ := hw'
    clear KO KW KD
   · go_wp2
     go_ret
     exact ⟨rfl, HBl.out x2⟩
   have s6 : ((⟨#[32]⟩ : ByteArray) ++ tc).size ≤ 4 := app_size _ _ 1 3 (Nat.le_refl 1) z4
   have s7 : ((tw ++ (⟨#[32]⟩ : ByteArray) ++ ty) ++ ((⟨#[32]⟩ : ByteArray) ++ tc)).size ≤ 86 := app_size _ _ 82 4 s2 s6
   go_wp2_with fail
   refine (KN _).mono ?_
   rintro e wz ⟨rfl, rfl⟩
   go_wp2
   go_ret
   exact ⟨rfl, HBl.out x2⟩
 rw [if_neg (show ¬ so = -1 by omega)]
 have e1 : (so == -1) = false := by simp; omega
 have s3 : ((⟨#[47]⟩ : ByteArray) ++ ts).size ≤ 22 := app_size _ _ 1 21 (Nat.le_refl 1) z3
 clear hso
 rcases z4 with rfl | ⟨cn, z4⟩
 focus
   rw [if_pos rfl]
   clear KN
 rotate_left
 focus
   rw [if_neg cn]
   have e2 : (ca == -1) = false := by simpa using cn
 rotate_left
 all_goals
  go_enter Tryz.func52, Tryz.ntmps52
  go_wp2_with fail
  rw [← HW0.out]
  refine latO (KO ⟨W0, Below.refl _ _⟩) fun x1 => ?_
  go_wp2_with fail
  refine wp_region_later (W := W0) x1.below (by kernel_rfl) (by kernel_rfl) ?_
  repeat (go_big_quiet_step (first | (go_at_call 99; exact calls_later (KW _)) | (go_at_call 100; exact calls_later (KD _)) | fail))
  refine wpQuiet_nil ?_
  intro _ hw'
  obtain ⟨x2, rfl⟩ := hw'
  clear KO KW KD
  have s4 : ((tw ++ (⟨#[32]⟩ : ByteArray) ++ ty) ++ ((⟨#[47]⟩ : ByteArray) ++ ts)).size ≤ 104 := app_size _ _ 82 22 s2 s3
 · go_wp2_with fail
   refine lat (KQ x2) fun x3 => ?_
   go_wp2
   go_ret
   exact ⟨rfl, HBl.out x3⟩
 have s6 : ((⟨#[32]⟩ : ByteArray) ++ tc).size ≤ 4 := app_size _ _ 1 3 (Nat.le_refl 1) z4
 have s7 : ((tw ++ (⟨#[32]⟩ : ByteArray) ++ ty) ++ ((⟨#[47]⟩ : ByteArray) ++ ts) ++ ((⟨#[32]⟩ : ByteArray) ++ tc)).size ≤ 108 := app_size _ _ 104 4 s4 s6
 go_wp2_with fail
 refine lat (KQ x2) fun x3 => ?_
 go_wp2_with fail
 refine (KN _).mono ?_
 rintro e wz ⟨rfl, rfl⟩
 go_wp2
 go_ret
 exact ⟨rfl, HBl.out x3⟩
set_option maxRecDepth 100000 in
set_option maxHeartbeats 8000000 in
theorem specSayingText (s : Say) (w : World) : CR 51 #[sayV s] w (.string (sayTx s)) := by
 obtain ⟨⟨k, m, d, ⟨a, b, c, t⟩, f, p⟩, y, so, ca⟩ := s
 obtain ⟨W0, hW0, hC, hBl⟩ := box_any w #[.int .i64 k, .int .i64 m, .int .i64 d, .int .i64 a, .int .i64 b, .int .i64 c, .bool t, .string f, .int .i64 p, .int .i64 y, .int .i64 so, .int .i64 ca] 44
 obtain ⟨c0, c1, c2, c3, c4, c5, c6, c7, c8, c9, c10, c11⟩ := cells12 hC
 have HW0 := hideP hW0
 have HBl := hideP hBl
 have KO : ∀ x : Later W0, CR 84 #[.agg #[.int .i64 k, .int .i64 m, .int .i64 d, .int .i64 a, .int .i64 b, .int .i64 c, .bool t, .string f, .int .i64 p, .int .i64 y, .int .i64 so, .int .i64 ca]] x.w (.bool (sayB ⟨⟨k, m, d, ⟨a, b, c, t⟩, f, p⟩, y, so, ca⟩)) := fun x => specSayingOk ⟨⟨k, m, d, ⟨a, b, c, t⟩, f, p⟩, y, so, ca⟩ x.w
 have KW : ∀ x : Later W0, CR 96 #[.agg #[.int .i64 k, .int .i64 m, .int .i64 d, .int .i64 a, .int .i64 b, .int .i64 c, .bool t, .string f, .int .i64 p]] x.w (.string (whnTx ⟨k, m, d, ⟨a, b, c, t⟩, f, p⟩)) := fun x => specWhenText ⟨k, m, d, ⟨a, b, c, t⟩, f, p⟩ x.w
 cases hB : sayB ⟨⟨k, m, d, ⟨a, b, c, t⟩, f, p⟩, y, so, ca⟩
 · rw [sayTx_no hB]
   rw [hB] at KO
   clear hW0 hC hBl hB
   go_enter Tryz.func51, Tryz.ntmps51
   go_wp2_with fail
   rw [← HW0.out]
   refine latO (KO ⟨W0, Below.refl _ _⟩) fun x1 => ?_
   go_wp2
   go_ret
   exact ⟨rfl, HBl.out x1⟩
 rw [sayTx_yes hB]
 rw [hB] at KO
 obtain ⟨y1, y2, hso, hca⟩ := say_parts hB
 have KD : ∀ x : Later W0, CR 97 #[.int .i64 y] x.w (.string (decT y)) := fun x => (specDecText y x.w (by omega) (by omega)).mono fun _ _ h => ⟨h.1, by rw [h.2]; exact Below.refl _ _⟩
 have KQ : ∀ x : Later W0, CR 97 #[.int .i64 so] x.w (.string (decT so)) := fun x => (specDecText so x.w (by omega) (by omega)).mono fun _ _ h => ⟨h.1, by rw [h.2]; exact Below.refl _ _⟩
 have KN : ∀ W, Calls Tryz.prog 98 #[.int .i64 ca] W fun e w' => e = .returned (.string (calText ca)) ∧ w' = W := fun W => specCalName ca W
 have z1 := whnTx_size ⟨k, m, d, ⟨a, b, c, t⟩, f, p⟩
 have z2 := decT_small (n := y) (by omega) (by omega)
 have z3 := decT_small (n := so) (by omega) (by omega)
 have z4 : ca = -1 ∨ (ca ≠ -1 ∧ (calText ca).size ≤ 3) := by rcases hca with h | h; exact .inl h; exact .inr ⟨by omega, cal_size h⟩
 clear hW0 hC hBl hB y1 y2 hca
 simp only []
 simp only [← ByteArray.append_assoc]
 generalize whnTx ⟨k, m, d, ⟨a, b, c, t⟩, f, p⟩ = tw at *
 generalize decT y = ty at *
 generalize decT so = ts at *
 generalize calText ca = tc at *
 have s1 : (tw ++ (⟨#[32]⟩ : ByteArray)).size ≤ 61 := app_size _ _ 60 1 z1 (Nat.le_refl 1)
 have s2 : (tw ++ (⟨#[32]⟩ : ByteArray) ++ ty).size ≤ 82 := app_size _ _ 61 21 s1 z2
 rcases hso with rfl | hso
 · rw [if_pos rfl]
   rcases z4 with rfl | ⟨cn, z4⟩
   focus
     rw [if_pos rfl]
     clear KN KQ
   rotate_left
   focus
     rw [if_neg cn]
     have e2 : (ca == -1) = false := by simpa using cn
   rotate_left
   all_goals
    go_enter Tryz.func51, Tryz.ntmps51
    go_wp2_with fail
    rw [← HW0.out]
    refine latO (KO ⟨W0, Below.refl _ _⟩) fun x1 => ?_
    go_wp2_with fail
    refine wp_region_later (W := W0) x1.below (by kernel_rfl) (by kernel_rfl) ?_
    repeat (go_big_quiet_step (first | (go_at_call 96; exact calls_later (KW _)) | (go_at_call 97; exact calls_later (KD _)) | fail))
    refine wpQuiet_nil ?_
    intro _ hw'
    obtain ⟨x2, rfl⟩ := hw'
    clear KO KW KD
   · go_wp2
     go_ret
     exact ⟨rfl, HBl.out x2⟩
   have s6 : ((tw ++ (⟨#[32]⟩ : ByteArray) ++ ty) ++ (⟨#[32]⟩ : ByteArray)).size ≤ 83 := app_size _ _ 82 1 s2 (Nat.le_refl 1)
   have s7 : ((tw ++ (⟨#[32]⟩ : ByteArray) ++ ty) ++ (⟨#[32]⟩ : ByteArray) ++ tc).size ≤ 86 := app_size _ _ 83 3 s6 z4
   go_wp2_with fail
   refine (KN _).mono ?_
   rintro e wz ⟨rfl, rfl⟩
   go_wp2
   go_ret
   exact ⟨rfl, HBl.out x2⟩
 rw [if_neg (show ¬ so = -1 by omega)]
 have e1 : (so == -1) = false := by simp; omega
 have s3 : ((⟨#[47]⟩ : ByteArray) ++ ts).size ≤ 22 := app_size _ _ 1 21 (Nat.le_refl 1) z3
 clear hso
 rcases z4 with rfl | ⟨cn, z4⟩
 focus
   rw [if_pos rfl]
   clear KN
 rotate_left
 focus
   rw [if_neg cn]
   have e2 : (ca == -1) = false := by simpa using cn
 rotate_left
 all_goals
  go_enter Tryz.func51, Tryz.ntmps51
  go_wp2_with fail
  rw [← HW0.out]
  refine latO (KO ⟨W0, Below.refl _ _⟩) fun x1 => ?_
  go_wp2_with fail
  refine wp_region_later (W := W0) x1.below (by kernel_rfl) (by kernel_rfl) ?_
  repeat (go_big_quiet_step (first | (go_at_call 96; exact calls_later (KW _)) | (go_at_call 97; exact calls_later (KD _)) | fail))
  refine wpQuiet_nil ?_
  intro _ hw'
  obtain ⟨x2, rfl⟩ := hw'
  clear KO KW KD
  have s4 : ((tw ++ (⟨#[32]⟩ : ByteArray) ++ ty) ++ (⟨#[47]⟩ : ByteArray)).size ≤ 83 := app_size _ _ 82 1 s2 (Nat.le_refl 1)
  have s5 : ((tw ++ (⟨#[32]⟩ : ByteArray) ++ ty) ++ (⟨#[47]⟩ : ByteArray) ++ ts).size ≤ 104 := app_size _ _ 83 21 s4 z3
 · go_wp2_with fail
   refine lat (KQ x2) fun x3 => ?_
   go_wp2
   go_ret
   exact ⟨rfl, HBl.out x3⟩
 have s6 : ((tw ++ (⟨#[32]⟩ : ByteArray) ++ ty) ++ (⟨#[47]⟩ : ByteArray) ++ ts ++ (⟨#[32]⟩ : ByteArray)).size ≤ 105 := app_size _ _ 104 1 s5 (Nat.le_refl 1)
 have s7 : ((tw ++ (⟨#[32]⟩ : ByteArray) ++ ty) ++ (⟨#[47]⟩ : ByteArray) ++ ts ++ (⟨#[32]⟩ : ByteArray) ++ tc).size ≤ 108 := app_size _ _ 105 3 s6 z4
 go_wp2_with fail
 refine lat (KQ x2) fun x3 => ?_
 go_wp2_with fail
 refine (KN _).mono ?_
 rintro e wz ⟨rfl, rfl⟩
 go_wp2
 go_ret
 exact ⟨rfl, HBl.out x3⟩
end Go.Proofs.YtdmlhiailjnhcaaGreatDoor.ctr
