/- Contracts of both WhenText: the same plain function; and what else the law reaches. -/
import Derived.Test.YtpclaceefapppaaGreatDoorJnZad
import Derived.Test.YtpclaceefapppaaGreatDoorJnZbf
import Derived.Test.YtpclaceefapppaaGreatDoorJnZaz
import Derived.Test.YtpclaceefapppaaGreatDoorJnZaw
import Derived.Test.YtpclaceefapppaaGreatDoorJnZat
import Derived.Lib.ItoaLen
import Derived.Test.YtpclaceefapppaaGreatDoorJnZan
import Derived.Test.YtpclaceefapppaaGreatDoorJnZar
import Derived.Test.YtpclaceefapppaaGreatDoorJnZau
import Derived.Test.YtpclaceefapppaaGreatDoorJnZbh
import Derived.Test.YtpclaceefapppaaGreatDoorJnZaf
set_option maxRecDepth 100000
set_option maxHeartbeats 8000000
namespace Go.Proofs.YtpclaceefapppaaGreatDoor.ctr
open Go.RowKit
abbrev decT (n : Int) : ByteArray := ⟨(Lib.itoa n).toArray⟩
theorem decT_small {n : Int} (h0 : -9223372036854775808 ≤ n) (h1 : n ≤ 9223372036854775807) : (decT n).size ≤ 21 := by
 have h := Lib.itoa_length_le n h0 h1
 show (Lib.itoa n).toArray.size ≤ 21
 simpa using h
theorem monT_small {m : Int} (h1 : 1 ≤ m) (h2 : m ≤ 12) : (monthText m).size ≤ 3 := by rw [month_size h1 h2]; exact Nat.le_refl _
def plusT (b : ByteArray) (k : Int) : ByteArray := if 0 < k then b ++ ⟨#[43]⟩ ++ decT k else b
def whnTx (s : Whn) : ByteArray := if whnB s = true then (if s.kind = 0 then decT s.day ++ ⟨#[32]⟩ ++ monthText s.mon else if s.kind = 1 then romanText s.rom else plusT s.feast s.plus) else ⟨#[]⟩
abbrev PowT (w : World) : Prop := Lib.TabIs Tryz.prog w "internal/strconv.uint64pow10" .u64 Lib.pow10Tab
theorem PowT.later {w w1 : World} (h : PowT w) (hb : Below w.heap.size w w1) : PowT w1 := kit.tab_below h hb (g := 7) (by kernel_rfl)
theorem asDD (v : Value) (w : World) : (Instr.typeAssert (.iface 218 v) 150 218 true).run Tryz.prog w = .ok (.tuple #[v, .bool true]) w := by kernel_rfl
theorem asRD (v : Value) (w : World) : (Instr.typeAssert (.iface 220 v) 150 218 true).run Tryz.prog w = .ok (.tuple #[.agg #[.int .i64 0, .int .i64 0], .bool false]) w := by kernel_rfl
theorem asFD (v : Value) (w : World) : (Instr.typeAssert (.iface 223 v) 150 218 true).run Tryz.prog w = .ok (.tuple #[.agg #[.int .i64 0, .int .i64 0], .bool false]) w := by kernel_rfl
theorem asRR (v : Value) (w : World) : (Instr.typeAssert (.iface 220 v) 150 220 true).run Tryz.prog w = .ok (.tuple #[v, .bool true]) w := by kernel_rfl
theorem asFR (v : Value) (w : World) : (Instr.typeAssert (.iface 223 v) 150 220 true).run Tryz.prog w = .ok (.tuple #[.agg #[.int .i64 0, .int .i64 0, .int .i64 0, .bool false], .bool false]) w := by kernel_rfl
theorem asFF (v : Value) (w : World) : (Instr.typeAssert (.iface 223 v) 150 223 true).run Tryz.prog w = .ok (.tuple #[v, .bool true]) w := by kernel_rfl
theorem implPlusT (b : ByteArray) (k : Int) (w : World) (hb : b.size ≤ 16) (h0 : 0 ≤ k) (h9 : k ≤ 99) (hP : PowT w) : CR 240 #[.string b, .int .i64 k] w (.string (plusT b k)) := by
 unfold plusT
 by_cases hk : k = 0
 · subst hk
   rw [if_neg (by omega)]
   go_enter Tryz.func240, Tryz.ntmps240
   go_wp2
   go_ret
   exact ⟨rfl, Below.refl _ _⟩
 · have hk' : (k == 0) = false := by simp [hk]
   rw [if_pos (by omega)]
   have KI : CR 123 #[.int .i64 k] w (.string (decT k)) := implDecText k w (by omega) (by omega) hP
   have hsz2 : (b ++ (⟨#[43]⟩ : ByteArray)).size ≤ 17 := by rw [ByteArray.size_append]; show b.size + 1 ≤ 17; omega
   have hsz3 := decT_small (n := k) (by omega) (by omega)
   generalize decT k = tk at *
   clear hP
   go_enter Tryz.func240, Tryz.ntmps240
   go_wp2_with fail
   refine KI.mono ?_
   rintro e w1 ⟨rfl, hb1⟩
   go_wp2
   go_ret
   exact ⟨rfl, hb1⟩
theorem txDay (m d : Int) (w : World) (m1 : 1 ≤ m) (m2 : m ≤ 12) (d1 : 1 ≤ d) (d2 : d ≤ 31) (hP : PowT w) (hN : Mon w) : CR 176 #[.iface 218 (.agg #[.int .i64 m, .int .i64 d])] w (.string (decT d ++ ⟨#[32]⟩ ++ monthText m)) := by
 obtain ⟨W0, hW0, hC, hBl⟩ := box_any w #[.int .i64 m, .int .i64 d] 218
 obtain ⟨c0, c1⟩ := cells2 hC
 have HW0 := hideP hW0
 have HBl := hideP hBl
 have KD : ∀ z : Later W0, CR 123 #[.int .i64 d] z.w (.string (decT d)) := fun z => implDecText d z.w (by omega) (by omega) (hP.later (hBl z))
 have KM : ∀ z : Later W0, CR 238 #[.int .i64 m] z.w (.string (monthText m)) := fun z => (implMonthName m z.w (hN.later (hBl z))).mono fun _ _ h => ⟨h.1, by first | exact h.2 | (rw [h.2]; exact Below.refl _ _)⟩
 have z1 := decT_small (n := d) (by omega) (by omega)
 have z2 := monT_small m1 m2
 have q1 := asDD
 clear hW0 hC hBl hP hN m1 m2 d1 d2
 generalize decT d = td at *
 generalize monthText m = tm at *
 have s1 : (td ++ (⟨#[32]⟩ : ByteArray)).size ≤ 22 := by rw [ByteArray.size_append]; show _ + 1 ≤ 22; omega
 have s2 : (td ++ (⟨#[32]⟩ : ByteArray) ++ tm).size ≤ 25 := by rw [ByteArray.size_append]; omega
 go_enter Tryz.func176, Tryz.ntmps176
 go_wp2_with fail
 rw [← HW0.out]
 refine wp_region_later (W := W0) (Below.refl _ _) (by kernel_rfl) (by kernel_rfl) ?_
 repeat (go_big_quiet_step (first | (go_at_call 123; exact calls_later (KD _)) | (go_at_call 238; exact calls_later (KM _)) | fail))
 refine quietE fun x1 => ?_
 go_wp2
 go_ret
 exact ⟨rfl, HBl.out x1⟩
theorem txRom (a b c : Int) (t : Bool) (w : World) (hT : Tab w) (hS : Shp w) (hM : Mrk w) (hN : Mon w) : CR 176 #[.iface 220 (.agg #[.int .i64 a, .int .i64 b, .int .i64 c, .bool t])] w (.string (romanText ⟨a, b, c, t⟩)) := by
 have K : ∀ W, Below w.heap.size w W → CR 170 #[.agg #[.int .i64 a, .int .i64 b, .int .i64 c, .bool t]] W (.string (romanText ⟨a, b, c, t⟩)) := fun W hb => implRomanText ⟨a, b, c, t⟩ W (hT.later hb) (hS.later hb) (hM.later hb) (hN.later hb)
 have q1 := asRD
 have q2 := asRR
 generalize romanText ⟨a, b, c, t⟩ = rt at *
 clear hT hS hM hN
 have B1 : Below w.heap.size w (w.alloc (.cells #[.int .i64 0, .int .i64 0] 218)) := (Below.refl _ _).alloc (Nat.le_refl _) _
 have B2 := B1.alloc B1.size (.cells #[.int .i64 a, .int .i64 b, .int .i64 c, .bool t] 220)
 go_enter Tryz.func176, Tryz.ntmps176
 go_wp2_with fail
 refine (K _ B2).mono ?_
 rintro e w1 ⟨rfl, hb⟩
 have B3 : Below w.heap.size w w1 := B2.trans (hb.mono B2.size)
 clear hb
 go_wp2
 go_ret
 exact ⟨rfl, B3⟩
theorem txFea (n : ByteArray) (mv : Bool) (o x y p : Int) (w : World) (hn : n.size ≤ 16) (p1 : 0 ≤ p) (p2 : p ≤ 99) (hP : PowT w) : CR 176 #[.iface 223 (.agg #[.string n, .bool mv, .int .i64 o, .int .i64 x, .int .i64 y, .int .i64 p])] w (.string (plusT n p)) := by
 have K : ∀ W, Below w.heap.size w W → CR 240 #[.string n, .int .i64 p] W (.string (plusT n p)) := fun W hb => implPlusT n p W hn p1 p2 (hP.later hb)
 have q1 := asFD
 have q2 := asFR
 have q3 := asFF
 generalize plusT n p = rt at *
 clear hP
 have B1 : Below w.heap.size w (w.alloc (.cells #[.int .i64 0, .int .i64 0] 218)) := (Below.refl _ _).alloc (Nat.le_refl _) _
 have B2 := B1.alloc B1.size (.cells #[.int .i64 0, .int .i64 0, .int .i64 0, .bool false] 220)
 have B3 := B2.alloc B2.size (.cells #[.string n, .bool mv, .int .i64 o, .int .i64 x, .int .i64 y, .int .i64 p] 223)
 go_enter Tryz.func176, Tryz.ntmps176
 go_wp2_with fail
 refine (K _ B3).mono ?_
 rintro e w1 ⟨rfl, hb⟩
 have B4 : Below w.heap.size w w1 := B3.trans (hb.mono B3.size)
 clear hb
 go_wp2
 go_ret
 exact ⟨rfl, B4⟩
theorem implWhenText (s : Whn) (w : World) (hT : Tab w) (hS : Shp w) (hM : Mrk w) (hN : Mon w) (hP : PowT w) : CR 122 #[whnV s] w (.string (whnTx s)) := by
 obtain ⟨k, m, d, ⟨a, b, c, t⟩, f, p⟩ := s
 obtain ⟨W0, hW0, hC, hBl⟩ := box_any w #[.int .i64 k, .int .i64 m, .int .i64 d, .int .i64 a, .int .i64 b, .int .i64 c, .bool t, .string f, .int .i64 p] 56
 obtain ⟨c0, c1, c2, c3, c4, c5, c6, c7, c8⟩ := cells9 hC
 have HW0 := hideP hW0
 have HBl := hideP hBl
 have KO : ∀ x : Later W0, CR 130 #[.agg #[.int .i64 k, .int .i64 m, .int .i64 d, .int .i64 a, .int .i64 b, .int .i64 c, .bool t, .string f, .int .i64 p]] x.w (.bool (whnB ⟨k, m, d, ⟨a, b, c, t⟩, f, p⟩)) := fun x => implWhenOk ⟨k, m, d, ⟨a, b, c, t⟩, f, p⟩ x.w (hT.later (hBl x))
 have HK : whnB ⟨k, m, d, ⟨a, b, c, t⟩, f, p⟩ = true → ∃ v, (∀ W, CR 133 #[.agg #[.int .i64 k, .int .i64 m, .int .i64 d, .int .i64 a, .int .i64 b, .int .i64 c, .bool t, .string f, .int .i64 p]] W v) ∧ ∀ W, Below w.heap.size w W → CR 176 #[v] W (.string (whnTx ⟨k, m, d, ⟨a, b, c, t⟩, f, p⟩)) := fun h => by
  have e := whn_cases h
  rcases e with ⟨rfl, rfl, rfl, rfl, rfl, rfl, rfl, m1, m2, d1, d2⟩ | ⟨rfl, rfl, rfl, rfl, rfl, _⟩ | ⟨rfl, rfl, rfl, rfl, rfl, rfl, rfl, hz, p1, p2⟩
  · refine ⟨_, fun W => kindDay m d W, fun W hb => ?_⟩
    unfold whnTx
    rw [if_pos h, if_pos rfl]
    exact txDay m d W m1 m2 d1 d2 (hP.later hb) (hN.later hb)
  · refine ⟨_, fun W => kindRom a b c t W, fun W hb => ?_⟩
    unfold whnTx
    rw [if_pos h, if_neg (show ¬ (1 : Int) = 0 by omega), if_pos rfl]
    exact txRom a b c t W (hT.later hb) (hS.later hb) (hM.later hb) (hN.later hb)
  · refine ⟨_, fun W => kindFea f p W, fun W hb => ?_⟩
    unfold whnTx
    rw [if_pos h, if_neg (show ¬ (2 : Int) = 0 by omega), if_neg (show ¬ (2 : Int) = 1 by omega)]
    have := txFea (feaOf f).name (feaOf f).mv (feaOf f).off (feaOf f).m (feaOf f).d p W (feaOf_len f) p1 p2 (hP.later hb)
    rw [feaOf_name hz] at this
    rw [feaOf_name hz]
    exact this
 have HX : whnB ⟨k, m, d, ⟨a, b, c, t⟩, f, p⟩ = false → whnTx ⟨k, m, d, ⟨a, b, c, t⟩, f, p⟩ = ⟨#[]⟩ := fun h => by unfold whnTx; rw [h]; rfl
 generalize whnTx ⟨k, m, d, ⟨a, b, c, t⟩, f, p⟩ = tx at *
 generalize whnB ⟨k, m, d, ⟨a, b, c, t⟩, f, p⟩ = B at *
 clear hW0 hC hBl hT hS hM hN hP
 cases B
 · rw [HX rfl]
   clear HK HX
   go_enter Tryz.func122, Tryz.ntmps122
   go_wp2_with fail
   rw [← HW0.out]
   refine latO (KO ⟨W0, Below.refl _ _⟩) fun x1 => ?_
   go_wp2
   go_ret
   exact ⟨rfl, HBl.out x1⟩
 obtain ⟨v, K1, K2⟩ := HK rfl
 clear HX HK
 go_enter Tryz.func122, Tryz.ntmps122
 go_wp2_with fail
 rw [← HW0.out]
 refine latO (KO ⟨W0, Below.refl _ _⟩) fun x1 => ?_
 go_wp2_with fail
 refine lat (K1 _) fun x2 => ?_
 go_wp2_with fail
 refine lat (K2 _ (HBl.out x2)) fun x3 => ?_
 go_wp2
 go_ret
 exact ⟨rfl, HBl.out x3⟩
theorem specWhenText (s : Whn) (w : World) : CR 104 #[whnV s] w (.string (whnTx s)) := by
 obtain ⟨k, m, d, ⟨a, b, c, t⟩, f, p⟩ := s
 obtain ⟨W0, hW0, hC, hBl⟩ := box_any w #[.int .i64 k, .int .i64 m, .int .i64 d, .int .i64 a, .int .i64 b, .int .i64 c, .bool t, .string f, .int .i64 p] 56
 obtain ⟨c0, c1, c2, c3, c4, c5, c6, c7, c8⟩ := cells9 hC
 have HW0 := hideP hW0
 have HBl := hideP hBl
 have KO : ∀ x : Later W0, CR 108 #[.agg #[.int .i64 k, .int .i64 m, .int .i64 d, .int .i64 a, .int .i64 b, .int .i64 c, .bool t, .string f, .int .i64 p]] x.w (.bool (whnB ⟨k, m, d, ⟨a, b, c, t⟩, f, p⟩)) := fun x => specWhenOk ⟨k, m, d, ⟨a, b, c, t⟩, f, p⟩ x.w
 clear hW0 hC hBl
 cases hB : whnB ⟨k, m, d, ⟨a, b, c, t⟩, f, p⟩
 · rw [show whnTx ⟨k, m, d, ⟨a, b, c, t⟩, f, p⟩ = ⟨#[]⟩ by unfold whnTx; rw [hB]; rfl]
   rw [hB] at KO
   clear hB
   go_enter Tryz.func104, Tryz.ntmps104
   go_wp2_with fail
   rw [← HW0.out]
   refine latO (KO ⟨W0, Below.refl _ _⟩) fun x1 => ?_
   go_wp2
   go_ret
   exact ⟨rfl, HBl.out x1⟩
 rw [hB] at KO
 rcases whn_cases hB with ⟨rfl, rfl, rfl, rfl, rfl, rfl, rfl, m1, m2, d1, d2⟩ | ⟨rfl, rfl, rfl, rfl, rfl, _⟩ | ⟨rfl, rfl, rfl, rfl, rfl, rfl, rfl, hz, p1, p2⟩
 focus
   rw [show whnTx ⟨0, m, d, ⟨0, 0, 0, false⟩, ⟨#[]⟩, 0⟩ = decT d ++ ⟨#[32]⟩ ++ monthText m by unfold whnTx; rw [if_pos hB, if_pos rfl]]
   have KD : ∀ z : Later W0, CR 99 #[.int .i64 d] z.w (.string (decT d)) := fun z => (specDecText d z.w (by omega) (by omega)).mono fun _ _ h => ⟨h.1, by rw [h.2]; exact Below.refl _ _⟩
   have KM : ∀ z : Later W0, CR 151 #[.int .i64 m] z.w (.string (monthText m)) := fun z => specMonthName m z.w
   have z1 := decT_small (n := d) (by omega) (by omega)
   have z2 := monT_small m1 m2
   clear hB m1 m2 d1 d2
   generalize decT d = td at *
   generalize monthText m = tm at *
   have s1 : (td ++ (⟨#[32]⟩ : ByteArray)).size ≤ 22 := by rw [ByteArray.size_append]; show _ + 1 ≤ 22; omega
   have s2 : (td ++ (⟨#[32]⟩ : ByteArray) ++ tm).size ≤ 25 := by rw [ByteArray.size_append]; omega
 rotate_left
 focus
   rw [show whnTx ⟨1, 0, 0, ⟨a, b, c, t⟩, ⟨#[]⟩, 0⟩ = romanText ⟨a, b, c, t⟩ by unfold whnTx; rw [if_pos hB, if_neg (show ¬ (1 : Int) = 0 by omega), if_pos rfl]]
   have KR : ∀ W, CR 147 #[.agg #[.int .i64 a, .int .i64 b, .int .i64 c, .bool t]] W (.string (romanText ⟨a, b, c, t⟩)) := fun W => specRomanText ⟨a, b, c, t⟩ W
   clear hB
   generalize romanText ⟨a, b, c, t⟩ = rt at *
 rotate_left
 focus
   rw [show whnTx ⟨2, 0, 0, ⟨0, 0, 0, false⟩, f, p⟩ = plusT f p by unfold whnTx; rw [if_pos hB, if_neg (show ¬ (2 : Int) = 0 by omega), if_neg (show ¬ (2 : Int) = 1 by omega)]]
   have hf : f.size ≤ 16 := by have := feaOf_len f; rw [feaOf_name hz] at this; exact this
   clear hB hz
   unfold plusT
   by_cases hp : 0 < p
   case neg =>
    rw [if_neg hp]
    go_enter Tryz.func104, Tryz.ntmps104
    go_wp2_with fail
    rw [← HW0.out]
    refine latO (KO ⟨W0, Below.refl _ _⟩) fun x1 => ?_
    clear KO
    go_wp2
    go_ret
    exact ⟨rfl, HBl.out x1⟩
   rw [if_pos hp]
   have KD : ∀ z : Later W0, CR 99 #[.int .i64 p] z.w (.string (decT p)) := fun z => (specDecText p z.w (by omega) (by omega)).mono fun _ _ h => ⟨h.1, by rw [h.2]; exact Below.refl _ _⟩
   have z1 := decT_small (n := p) (by omega) (by omega)
   generalize decT p = td at *
   have s1 : (f ++ (⟨#[43]⟩ : ByteArray)).size ≤ 17 := by rw [ByteArray.size_append]; show _ + 1 ≤ 17; omega
   have s2 : (f ++ (⟨#[43]⟩ : ByteArray) ++ td).size ≤ 38 := by rw [ByteArray.size_append]; omega
 rotate_left
 all_goals
  go_enter Tryz.func104, Tryz.ntmps104
  go_wp2_with fail
  rw [← HW0.out]
  refine latO (KO ⟨W0, Below.refl _ _⟩) fun x1 => ?_
  clear KO
  go_wp2_with fail
 · refine wp_region_later (W := W0) x1.below (by kernel_rfl) (by kernel_rfl) ?_
   repeat (go_big_quiet_step (first | (go_at_call 99; exact calls_later (KD _)) | (go_at_call 151; exact calls_later (KM _)) | fail))
   refine quietE fun x2 => ?_
   go_wp2
   go_ret
   exact ⟨rfl, HBl.out x2⟩
 · refine lat (KR _) fun x2 => ?_
   go_wp2
   go_ret
   exact ⟨rfl, HBl.out x2⟩
 · refine wp_region_later (W := W0) x1.below (by kernel_rfl) (by kernel_rfl) ?_
   repeat (go_big_quiet_step (first | (go_at_call 99; exact calls_later (KD _)) | fail))
   refine quietE fun x2 => ?_
   go_wp2
   go_ret
   exact ⟨rfl, HBl.out x2⟩
def sayTx (s : Say) : ByteArray := if sayB s = true then (let t1 := whnTx s.whn ++ ⟨#[32]⟩ ++ decT s.year; let t2 := if s.sol = -1 then t1 else t1 ++ (⟨#[47]⟩ ++ decT s.sol); if s.cal = -1 then t2 else t2 ++ (⟨#[32]⟩ ++ calText s.cal)) else ⟨#[]⟩
theorem sayTx_no {s : Say} (h : sayB s = false) : sayTx s = ⟨#[]⟩ := by unfold sayTx; rw [h]; rfl
theorem sayTx_yes {s : Say} (h : sayB s = true) : sayTx s = (let t1 := whnTx s.whn ++ ⟨#[32]⟩ ++ decT s.year; let t2 := if s.sol = -1 then t1 else t1 ++ (⟨#[47]⟩ ++ decT s.sol); if s.cal = -1 then t2 else t2 ++ (⟨#[32]⟩ ++ calText s.cal)) := by unfold sayTx; rw [if_pos h]
theorem app_size (a b : ByteArray) (n m : Nat) (h1 : a.size ≤ n) (h2 : b.size ≤ m) : (a ++ b).size ≤ n + m := by rw [ByteArray.size_append]; omega
theorem whnTx_size (s : Whn) : (whnTx s).size ≤ 60 := by
 unfold whnTx
 by_cases h : whnB s = true
 · rw [if_pos h]
   obtain ⟨k, m, d, ⟨a, b, c, t⟩, f, p⟩ := s
   rcases whn_cases h with ⟨rfl, rfl, rfl, rfl, rfl, rfl, rfl, m1, m2, d1, d2⟩ | ⟨rfl, rfl, rfl, rfl, rfl, _⟩ | ⟨rfl, rfl, rfl, rfl, rfl, rfl, rfl, hz, p1, p2⟩
   · rw [if_pos rfl]
     have := app_size (decT d ++ ⟨#[32]⟩) (monthText m) 22 3 (app_size (decT d) ⟨#[32]⟩ 21 1 (decT_small (by omega) (by omega)) (Nat.le_refl 1)) (monT_small m1 m2)
     exact Nat.le_trans this (by omega)
   · rw [if_neg (show ¬ (1 : Int) = 0 by omega), if_pos rfl]
     exact Nat.le_trans (text_size _) (by omega)
   · rw [if_neg (show ¬ (2 : Int) = 0 by omega), if_neg (show ¬ (2 : Int) = 1 by omega)]
     have hf : f.size ≤ 16 := by have := feaOf_len f; rw [feaOf_name hz] at this; exact this
     show (plusT f p).size ≤ 60
     unfold plusT
     split
     · exact Nat.le_trans (app_size (f ++ ⟨#[43]⟩) (decT p) 17 21 (app_size f ⟨#[43]⟩ 16 1 hf (Nat.le_refl 1)) (decT_small (by omega) (by omega))) (by omega)
     · omega
 · rw [if_neg h]
   decide
theorem say_parts {k m d a b c : Int} {t : Bool} {f : ByteArray} {p y so ca : Int} (h : sayB ⟨⟨k, m, d, ⟨a, b, c, t⟩, f, p⟩, y, so, ca⟩ = true) : 1 ≤ y ∧ y ≤ 3000 ∧ (so = -1 ∨ (1 ≤ so ∧ so ≤ 3000)) ∧ (ca = -1 ∨ ca = 0 ∨ ca = 1) := by
 unfold sayB at h
 simp [inB] at h
 obtain ⟨_, ⟨y1, y2⟩, h3, h4⟩ := h
 refine ⟨y1, y2, ?_, ?_⟩
 · rcases h3 with h3 | h3
   · exact .inl h3
   · exact .inr h3
 · rcases h4 with h4 | h4
   · exact .inl h4
   · exact .inr (by rcases Classical.em (ca = 0 ∨ ca = 1) with q | q; exact q; rw [calB_no (by omega)] at h4; cases h4)
theorem cal_size {c : Int} (h : c = 0 ∨ c = 1) : (calText c).size ≤ 3 := by rcases h with rfl | rfl <;> decide
theorem implSayingText (s : Say) (w : World) (hT : Tab w) (hS : Shp w) (hM : Mrk w) (hN : Mon w) (hP : PowT w) : CR 72 #[sayV s] w (.string (sayTx s)) := by
 obtain ⟨⟨k, m, d, ⟨a, b, c, t⟩, f, p⟩, y, so, ca⟩ := s
 obtain ⟨W0, hW0, hC, hBl⟩ := box_any w #[.int .i64 k, .int .i64 m, .int .i64 d, .int .i64 a, .int .i64 b, .int .i64 c, .bool t, .string f, .int .i64 p, .int .i64 y, .int .i64 so, .int .i64 ca] 58
 obtain ⟨c0, c1, c2, c3, c4, c5, c6, c7, c8, c9, c10, c11⟩ := cells12 hC
 have HW0 := hideP hW0
 have HBl := hideP hBl
 have KO : ∀ x : Later W0, CR 79 #[.agg #[.int .i64 k, .int .i64 m, .int .i64 d, .int .i64 a, .int .i64 b, .int .i64 c, .bool t, .string f, .int .i64 p, .int .i64 y, .int .i64 so, .int .i64 ca]] x.w (.bool (sayB ⟨⟨k, m, d, ⟨a, b, c, t⟩, f, p⟩, y, so, ca⟩)) := fun x => implSayingOk ⟨⟨k, m, d, ⟨a, b, c, t⟩, f, p⟩, y, so, ca⟩ x.w (hT.later (hBl x))
 have KW : ∀ x : Later W0, CR 122 #[.agg #[.int .i64 k, .int .i64 m, .int .i64 d, .int .i64 a, .int .i64 b, .int .i64 c, .bool t, .string f, .int .i64 p]] x.w (.string (whnTx ⟨k, m, d, ⟨a, b, c, t⟩, f, p⟩)) := fun x => implWhenText ⟨k, m, d, ⟨a, b, c, t⟩, f, p⟩ x.w (hT.later (hBl x)) (hS.later (hBl x)) (hM.later (hBl x)) (hN.later (hBl x)) (hP.later (hBl x))
 cases hB : sayB ⟨⟨k, m, d, ⟨a, b, c, t⟩, f, p⟩, y, so, ca⟩
 · rw [sayTx_no hB]
   rw [hB] at KO
   clear hW0 hC hBl hB hT hS hM hN hP
   go_enter Tryz.func72, Tryz.ntmps72
   go_wp2_with fail
   rw [← HW0.out]
   refine latO (KO ⟨W0, Below.refl _ _⟩) fun x1 => ?_
   go_wp2
   go_ret
   exact ⟨rfl, HBl.out x1⟩
 rw [sayTx_yes hB]
 rw [hB] at KO
 obtain ⟨y1, y2, hso, hca⟩ := say_parts hB
 have KD : ∀ x : Later W0, CR 123 #[.int .i64 y] x.w (.string (decT y)) := fun x => implDecText y x.w (by omega) (by omega) (hP.later (hBl x))
 have KQ : ∀ x : Later W0, CR 123 #[.int .i64 so] x.w (.string (decT so)) := fun x => implDecText so x.w (by omega) (by omega) (hP.later (hBl x))
 have KN : ∀ W, CS 124 #[.int .i64 ca] W (.string (calText ca)) := fun W => implCalName ca W
 have z1 := whnTx_size ⟨k, m, d, ⟨a, b, c, t⟩, f, p⟩
 have z2 := decT_small (n := y) (by omega) (by omega)
 have z3 := decT_small (n := so) (by omega) (by omega)
 have z4 : ca = -1 ∨ (ca ≠ -1 ∧ (calText ca).size ≤ 3) := by rcases hca with h | h; exact .inl h; exact .inr ⟨by omega, cal_size h⟩
 clear hW0 hC hBl hB y1 y2 hca hT hS hM hN hP
 simp only []
 generalize whnTx ⟨k, m, d, ⟨a, b, c, t⟩, f, p⟩ = tw at *
 generalize decT y = ty at *
 generalize decT so = ts at *
 generalize calText ca = tc at *
 have s1 : (tw ++ (⟨#[32]⟩ : ByteArray)).size ≤ 61 := app_size _ _ 60 1 z1 (Nat.le_refl 1)
 have s2 : (tw ++ (⟨#[32]⟩ : ByteArray) ++ ty).size ≤ 82 := app_size _ _ 61 21 s1 z2
 rcases hso with rfl | hso
 · rw [if_pos rfl]
   rcases z4 with rfl | ⟨cn, z4⟩
   focus
     rw [if_pos rfl]
     clear KN KQ
   rotate_left
   focus
     rw [if_neg cn]
     have e2 : (ca == -1) = false := by simpa using cn
   rotate_left
   all_goals
    go_enter Tryz.func72, Tryz.ntmps72
    go_wp2_with fail
    rw [← HW0.out]
    refine latO (KO ⟨W0, Below.refl _ _⟩) fun x1 => ?_
    go_wp2_with fail
    refine wp_region_later (W := W0) x1.below (by kernel_rfl) (by kernel_rfl) ?_
    repeat (go_big_quiet_step (first | (go_at_call 122; exact calls_later (KW _)) | (go_at_call 123; exact calls_later (KD _)) | fail))
    refine quietE fun x2 => ?_
    clear KO KW KD
   · go_wp2
     go_ret
     exact ⟨rfl, HBl.out x2⟩
   have s6 : ((⟨#[32]⟩ : ByteArray) ++ tc).size ≤ 4 := app_size _ _ 1 3 (Nat.le_refl 1) z4
   have s7 : ((tw ++ (⟨#[32]⟩ : ByteArray) ++ ty) ++ ((⟨#[32]⟩ : ByteArray) ++ tc)).size ≤ 86 := app_size _ _ 82 4 s2 s6
   go_wp2_with fail
   refine sameC (KN _) ?_
   go_wp2
   go_ret
   exact ⟨rfl, HBl.out x2⟩
 rw [if_neg (show ¬ so = -1 by omega)]
 have e1 : (so == -1) = false := by simp; omega
 have s3 : ((⟨#[47]⟩ : ByteArray) ++ ts).size ≤ 22 := app_size _ _ 1 21 (Nat.le_refl 1) z3
 clear hso
 rcases z4 with rfl | ⟨cn, z4⟩
 focus
   rw [if_pos rfl]
   clear KN
 rotate_left
 focus
   rw [if_neg cn]
   have e2 : (ca == -1) = false := by simpa using cn
 rotate_left
 all_goals
  go_enter Tryz.func72, Tryz.ntmps72
  go_wp2_with fail
  rw [← HW0.out]
  refine latO (KO ⟨W0, Below.refl _ _⟩) fun x1 => ?_
  go_wp2_with fail
  refine wp_region_later (W := W0) x1.below (by kernel_rfl) (by kernel_rfl) ?_
  repeat (go_big_quiet_step (first | (go_at_call 122; exact calls_later (KW _)) | (go_at_call 123; exact calls_later (KD _)) | fail))
  refine quietE fun x2 => ?_
  clear KO KW KD
  have s4 : ((tw ++ (⟨#[32]⟩ : ByteArray) ++ ty) ++ ((⟨#[47]⟩ : ByteArray) ++ ts)).size ≤ 104 := app_size _ _ 82 22 s2 s3
 · go_wp2_with fail
   refine lat (KQ x2) fun x3 => ?_
   go_wp2
   go_ret
   exact ⟨rfl, HBl.out x3⟩
 have s6 : ((⟨#[32]⟩ : ByteArray) ++ tc).size ≤ 4 := app_size _ _ 1 3 (Nat.le_refl 1) z4
 have s7 : ((tw ++ (⟨#[32]⟩ : ByteArray) ++ ty) ++ ((⟨#[47]⟩ : ByteArray) ++ ts) ++ ((⟨#[32]⟩ : ByteArray) ++ tc)).size ≤ 108 := app_size _ _ 104 4 s4 s6
 go_wp2_with fail
 refine lat (KQ x2) fun x3 => ?_
 go_wp2_with fail
 refine sameC (KN _) ?_
 go_wp2
 go_ret
 exact ⟨rfl, HBl.out x3⟩
theorem specSayingText (s : Say) (w : World) : CR 56 #[sayV s] w (.string (sayTx s)) := by
 obtain ⟨⟨k, m, d, ⟨a, b, c, t⟩, f, p⟩, y, so, ca⟩ := s
 obtain ⟨W0, hW0, hC, hBl⟩ := box_any w #[.int .i64 k, .int .i64 m, .int .i64 d, .int .i64 a, .int .i64 b, .int .i64 c, .bool t, .string f, .int .i64 p, .int .i64 y, .int .i64 so, .int .i64 ca] 58
 obtain ⟨c0, c1, c2, c3, c4, c5, c6, c7, c8, c9, c10, c11⟩ := cells12 hC
 have HW0 := hideP hW0
 have HBl := hideP hBl
 have KO : ∀ x : Later W0, CR 62 #[.agg #[.int .i64 k, .int .i64 m, .int .i64 d, .int .i64 a, .int .i64 b, .int .i64 c, .bool t, .string f, .int .i64 p, .int .i64 y, .int .i64 so, .int .i64 ca]] x.w (.bool (sayB ⟨⟨k, m, d, ⟨a, b, c, t⟩, f, p⟩, y, so, ca⟩)) := fun x => specSayingOk ⟨⟨k, m, d, ⟨a, b, c, t⟩, f, p⟩, y, so, ca⟩ x.w
 have KW : ∀ x : Later W0, CR 104 #[.agg #[.int .i64 k, .int .i64 m, .int .i64 d, .int .i64 a, .int .i64 b, .int .i64 c, .bool t, .string f, .int .i64 p]] x.w (.string (whnTx ⟨k, m, d, ⟨a, b, c, t⟩, f, p⟩)) := fun x => specWhenText ⟨k, m, d, ⟨a, b, c, t⟩, f, p⟩ x.w
 cases hB : sayB ⟨⟨k, m, d, ⟨a, b, c, t⟩, f, p⟩, y, so, ca⟩
 · rw [sayTx_no hB]
   rw [hB] at KO
   clear hW0 hC hBl hB
   go_enter Tryz.func56, Tryz.ntmps56
   go_wp2_with fail
   rw [← HW0.out]
   refine latO (KO ⟨W0, Below.refl _ _⟩) fun x1 => ?_
   go_wp2
   go_ret
   exact ⟨rfl, HBl.out x1⟩
 rw [sayTx_yes hB]
 rw [hB] at KO
 obtain ⟨y1, y2, hso, hca⟩ := say_parts hB
 have KD : ∀ x : Later W0, CR 99 #[.int .i64 y] x.w (.string (decT y)) := fun x => (specDecText y x.w (by omega) (by omega)).mono fun _ _ h => ⟨h.1, by rw [h.2]; exact Below.refl _ _⟩
 have KQ : ∀ x : Later W0, CR 99 #[.int .i64 so] x.w (.string (decT so)) := fun x => (specDecText so x.w (by omega) (by omega)).mono fun _ _ h => ⟨h.1, by rw [h.2]; exact Below.refl _ _⟩
 have KN : ∀ W, CS 97 #[.int .i64 ca] W (.string (calText ca)) := fun W => specCalName ca W
 have z1 := whnTx_size ⟨k, m, d, ⟨a, b, c, t⟩, f, p⟩
 have z2 := decT_small (n := y) (by omega) (by omega)
 have z3 := decT_small (n := so) (by omega) (by omega)
 have z4 : ca = -1 ∨ (ca ≠ -1 ∧ (calText ca).size ≤ 3) := by rcases hca with h | h; exact .inl h; exact .inr ⟨by omega, cal_size h⟩
 clear hW0 hC hBl hB y1 y2 hca
 simp only []
 simp only [← ByteArray.append_assoc]
 generalize whnTx ⟨k, m, d, ⟨a, b, c, t⟩, f, p⟩ = tw at *
 generalize decT y = ty at *
 generalize decT so = ts at *
 generalize calText ca = tc at *
 have s1 : (tw ++ (⟨#[32]⟩ : ByteArray)).size ≤ 61 := app_size _ _ 60 1 z1 (Nat.le_refl 1)
 have s2 : (tw ++ (⟨#[32]⟩ : ByteArray) ++ ty).size ≤ 82 := app_size _ _ 61 21 s1 z2
 rcases hso with rfl | hso
 · rw [if_pos rfl]
   rcases z4 with rfl | ⟨cn, z4⟩
   focus
     rw [if_pos rfl]
     clear KN KQ
   rotate_left
   focus
     rw [if_neg cn]
     have e2 : (ca == -1) = false := by simpa using cn
   rotate_left
   all_goals
    go_enter Tryz.func56, Tryz.ntmps56
    go_wp2_with fail
    rw [← HW0.out]
    refine latO (KO ⟨W0, Below.refl _ _⟩) fun x1 => ?_
    go_wp2_with fail
    refine wp_region_later (W := W0) x1.below (by kernel_rfl) (by kernel_rfl) ?_
    repeat (go_big_quiet_step (first | (go_at_call 104; exact calls_later (KW _)) | (go_at_call 99; exact calls_later (KD _)) | fail))
    refine quietE fun x2 => ?_
    clear KO KW KD
   · go_wp2
     go_ret
     exact ⟨rfl, HBl.out x2⟩
   have s6 : ((tw ++ (⟨#[32]⟩ : ByteArray) ++ ty) ++ (⟨#[32]⟩ : ByteArray)).size ≤ 83 := app_size _ _ 82 1 s2 (Nat.le_refl 1)
   have s7 : ((tw ++ (⟨#[32]⟩ : ByteArray) ++ ty) ++ (⟨#[32]⟩ : ByteArray) ++ tc).size ≤ 86 := app_size _ _ 83 3 s6 z4
   go_wp2_with fail
   refine sameC (KN _) ?_
   go_wp2
   go_ret
   exact ⟨rfl, HBl.out x2⟩
 rw [if_neg (show ¬ so = -1 by omega)]
 have e1 : (so == -1) = false := by simp; omega
 have s3 : ((⟨#[47]⟩ : ByteArray) ++ ts).size ≤ 22 := app_size _ _ 1 21 (Nat.le_refl 1) z3
 clear hso
 rcases z4 with rfl | ⟨cn, z4⟩
 focus
   rw [if_pos rfl]
   clear KN
 rotate_left
 focus
   rw [if_neg cn]
   have e2 : (ca == -1) = false := by simpa using cn
 rotate_left
 all_goals
  go_enter Tryz.func56, Tryz.ntmps56
  go_wp2_with fail
  rw [← HW0.out]
  refine latO (KO ⟨W0, Below.refl _ _⟩) fun x1 => ?_
  go_wp2_with fail
  refine wp_region_later (W := W0) x1.below (by kernel_rfl) (by kernel_rfl) ?_
  repeat (go_big_quiet_step (first | (go_at_call 104; exact calls_later (KW _)) | (go_at_call 99; exact calls_later (KD _)) | fail))
  refine quietE fun x2 => ?_
  clear KO KW KD
  have s4 : ((tw ++ (⟨#[32]⟩ : ByteArray) ++ ty) ++ (⟨#[47]⟩ : ByteArray)).size ≤ 83 := app_size _ _ 82 1 s2 (Nat.le_refl 1)
  have s5 : ((tw ++ (⟨#[32]⟩ : ByteArray) ++ ty) ++ (⟨#[47]⟩ : ByteArray) ++ ts).size ≤ 104 := app_size _ _ 83 21 s4 z3
 · go_wp2_with fail
   refine lat (KQ x2) fun x3 => ?_
   go_wp2
   go_ret
   exact ⟨rfl, HBl.out x3⟩
 have s6 : ((tw ++ (⟨#[32]⟩ : ByteArray) ++ ty) ++ (⟨#[47]⟩ : ByteArray) ++ ts ++ (⟨#[32]⟩ : ByteArray)).size ≤ 105 := app_size _ _ 104 1 s5 (Nat.le_refl 1)
 have s7 : ((tw ++ (⟨#[32]⟩ : ByteArray) ++ ty) ++ (⟨#[47]⟩ : ByteArray) ++ ts ++ (⟨#[32]⟩ : ByteArray) ++ tc).size ≤ 108 := app_size _ _ 105 3 s6 z4
 go_wp2_with fail
 refine lat (KQ x2) fun x3 => ?_
 go_wp2_with fail
 refine sameC (KN _) ?_
 go_wp2
 go_ret
 exact ⟨rfl, HBl.out x3⟩
/-! ### a text ahead of a sign -/
theorem list_pre (s : ByteArray) (p : Nat) : (s.extract 0 p).data.toList = s.data.toList.take p := by
 rw [Lib.extract_eq]
 show List.take (p - 0) (List.drop 0 s.data.toList) = _
 simp
theorem bAt_pre (s : ByteArray) (p k : Nat) (h : k < p) : bAt (s.extract 0 p) k = bAt s k := by
 unfold bAt
 rw [list_pre, List.getD, List.getD, List.getElem?_take, if_pos h]
theorem size_pre (s : ByteArray) (p : Nat) (h : p ≤ s.size) : (s.extract 0 p).size = p := by rw [ByteArray.size_extract]; omega
theorem ext_pre (s : ByteArray) (p a k : Nat) (h : k ≤ p) : (s.extract 0 p).extract a k = s.extract a k := by
 rw [ByteArray.extract_extract]
 congr 1
 · omega
 · omega
theorem parts_pre (s : ByteArray) (g : Int) (p : Nat) : ∀ k, k ≤ p → partsTo (s.extract 0 p) g k = partsTo s g k ∧ startAt (s.extract 0 p) g k = startAt s g k
  | 0, _ => ⟨rfl, rfl⟩
  | k + 1, h => by
   obtain ⟨i1, i2⟩ := parts_pre s g p k (by omega)
   by_cases hb : bAt s k = g
   · obtain ⟨a1, a2⟩ := parts_hit s g k hb
     obtain ⟨b1, b2⟩ := parts_hit (s.extract 0 p) g k (by rw [bAt_pre s p k (by omega)]; exact hb)
     rw [a1, a2, b1, b2, i1, i2, ext_pre s p _ k (by omega)]
     exact ⟨rfl, rfl⟩
   · obtain ⟨a1, a2⟩ := parts_miss s g k hb
     obtain ⟨b1, b2⟩ := parts_miss (s.extract 0 p) g k (by rw [bAt_pre s p k (by omega)]; exact hb)
     rw [a1, a2, b1, b2]
     exact ⟨i1, i2⟩
theorem start_split (s : ByteArray) (g : Int) : ∀ k, (startAt s g k = 0 ∧ ∀ j, j < k → bAt s j ≠ g) ∨ (∃ p, p < k ∧ startAt s g k = p + 1 ∧ bAt s p = g ∧ ∀ j, p < j → j < k → bAt s j ≠ g)
  | 0 => .inl ⟨rfl, fun j hj => absurd hj (by omega)⟩
  | k + 1 => by
   by_cases hb : bAt s k = g
   · exact .inr ⟨k, by omega, (parts_hit s g k hb).2, hb, fun j h1 h2 => absurd h1 (by omega)⟩
   · have e := (parts_miss s g k hb).2
     rcases start_split s g k with ⟨h0, hn⟩ | ⟨p, hp, h1, h2, hn⟩
     · refine .inl ⟨e.trans h0, fun j hj => ?_⟩
       by_cases hj2 : j = k
       · rw [hj2]; exact hb
       · exact hn j (by omega)
     · refine .inr ⟨p, by omega, e.trans h1, h2, fun j h3 h4 => ?_⟩
       by_cases hj2 : j = k
       · rw [hj2]; exact hb
       · exact hn j h3 (by omega)
def aheadW (s : ByteArray) : ByteArray := s.extract 0 (startAt s 32 s.size - 1)
def lastW (s : ByteArray) : ByteArray := s.extract (startAt s 32 s.size) s.size
theorem ahead_size (s : ByteArray) : (aheadW s).size ≤ s.size := by unfold aheadW; rw [ByteArray.size_extract]; omega
theorem last_size (s : ByteArray) : (lastW s).size ≤ s.size := by unfold lastW; rw [ByteArray.size_extract]; omega
theorem none_ahead {s : ByteArray} (h : startAt s 32 s.size = 0) : aheadW s = ⟨#[]⟩ := by
 unfold aheadW
 rw [h]
 exact ByteArray.extract_same
theorem cut_one {s : ByteArray} (h : startAt s 32 s.size = 0) : cut s 32 = [lastW s] := by
 rcases start_split s 32 s.size with ⟨_, hn⟩ | ⟨p, _, h1, _⟩
 · unfold lastW
   rw [h, ext_all]
   exact cut_none s 32 hn
 · omega
theorem cut_init {s : ByteArray} (h : startAt s 32 s.size ≠ 0) : cut s 32 = cut (aheadW s) 32 ++ [lastW s] := by
 rcases start_split s 32 s.size with ⟨h0, _⟩ | ⟨p, hp, h1, h2, hn⟩
 · exact absurd h0 h
 · have hrun := parts_run s 32 (p + 1) (s.size - (p + 1)) (fun j h3 h4 => hn j (by omega) (by omega))
   rw [show p + 1 + (s.size - (p + 1)) = s.size from by omega] at hrun
   obtain ⟨b1, b2⟩ := parts_hit s 32 p h2
   obtain ⟨c1, c2⟩ := parts_pre s 32 p p (Nat.le_refl _)
   have ea : aheadW s = s.extract 0 p := by unfold aheadW; rw [h1]; rfl
   unfold lastW
   rw [ea]
   unfold cut
   rw [size_pre s p (by omega), c1, c2, ext_pre s p _ p (Nat.le_refl _), hrun.1, b1, h1]
/-! ### words put together -/
def glue : List ByteArray → Nat → ByteArray
  | _, 0 => ⟨#[]⟩
  | w, 1 => w.getD 0 ⟨#[]⟩
  | w, k + 2 => glue w (k + 1) ++ ⟨#[32]⟩ ++ w.getD (k + 1) ⟨#[]⟩
theorem glue_pre (a b : List ByteArray) : ∀ k, k ≤ a.length → glue (a ++ b) k = glue a k
  | 0, _ => rfl
  | 1, h => by
   show (a ++ b).getD 0 _ = a.getD 0 _
   rw [List.getD, List.getD, List.getElem?_append_left (by omega)]
  | k + 2, h => by
   show glue (a ++ b) (k + 1) ++ _ ++ (a ++ b).getD (k + 1) _ = glue a (k + 1) ++ _ ++ a.getD (k + 1) _
   rw [glue_pre a b (k + 1) (by omega), List.getD, List.getD, List.getElem?_append_left (by omega)]
theorem glue_snoc (a : List ByteArray) (x : ByteArray) (h : a ≠ []) : glue (a ++ [x]) (a.length + 1) = glue a a.length ++ ⟨#[32]⟩ ++ x := by
 obtain ⟨n, hn⟩ : ∃ n, a.length = n + 1 := ⟨a.length - 1, by have := List.length_pos_iff.mpr h; omega⟩
 rw [hn]
 show glue (a ++ [x]) (n + 1) ++ _ ++ (a ++ [x]).getD (n + 1) _ = _
 rw [glue_pre a [x] (n + 1) (by omega), List.getD, List.getElem?_append_right (by omega), hn]
 simp
theorem ext_snoc (s : ByteArray) (p : Nat) (hp : p < s.size) (hb : bAt s p = 32) : s.extract 0 p ++ ⟨#[32]⟩ = s.extract 0 (p + 1) := by
 apply WideShapes.bytes_inj
 rw [ByteArray.data_append, Array.toList_append, list_pre, list_pre]
 have hl : p < s.data.toList.length := hp
 rw [List.take_succ_eq_append_getElem hl]
 congr 1
 have h : (s.data.toList[p]).toNat = 32 := by
  unfold bAt at hb
  rw [List.getD, List.getElem?_eq_getElem hl] at hb
  simp only [Option.getD_some] at hb
  omega
 show [32] = [s.data.toList[p]]
 rw [show s.data.toList[p] = 32 from UInt8.toNat_inj.1 h]
theorem ext_join (s : ByteArray) (a b : Nat) (h1 : a ≤ b) : s.extract 0 a ++ s.extract a b = s.extract 0 b := by
 rw [ByteArray.extract_append_extract]
 congr 1
 omega
theorem glue_parts (s : ByteArray) : ∀ k, k ≤ s.size → (startAt s 32 k = 0 ∧ partsTo s 32 k = []) ∨ (startAt s 32 k ≠ 0 ∧ partsTo s 32 k ≠ [] ∧ glue (partsTo s 32 k) (partsTo s 32 k).length ++ ⟨#[32]⟩ = s.extract 0 (startAt s 32 k))
  | 0, _ => .inl ⟨rfl, rfl⟩
  | k + 1, h => by
   by_cases hb : bAt s k = 32
   · obtain ⟨a1, a2⟩ := parts_hit s 32 k hb
     refine .inr ⟨by rw [a2]; omega, by rw [a1]; simp, ?_⟩
     rw [a1, a2, List.length_append]
     rcases glue_parts s k (by omega) with ⟨h0, hp⟩ | ⟨h0, hp, hg⟩
     · rw [hp, h0]
       show s.extract 0 k ++ _ = _
       exact ext_snoc s k (by omega) hb
     · show glue (partsTo s 32 k ++ [s.extract (startAt s 32 k) k]) ((partsTo s 32 k).length + 1) ++ _ = _
       rw [glue_snoc _ _ hp, hg, ext_join s _ k (start_le s 32 k)]
       exact ext_snoc s k (by omega) hb
   · obtain ⟨a1, a2⟩ := parts_miss s 32 k hb
     rw [a1, a2]
     exact glue_parts s k (by omega)
theorem glue_cut (s : ByteArray) : glue (cut s 32) (cut s 32).length = s := by
 unfold cut
 rw [List.length_append]
 show glue _ ((partsTo s 32 s.size).length + 1) = s
 rcases glue_parts s s.size (Nat.le_refl _) with ⟨h0, hp⟩ | ⟨h0, hp, hg⟩
 · rw [hp, h0]
   show s.extract 0 s.size = s
   exact ext_all s
 · rw [glue_snoc _ _ hp, hg, ext_join s _ _ (start_le s 32 _)]
   exact ext_all s
theorem glue_init (s : ByteArray) : glue (cut s 32) ((cut s 32).length - 1) = aheadW s := by
 by_cases h : startAt s 32 s.size = 0
 · rw [cut_one h, none_ahead h]
   rfl
 · rw [cut_init h, List.length_append]
   show glue _ ((cut (aheadW s) 32).length + 1 - 1) = _
   rw [Nat.add_sub_cancel, glue_pre _ _ _ (Nat.le_refl _)]
   exact glue_cut _
/-! ### a text cut once -/
def cut1 (u : ByteArray) (g : UInt8) : ByteArray × ByteArray × Bool :=
 if Lib.indexByte u.data.toList g < 0 then (u, ⟨#[]⟩, false) else (u.extract 0 (Lib.indexByte u.data.toList g).toNat, u.extract ((Lib.indexByte u.data.toList g).toNat + 1) u.size, true)
theorem parts_pref (s : ByteArray) (g : Int) (a : Nat) : ∀ n, ∃ l, partsTo s g (a + n) = partsTo s g a ++ l
  | 0 => ⟨[], by simp⟩
  | n + 1 => by
   obtain ⟨l, hl⟩ := parts_pref s g a n
   by_cases hb : bAt s (a + n) = g
   · exact ⟨l ++ [s.extract (startAt s g (a + n)) (a + n)], by rw [← Nat.add_assoc, (parts_hit s g _ hb).1, hl, List.append_assoc]⟩
   · exact ⟨l, by rw [← Nat.add_assoc, (parts_miss s g _ hb).1, hl]⟩
theorem cut_fst (s : ByteArray) (g : Int) (p : Nat) (hp : p < s.size) (hat : bAt s p = g) (hno : ∀ j, j < p → bAt s j ≠ g) : (cut s g).getD 0 ⟨#[]⟩ = s.extract 0 p := by
 obtain ⟨a1, a2⟩ := parts_none s g p hno
 obtain ⟨b1, _⟩ := parts_hit s g p hat
 rw [a1, a2] at b1
 obtain ⟨l, hl⟩ := parts_pref s g (p + 1) (s.size - (p + 1))
 rw [show p + 1 + (s.size - (p + 1)) = s.size from by omega, b1] at hl
 unfold cut
 rw [hl]
 rfl
theorem cut1_hit {u : ByteArray} {g : UInt8} {p : Nat} (h : Lib.indexByte u.data.toList g = p) : cut1 u g = (u.extract 0 p, u.extract (p + 1) u.size, true) := by
 unfold cut1
 rw [h, if_neg (by omega), Int.toNat_natCast]
theorem cut1_miss {u : ByteArray} {g : UInt8} (h : Lib.indexByte u.data.toList g = -1) : cut1 u g = (u, ⟨#[]⟩, false) := by
 unfold cut1
 rw [h, if_pos (by omega)]
/-! ### years -/
def yrI (t : ByteArray) : Int × Int := (readDec (cut1 t 47).1, if (cut1 t 47).2.2 = true then readDec (cut1 t 47).2.1 else -1)
def yrS (t : ByteArray) : Int × Int := (readDec ((cut t 47).getD 0 ⟨#[]⟩), if (cut t 47).length = 2 then readDec ((cut t 47).getD 1 ⟨#[]⟩) else -1)
theorem yr_same (t : ByteArray) : yrS t = yrI t := by
 unfold yrS yrI
 rcases cut_first t 47 with ⟨p, hp, hi, hat, hno⟩ | ⟨hi, hn⟩
 · rw [cut1_hit hi]
   have hat' : bAt t p = 47 := hat
   rw [cut_fst t 47 p hp hat' hno]
   by_cases h : ∃ q, p < q ∧ q < t.size ∧ bAt t q = 47
   · obtain ⟨q, h1, h2, h3⟩ := h
     have hm := cut_more t 47 p q h1 h2 hat' h3
     rw [if_neg (by omega)]
     have hd : readDec (t.extract (p + 1) t.size) = -1 := by
      refine readDec_sign _ (q - (p + 1)) ?_ ?_
      · rw [ByteArray.size_extract]; omega
      · rw [bAt_ext, show p + 1 + (q - (p + 1)) = q from by omega, h3]; omega
     rw [if_pos rfl, hd]
   · rw [cut_two t 47 p hp hat' hno (fun j h1 h2 h3 => h ⟨j, h1, h2, h3⟩)]
     rfl
 · rw [cut1_miss hi, cut_none t 47 hn]
   rfl
/-! ### Whens -/
def whenI (u : ByteArray) : Whn :=
 if (readRoman u).2 = true then ⟨1, 0, 0, (readRoman u).1, ⟨#[]⟩, 0⟩
 else if 0 ≤ (readFeast u).1 then ⟨2, 0, 0, rom0, (feaAt (readFeast u).1.toNat).name, (readFeast u).2⟩
 else ⟨0, monOf (cut1 u 32).2.1, readDec (cut1 u 32).1, rom0, ⟨#[]⟩, 0⟩
def whenS (u : ByteArray) (ws : List ByteArray) : Whn :=
 if (readRoman u).2 = true then ⟨1, 0, 0, (readRoman u).1, ⟨#[]⟩, 0⟩
 else if 0 ≤ (readFeast u).1 then ⟨2, 0, 0, rom0, (feaAt (readFeast u).1.toNat).name, (readFeast u).2⟩
 else if ws.length ≠ 2 then ⟨-1, 0, 0, rom0, ⟨#[]⟩, 0⟩
 else ⟨0, monOf (ws.getD 1 ⟨#[]⟩), readDec (ws.getD 0 ⟨#[]⟩), rom0, ⟨#[]⟩, 0⟩
theorem mon_signs : ∀ j : Fin 12, (monB j.val).size = 3 ∧ ∀ k : Fin 3, bAt (monB j.val) k.val ≠ 32 := by decide +kernel
theorem monOf_blank {s : ByteArray} {k : Nat} (hk : k < s.size) (h : bAt s k = 32) : monOf s = 0 := by
 refine monOf_miss fun j hj e => ?_
 obtain ⟨h1, h2⟩ := mon_signs ⟨j, hj⟩
 subst e
 exact h2 ⟨k, by simp only at h1; omega⟩ h
theorem monOf_none : monOf ⟨#[]⟩ = 0 := by decide +kernel
theorem whnB_mon {d p : Int} {r : Rom} {f : ByteArray} : whnB ⟨0, 0, d, r, f, p⟩ = false := by
 obtain ⟨a, b, c, t⟩ := r
 rw [whnB_0, show inB 0 1 12 = false from by decide]
 simp
theorem when_same (u : ByteArray) (ws : List ByteArray) (h : ws = cut u 32 ∨ (ws = [] ∧ u = ⟨#[]⟩)) : whenS u ws = whenI u ∨ (whnB (whenS u ws) = false ∧ whnB (whenI u) = false) := by
 unfold whenS whenI
 by_cases h1 : (readRoman u).2 = true
 · rw [if_pos h1, if_pos h1]
   exact .inl rfl
 rw [if_neg h1, if_neg h1]
 by_cases h2 : 0 ≤ (readFeast u).1
 · rw [if_pos h2, if_pos h2]
   exact .inl rfl
 rw [if_neg h2, if_neg h2]
 rcases cut_first u 32 with ⟨p, hp, hi, hat, hno⟩ | ⟨hi, hn⟩
 · rw [cut1_hit hi]
   have hat' : bAt u p = 32 := hat
   rcases h with h | ⟨_, h⟩
   · by_cases hq : ∃ q, p < q ∧ q < u.size ∧ bAt u q = 32
     · obtain ⟨q, q1, q2, q3⟩ := hq
       have hm := cut_more u 32 p q q1 q2 hat' q3
       rw [h, if_pos (by omega)]
       refine .inr ⟨whnB_no (by omega) (by omega) (by omega), ?_⟩
       rw [monOf_blank (k := q - (p + 1)) (by rw [ByteArray.size_extract]; omega) (by rw [bAt_ext, show p + 1 + (q - (p + 1)) = q from by omega, q3])]
       exact whnB_mon
     · rw [h, cut_two u 32 p hp hat' hno (fun j h1 h2 h3 => hq ⟨j, h1, h2, h3⟩)]
       exact .inl rfl
   · rw [h] at hp
     exact absurd hp (Nat.not_lt_zero p)
 · rw [cut1_miss hi]
   have hl : ws.length ≠ 2 := by
    rcases h with h | ⟨h, _⟩
    · rw [h, cut_none u 32 hn]; simp
    · rw [h]; simp
   rw [if_pos hl, monOf_none]
   exact .inr ⟨whnB_no (by omega) (by omega) (by omega), whnB_mon⟩
/-! ### the whole -/
def say0 : Say := ⟨⟨0, 0, 0, rom0, ⟨#[]⟩, 0⟩, 0, 0, 0⟩
def sayRest (s : ByteArray) : ByteArray := if calNo (lastW s) < 0 then s else aheadW s
def sayI (s : ByteArray) : Say := ⟨whenI (aheadW (sayRest s)), (yrI (lastW (sayRest s))).1, (yrI (lastW (sayRest s))).2, calNo (lastW s)⟩
def readSay (s : ByteArray) : Say × Bool := if (sayTx (sayI s)).size = 0 ∨ sayTx (sayI s) ≠ s then (say0, false) else (sayI s, true)
def initW (t : ByteArray) : List ByteArray := (cut t 32).take ((cut t 32).length - 1)
theorem initW_is (t : ByteArray) : (initW t = cut (aheadW t) 32 ∨ (initW t = [] ∧ aheadW t = ⟨#[]⟩)) := by
 unfold initW
 by_cases h : startAt t 32 t.size = 0
 · rw [cut_one h]
   exact .inr ⟨rfl, none_ahead h⟩
 · rw [cut_init h]
   exact .inl (by simp)
def sayS (s : ByteArray) : Say := ⟨whenS (aheadW (sayRest s)) (initW (sayRest s)), (yrS (lastW (sayRest s))).1, (yrS (lastW (sayRest s))).2, calNo (lastW s)⟩
theorem sayB_when {w : Whn} {y s c : Int} (h : whnB w = false) : sayB ⟨w, y, s, c⟩ = false := by unfold sayB; rw [h]; rfl
theorem read_yes {s : ByteArray} (h : sayTx (sayS s) = s) (h0 : s.size ≠ 0) : readSay s = (sayS s, true) := by
 have hw := when_same (aheadW (sayRest s)) (initW (sayRest s)) (initW_is _)
 rcases hw with e | ⟨e1, e2⟩
 · have e' : sayS s = sayI s := by unfold sayS sayI; rw [e, yr_same]
   unfold readSay
   rw [e'] at h ⊢
   rw [if_neg]
   rintro (h1 | h1)
   · rw [h] at h1; exact h0 h1
   · exact h1 h
 · rw [show sayTx (sayS s) = ⟨#[]⟩ from sayTx_no (sayB_when e1)] at h
   rw [← h] at h0
   exact absurd rfl h0
theorem read_no {s : ByteArray} (h : s.size = 0 ∨ sayTx (sayS s) ≠ s) : readSay s = (say0, false) := by
 have hw := when_same (aheadW (sayRest s)) (initW (sayRest s)) (initW_is _)
 unfold readSay
 rcases hw with e | ⟨e1, e2⟩
 · have e' : sayS s = sayI s := by unfold sayS sayI; rw [e, yr_same]
   rw [e'] at h
   rw [if_pos]
   by_cases hq : sayTx (sayI s) = s
   · rcases h with h | h
     · exact .inl (by rw [hq]; exact h)
     · exact absurd hq h
   · exact .inr hq
 · rw [if_pos]
   exact .inl (by rw [show sayTx (sayI s) = ⟨#[]⟩ from sayTx_no (sayB_when e2)]; rfl)
theorem read_bare {s : ByteArray} (hc : 0 ≤ calNo (lastW s)) (h : startAt s 32 s.size = 0) : readSay s = (say0, false) := by
 unfold readSay
 rw [if_pos]
 refine .inl ?_
 have e : sayRest s = ⟨#[]⟩ := by unfold sayRest; rw [if_neg (by omega), none_ahead h]
 have : sayB (sayI s) = false := by
  unfold sayI sayB
  rw [e]
  show (whnB _ && (inB (yrI (lastW ⟨#[]⟩)).1 1 3000 && _)) = false
  rw [show inB (yrI (lastW ⟨#[]⟩)).1 1 3000 = false from by decide +kernel]
  simp
 rw [sayTx_no this]
 rfl
theorem start_none {s : ByteArray} (h : ∀ j, j < s.size → bAt s j ≠ 32) : startAt s 32 s.size = 0 := (parts_none s 32 s.size h).2
theorem start_last {s : ByteArray} {p : Nat} (hp : p < s.size) (hb : bAt s p = 32) (hn : ∀ j, p < j → j < s.size → bAt s j ≠ 32) : startAt s 32 s.size = p + 1 := by
 have hrun := parts_run s 32 (p + 1) (s.size - (p + 1)) (fun j h3 h4 => hn j (by omega) (by omega))
 rw [show p + 1 + (s.size - (p + 1)) = s.size from by omega] at hrun
 rw [hrun.2, (parts_hit s 32 p hb).2]
def lastAt (s : ByteArray) : Int := (startAt s 32 s.size : Int) - 1
theorem lastByte (s : ByteArray) (w : World) (hs : s.size ≤ 1048576) : CS 164 #[.string s, .int .u8 32] w (.int .i64 (lastAt s)) := by
 obtain ⟨R, hR⟩ : ∃ R, R = lastAt s := ⟨_, rfl⟩
 rw [← hR]
 have HR := hideP hR
 clear hR
 go_enter Tryz.func164, Tryz.ntmps164
 go_wp2
 go_loop [5] (fun i => (i = .int .i64 (-1) ∧ Hid (∀ j, j < s.size → bAt s j ≠ 32)) ∨ (∃ k : Nat, k < s.size ∧ i = .int .i64 k ∧ Hid (∀ j, k < j → j < s.size → bAt s j ≠ 32))) (fun i => (intOf i + 1).toNat)
 case atStart =>
  by_cases h0 : s.size = 0
  · exact .inl ⟨by first | (rw [h0]; done) | (rw [h0]; rfl), fun j hj => absurd hj (by omega)⟩
  · exact .inr ⟨s.size - 1, by omega, by rw [show ((s.size - 1 : Nat) : Int) = (s.size : Int) - 1 by omega], fun j h1 h2 => absurd h1 (by omega)⟩
 case round =>
  rcases hrel with ⟨rfl, hn⟩ | ⟨k, hk, rfl, hn⟩
  · obtain rfl : R = -1 := by rw [HR.out]; unfold lastAt; rw [start_none hn.out]; rfl
    go_wp2
    go_ret
    exact ⟨rfl, rfl⟩
  · have e1 := bAt_eq s k hk
    by_cases hb : bAt s k = 32
    · obtain rfl : R = (k : Int) := by rw [HR.out]; unfold lastAt; rw [start_last hk hb hn.out]; omega
      have e2 : ((s[k].toNat : Int) == 32) = true := by rw [e1, hb]; rfl
      clear HR hn e1 hb
      go_wp2
      go_ret
      exact ⟨rfl, rfl⟩
    · have e2 : ((s[k].toNat : Int) == 32) = false := by rw [e1]; simpa using hb
      have hn2 : Hid (∀ j, k ≤ j → j < s.size → bAt s j ≠ 32) := fun j h1 h2 => by
       by_cases hj : j = k
       · rw [hj]; exact hb
       · exact hn.out j (by omega) h2
      clear hn e1 hb
      go_wp2
      refine ⟨?_, by first | (simp [intOf]; done) | (simp [intOf]; omega)⟩
      by_cases h0 : k = 0
      · exact .inl ⟨by subst h0; rfl, fun j hj => hn2.out j (by omega) hj⟩
      · exact .inr ⟨k - 1, by omega, by rw [show ((k - 1 : Nat) : Int) = (k : Int) - 1 by omega], fun j h1 h2 => hn2.out j (by omega) h2⟩
theorem lastFace (s : ByteArray) (w : World) (hs : s.size ≤ 1048576) : CS 115 #[.string s, .int .u8 32] w (.int .i64 (lastAt s)) := by
 have K := fun W => lastByte s W hs
 generalize lastAt s = R at *
 go_enter Tryz.func115, Tryz.ntmps115
 go_wp2_with fail
 refine sameC (K _) ?_
 go_wp2
 go_ret
 exact ⟨rfl, rfl⟩
theorem implCutLast (s : ByteArray) (w : World) (hs : s.size ≤ 1048576) : CR 69 #[.string s] w (.tuple #[.string (aheadW s), .string (lastW s)]) := by
 have K := fun W => lastFace s W hs
 have hle := start_le s 32 s.size
 have hA : aheadW s = s.extract 0 (startAt s 32 s.size - 1) := rfl
 have hL : lastW s = s.extract (startAt s 32 s.size) s.size := rfl
 unfold lastAt at K
 rw [hA, hL]
 clear hA hL
 generalize startAt s 32 s.size = st at *
 have h1 : ∀ W, (Instr.slice 9 (.string s) none (some (.int .i64 (max ((st : Int) - 1) 0))) none).run Tryz.prog W = .ok (.string (s.extract 0 (st - 1))) W := fun W =>
  (run_slice_string_h (P := Tryz.prog) (w := W) (t := 9) (s := s) (ht := Tryz.underlying9) .i64 (max ((st : Int) - 1) 0) (by omega) (by omega)).trans (by rw [show (max ((st : Int) - 1) 0).toNat = st - 1 from by omega])
 have h2 : ∀ W, (Instr.slice 9 (.string s) (some (.int .i64 (st : Int))) none none).run Tryz.prog W = .ok (.string (s.extract st s.size)) W := fun W =>
  (run_slice_string_l (P := Tryz.prog) (w := W) (t := 9) (s := s) (ht := Tryz.underlying9) .i64 (st : Int) (by omega) (by omega)).trans (by rw [show ((st : Int)).toNat = st from by omega])
 have hwr : IntKind.i64.wrap ((st : Int) - 1 + 1) = (st : Int) := by rw [PlainAid.i64_is]; unfold wrap64; omega
 go_enter Tryz.func69, Tryz.ntmps69
 go_wp2_with fail
 refine sameC (K _) ?_
 go_wp2
 go_region
 all_goals go_wp2
 all_goals go_ret2
 all_goals exact ⟨rfl, (Below.refl _ _).drew⟩
theorem implCutCal (s : ByteArray) (w : World) (hs : s.size ≤ 1048576) : CR 68 #[.string s] w (.tuple #[.string (sayRest s), .int .i64 (calNo (lastW s))]) := by
 have K1 := fun W => implCutLast s W hs
 have K2 := fun W => implCalOf (lastW s) W
 have hb : -1 ≤ calNo (lastW s) := by unfold calNo; split; omega; split <;> omega
 have hR : sayRest s = if calNo (lastW s) < 0 then s else aheadW s := rfl
 rw [hR]
 clear hR
 generalize calNo (lastW s) = z at *
 generalize lastW s = l at *
 generalize aheadW s = a at *
 by_cases hz : z < 0
 · obtain rfl : z = -1 := by omega
   rw [if_pos hz]
   go_enter Tryz.func68, Tryz.ntmps68
   go_wp2_with fail
   refine (K1 _).mono ?_
   rintro e w1 ⟨rfl, hb1⟩
   have B1 := hideP hb1
   clear hb1
   go_wp2_with fail
   refine sameC (K2 _) ?_
   go_wp2
   go_ret2
   exact ⟨rfl, B1.out⟩
 · rw [if_neg hz]
   go_enter Tryz.func68, Tryz.ntmps68
   go_wp2_with fail
   refine (K1 _).mono ?_
   rintro e w1 ⟨rfl, hb1⟩
   have B1 := hideP hb1
   clear hb1
   go_wp2_with fail
   refine sameC (K2 _) ?_
   go_wp2
   go_ret2
   exact ⟨rfl, B1.out⟩
theorem implCut1 (s : ByteArray) (g : UInt8) (w : World) (hs : s.size ≤ 1048576) : CR 116 #[.string s, .string ⟨#[g]⟩] w (.tuple #[.string (cut1 s g).1, .string (cut1 s g).2.1, .bool (cut1 s g).2.2]) := by
 rcases cut_first s g with ⟨p, hp, hi, _, _⟩ | ⟨hi, _⟩
 · rw [cut1_hit hi]
   exact cutFace s _ _ g _ w (cutHit s g p w hs hp hi)
 · rw [cut1_miss hi]
   exact cutFace s _ _ g _ w (cutMiss s g w hi)
theorem cut1_size (s : ByteArray) (g : UInt8) : (cut1 s g).1.size ≤ s.size ∧ (cut1 s g).2.1.size ≤ s.size := by
 rcases cut_first s g with ⟨p, hp, hi, _, _⟩ | ⟨hi, _⟩
 · rw [cut1_hit hi]
   exact ⟨by show (s.extract 0 p).size ≤ _; rw [ByteArray.size_extract]; omega, by show (s.extract (p + 1) s.size).size ≤ _; rw [ByteArray.size_extract]; omega⟩
 · rw [cut1_miss hi]
   exact ⟨Nat.le_refl _, Nat.zero_le _⟩
theorem implReadYears (s : ByteArray) (w : World) (hs : s.size ≤ 1048576) (hP : PowT w) : CR 70 #[.string s] w (.tuple #[.int .i64 (yrI s).1, .int .i64 (yrI s).2]) := by
 have K1 := implCut1 s 47 w hs
 have hz := cut1_size s 47
 unfold yrI
 generalize cut1 s 47 = c at *
 obtain ⟨a, b, f⟩ := c
 simp only at K1 hz ⊢
 have KA : ∀ W, Below w.heap.size w W → CR 117 #[.string a] W (.int .i64 (readDec a)) := fun W h => implReadDec a W (by unfold maxLen; omega) (hP.later h)
 have KB : ∀ W, Below w.heap.size w W → CR 117 #[.string b] W (.int .i64 (readDec b)) := fun W h => implReadDec b W (by unfold maxLen; omega) (hP.later h)
 generalize readDec a = na at *
 generalize readDec b = nb at *
 clear hP hz
 cases f
 · rw [if_neg (by decide)]
   go_enter Tryz.func70, Tryz.ntmps70
   go_wp2_with fail
   refine K1.mono ?_
   rintro e w1 ⟨rfl, B1⟩
   go_wp2_with fail
   refine (KA _ B1).mono ?_
   rintro e w2 ⟨rfl, hb⟩
   have B2 : Below w.heap.size w w2 := B1.trans (hb.mono B1.size)
   clear hb
   go_wp2
   go_ret2
   exact ⟨rfl, B2⟩
 · rw [if_pos rfl]
   go_enter Tryz.func70, Tryz.ntmps70
   go_wp2_with fail
   refine K1.mono ?_
   rintro e w1 ⟨rfl, B1⟩
   go_wp2_with fail
   refine (KA _ B1).mono ?_
   rintro e w2 ⟨rfl, hb⟩
   have B2 : Below w.heap.size w w2 := B1.trans (hb.mono B1.size)
   clear hb
   go_wp2_with fail
   refine (KB _ B2).mono ?_
   rintro e w3 ⟨rfl, hb⟩
   have B3 : Below w.heap.size w w3 := B2.trans (hb.mono B2.size)
   clear hb
   go_wp2
   go_ret2
   exact ⟨rfl, B3⟩
theorem implReadWhen (s : ByteArray) (w : World) (hs : s.size ≤ 1048576) (hT : Tab w) (hS : Shp w) (hM : Mrk w) (hN : Mon w) (hP : PowT w) : CR 71 #[.string s] w (whnV (whenI s)) := by
 obtain ⟨W0, hW0, hC, hBl⟩ := box_any w #[.int .i64 0, .int .i64 0, .int .i64 0, .int .i64 0, .int .i64 0, .int .i64 0, .bool false, .string ⟨#[]⟩, .int .i64 0] 56
 have KR : ∀ x : Later W0, CR 118 #[.string s] x.w (readV (readRoman s)) := fun x => implReadRoman s x.w hs (hT.later (hBl x)) (hS.later (hBl x)) (hM.later (hBl x)) (hN.later (hBl x))
 have KF : ∀ x : Later W0, CR 119 #[.string s] x.w (.tuple #[.int .i64 (readFeast s).1, .int .i64 (readFeast s).2]) := fun x => implRead s x.w hs (hP.later (hBl x))
 have KC : ∀ x : Later W0, CR 116 #[.string s, .string ⟨#[32]⟩] x.w (.tuple #[.string (cut1 s 32).1, .string (cut1 s 32).2.1, .bool (cut1 s 32).2.2]) := fun x => implCut1 s 32 x.w hs
 have hz := cut1_size s 32
 have KD : ∀ x : Later W0, CR 117 #[.string (cut1 s 32).1] x.w (.int .i64 (readDec (cut1 s 32).1)) := fun x => implReadDec _ x.w (by unfold maxLen; omega) (hP.later (hBl x))
 have KM : ∀ x : Later W0, CR 121 #[.string (cut1 s 32).2.1] x.w (.int .i64 (monOf (cut1 s 32).2.1)) := fun x => (implMonthOf _ x.w (hN.later (hBl x))).mono fun _ _ h => ⟨h.1, by first | exact h.2 | (rw [h.2]; exact Below.refl _ _)⟩
 have hfb : -1 ≤ (readFeast s).1 ∧ (readFeast s).1 < 20 := ⟨(readParts_b (cut s 43)).1, (readParts_b (cut s 43)).2.1⟩
 have u : ∀ x : Later W0, Blk x.w w.heap.size #[.int .i64 0, .int .i64 0, .int .i64 0, .int .i64 0, .int .i64 0, .int .i64 0, .bool false, .string ⟨#[]⟩, .int .i64 0] 56 := hC
 obtain ⟨f0, f1, f2, f3, f4, f5, f6, f7, f8⟩ := thaws9 hC
 obtain ⟨u0, u1, u2, u3, u4, u5, u6, u7, u8⟩ := cells9 hC
 have HW0 := hideP hW0
 have HC := hideP hC
 have HBl := hideP hBl
 have HE : Hid (whenI s = if (readRoman s).2 = true then ⟨1, 0, 0, (readRoman s).1, ⟨#[]⟩, 0⟩ else if 0 ≤ (readFeast s).1 then ⟨2, 0, 0, rom0, (feaAt (readFeast s).1.toNat).name, (readFeast s).2⟩ else ⟨0, monOf (cut1 s 32).2.1, readDec (cut1 s 32).1, rom0, ⟨#[]⟩, 0⟩) := rfl
 generalize whenI s = ans at *
 generalize readRoman s = q at *
 obtain ⟨⟨a, b, c, t⟩, ok⟩ := q
 generalize readFeast s = r at *
 obtain ⟨at0, pl⟩ := r
 generalize cut1 s 32 = c1 at *
 obtain ⟨n0, n1, nf⟩ := c1
 simp only at KF KC KD KM hz hfb HE
 generalize monOf n1 = mo at *
 generalize readDec n0 = dy at *
 clear hW0 hC hBl hT hS hM hN hP hz u
 have KR' : ∀ x : Later W0, CR 118 #[.string s] x.w (.tuple #[.agg #[.int .i64 a, .int .i64 b, .int .i64 c, .bool t], .bool ok]) := KR
 clear KR
 cases ok
 · by_cases hat : 0 ≤ at0
   focus
     obtain rfl : ans = ⟨2, 0, 0, rom0, (feaAt at0.toNat).name, pl⟩ := HE.out.trans (by rw [if_neg (by decide), if_pos hat])
     obtain ⟨k, rfl⟩ := Int.eq_ofNat_of_zero_le hat
     rw [Int.toNat_natCast]
     have hk20 : k < 20 := by omega
     clear HE hfb hat KC KD KM
   rotate_left
   focus
     obtain rfl : at0 = -1 := by omega
     obtain rfl : ans = ⟨0, mo, dy, rom0, ⟨#[]⟩, 0⟩ := HE.out.trans (by rw [if_neg (by decide), if_neg (by decide)])
     clear HE hfb hat
   rotate_left
   all_goals
    go_enter Tryz.func71, Tryz.ntmps71
    go_wp2_with fail
    rw [← HW0.out]
    refine latO (KR' ⟨W0, Below.refl _ _⟩) fun x1 => ?_
    obtain ⟨x2, hx2⟩ : ∃ x2 : Later W0, x1.w.alloc (.cells #[.int .i64 a, .int .i64 b, .int .i64 c, .bool t] 54) = x2.w := ⟨⟨_, x1.below.alloc x1.below.size _⟩, rfl⟩
    have HX2 := hideP hx2
    clear hx2
    go_wp2_with fail
    rw [HX2.out]
    refine lat (KF x2) fun x3 => ?_
    go_wp2_with fail
   focus
     refine (implFeasts _).mono ?_
     rintro e w4 ⟨v, rfl, ho, hb⟩
     obtain ⟨x4, rfl⟩ := x3.next hb
     obtain ⟨g, cap, rfl, hg, hcell⟩ := ho.row
     have e0 : x4.w.cell? ⟨g, k * 5, none⟩ = some (.string (feaAt k).name) := by rw [show k * 5 = k * 5 + 0 from rfl, hcell k hk20 0 (by omega)]; rfl
     clear hb ho hcell
     go_wp2
     obtain ⟨W9, e9⟩ : ∃ W9, W9 = (((((((((x4.w.setCell ⟨w.heap.size, 0, none⟩ (.int .i64 2)).setCell ⟨w.heap.size, 1, none⟩ (.int .i64 0)).setCell ⟨w.heap.size, 2, none⟩ (.int .i64 0)).setCell ⟨w.heap.size, 3, none⟩ (.int .i64 0)).setCell ⟨w.heap.size, 4, none⟩ (.int .i64 0)).setCell ⟨w.heap.size, 5, none⟩ (.int .i64 0)).setCell ⟨w.heap.size, 6, none⟩ (.bool false)).setCell ⟨w.heap.size, 7, none⟩ (.string (feaAt k).name)).setCell ⟨w.heap.size, 8, none⟩ (.int .i64 pl)) := ⟨_, rfl⟩
     have Z9 : Blk W9 (w.heap.size) #[.int .i64 2, .int .i64 0, .int .i64 0, .int .i64 0, .int .i64 0, .int .i64 0, .bool false, .string (feaAt k).name, .int .i64 pl] 56 := by rw [e9]; exact ((((((((((HC.out x4).set 0 _).set 1 _).set 2 _).set 3 _).set 4 _).set 5 _).set 6 _).set 7 _).set 8 _)
     have B9 : Below w.heap.size w W9 := by rw [e9]; exact (below_store (below_store (below_store (below_store (below_store (below_store (below_store (below_store (below_store (HBl.out x4) (b := w.heap.size) (i := 0) _ (by omega)) (b := w.heap.size) (i := 1) _ (by omega)) (b := w.heap.size) (i := 2) _ (by omega)) (b := w.heap.size) (i := 3) _ (by omega)) (b := w.heap.size) (i := 4) _ (by omega)) (b := w.heap.size) (i := 5) _ (by omega)) (b := w.heap.size) (i := 6) _ (by omega)) (b := w.heap.size) (i := 7) _ (by omega)) (b := w.heap.size) (i := 8) _ (by omega))
     rw [← e9]
     clear e9
     have q0 : W9.cell? ⟨w.heap.size, 0, none⟩ = some (.int .i64 2) := Z9.cell 0 rfl
     have q1 : W9.cell? ⟨w.heap.size, 1, none⟩ = some (.int .i64 0) := Z9.cell 1 rfl
     have q2 : W9.cell? ⟨w.heap.size, 2, none⟩ = some (.int .i64 0) := Z9.cell 2 rfl
   rotate_left
   focus
     refine lat (KC x3) fun x4 => ?_
     go_wp2_with fail
     refine lat (KM x4) fun x5 => ?_
     go_wp2_with fail
     refine lat (KD x5) fun x6 => ?_
     go_wp2
     obtain ⟨W9, e9⟩ : ∃ W9, W9 = (((((((((x6.w.setCell ⟨w.heap.size, 0, none⟩ (.int .i64 0)).setCell ⟨w.heap.size, 1, none⟩ (.int .i64 mo)).setCell ⟨w.heap.size, 2, none⟩ (.int .i64 dy)).setCell ⟨w.heap.size, 3, none⟩ (.int .i64 0)).setCell ⟨w.heap.size, 4, none⟩ (.int .i64 0)).setCell ⟨w.heap.size, 5, none⟩ (.int .i64 0)).setCell ⟨w.heap.size, 6, none⟩ (.bool false)).setCell ⟨w.heap.size, 7, none⟩ (.string ⟨#[]⟩)).setCell ⟨w.heap.size, 8, none⟩ (.int .i64 0)) := ⟨_, rfl⟩
     have Z9 : Blk W9 (w.heap.size) #[.int .i64 0, .int .i64 mo, .int .i64 dy, .int .i64 0, .int .i64 0, .int .i64 0, .bool false, .string ⟨#[]⟩, .int .i64 0] 56 := by rw [e9]; exact ((((((((((HC.out x6).set 0 _).set 1 _).set 2 _).set 3 _).set 4 _).set 5 _).set 6 _).set 7 _).set 8 _)
     have B9 : Below w.heap.size w W9 := by rw [e9]; exact (below_store (below_store (below_store (below_store (below_store (below_store (below_store (below_store (below_store (HBl.out x6) (b := w.heap.size) (i := 0) _ (by omega)) (b := w.heap.size) (i := 1) _ (by omega)) (b := w.heap.size) (i := 2) _ (by omega)) (b := w.heap.size) (i := 3) _ (by omega)) (b := w.heap.size) (i := 4) _ (by omega)) (b := w.heap.size) (i := 5) _ (by omega)) (b := w.heap.size) (i := 6) _ (by omega)) (b := w.heap.size) (i := 7) _ (by omega)) (b := w.heap.size) (i := 8) _ (by omega))
     rw [← e9]
     clear e9
     have q0 : W9.cell? ⟨w.heap.size, 0, none⟩ = some (.int .i64 0) := Z9.cell 0 rfl
     have q1 : W9.cell? ⟨w.heap.size, 1, none⟩ = some (.int .i64 mo) := Z9.cell 1 rfl
     have q2 : W9.cell? ⟨w.heap.size, 2, none⟩ = some (.int .i64 dy) := Z9.cell 2 rfl
   rotate_left
   all_goals
    have q3 : W9.cell? ⟨w.heap.size, 3, none⟩ = some (.int .i64 0) := Z9.cell 3 rfl
    have q4 : W9.cell? ⟨w.heap.size, 4, none⟩ = some (.int .i64 0) := Z9.cell 4 rfl
    have q5 : W9.cell? ⟨w.heap.size, 5, none⟩ = some (.int .i64 0) := Z9.cell 5 rfl
    have q6 : W9.cell? ⟨w.heap.size, 6, none⟩ = some (.bool false) := Z9.cell 6 rfl
   · have q7 : W9.cell? ⟨w.heap.size, 7, none⟩ = some (.string (feaAt k).name) := Z9.cell 7 rfl
     have q8 : W9.cell? ⟨w.heap.size, 8, none⟩ = some (.int .i64 pl) := Z9.cell 8 rfl
     exact bodyPost_ret (by simp [results, Tryz.results71, go_sem, q0, q1, q2, q3, q4, q5, q6, q7, q8]; first | done | rfl | exact ⟨rfl, rfl⟩) rfl ⟨rfl, B9⟩
   · have q7 : W9.cell? ⟨w.heap.size, 7, none⟩ = some (.string ⟨#[]⟩) := Z9.cell 7 rfl
     have q8 : W9.cell? ⟨w.heap.size, 8, none⟩ = some (.int .i64 0) := Z9.cell 8 rfl
     exact bodyPost_ret (by simp [results, Tryz.results71, go_sem, q0, q1, q2, q3, q4, q5, q6, q7, q8]; first | done | rfl | exact ⟨rfl, rfl⟩) rfl ⟨rfl, B9⟩
 · obtain rfl : ans = ⟨1, 0, 0, ⟨a, b, c, t⟩, ⟨#[]⟩, 0⟩ := HE.out.trans (by rw [if_pos rfl])
   clear HE hfb KF KC KD KM
   go_enter Tryz.func71, Tryz.ntmps71
   go_wp2_with fail
   rw [← HW0.out]
   refine latO (KR' ⟨W0, Below.refl _ _⟩) fun x1 => ?_
   obtain ⟨x2, hx2⟩ : ∃ x2 : Later W0, x1.w.alloc (.cells #[.int .i64 a, .int .i64 b, .int .i64 c, .bool t] 54) = x2.w := ⟨⟨_, x1.below.alloc x1.below.size _⟩, rfl⟩
   have r0 : x2.w.cell? ⟨x1.w.heap.size, 0, none⟩ = some (.int .i64 a) := by rw [← hx2]; exact (Blk.new _ _ _).cell 0 rfl
   have r1 : x2.w.cell? ⟨x1.w.heap.size, 1, none⟩ = some (.int .i64 b) := by rw [← hx2]; exact (Blk.new _ _ _).cell 1 rfl
   have r2 : x2.w.cell? ⟨x1.w.heap.size, 2, none⟩ = some (.int .i64 c) := by rw [← hx2]; exact (Blk.new _ _ _).cell 2 rfl
   have r3 : x2.w.cell? ⟨x1.w.heap.size, 3, none⟩ = some (.bool t) := by rw [← hx2]; exact (Blk.new _ _ _).cell 3 rfl
   have HX2 := hideP hx2
   clear hx2
   go_upto_region 3 with fail
   rw [HX2.out]
   go_wp2
   exact ret9 (HC.out x2) (HBl.out x2) (by omega) rfl (fun _ q0 q1 q2 q3 q4 q5 q6 q7 q8 B9 => ⟨by simp [results, Tryz.results71, go_sem, q0, q1, q2, q3, q4, q5, q6, q7, q8]; first | done | rfl | exact ⟨rfl, rfl⟩, rfl, B9⟩)
end Go.Proofs.YtpclaceefapppaaGreatDoor.ctr
