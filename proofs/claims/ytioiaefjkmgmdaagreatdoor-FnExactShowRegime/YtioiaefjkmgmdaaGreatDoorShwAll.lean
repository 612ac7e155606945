/- A regime's source, plain: its lines one behind the other. Contracts of the small functions that a source is put together with: days, lines, segments, patches as texts. Contract of the program's ShowRegime: a right regime's source, the empty text for another one. Contract of the model's ShowRegime: a right regime's source, the empty text for another one. Contract of the model's ShowRegime: a right regime's source, the empty text for another one. How many data a list of variables reads as. What a law is told of a list of structs of ints that comes in: its ints are ints of 64 bits. -/
import Derived.Test.YtioiaefjkmgmdaaGreatDoorDatAll
import Derived.Test.YtioiaefjkmgmdaaGreatDoorRokAll
import Derived.Test.YtioiaefjkmgmdaaGreatDoorSolDate
import Derived.Test.YtioiaefjkmgmdaaGreatDoorSolDateImpl
import Derived.Test.YtioiaefjkmgmdaaGreatDoorVarsKit
import Derived.Test.YtioiaefjkmgmdaaGreatDoorIntRow
namespace Go.Proofs.YtioiaefjkmgmdaaGreatDoor.ctr
open Go.RowKit

abbrev sp : ByteArray := ⟨#[32]⟩
abbrev nl : ByteArray := ⟨#[10]⟩
noncomputable def dayTx (n : Int) : ByteArray := dateTx (dateOf 0 n).1 (dateOf 0 n).2.1 (dateOf 0 n).2.2.1 (dateOf 0 n).2.2.2.1
noncomputable def daysTx (a b : Int) : ByteArray := dayTx a ++ sp ++ dayTx b
def lineTx (u v : ByteArray) : ByteArray := u ++ sp ++ v ++ nl
noncomputable def useTx (s : Seg) : ByteArray := calText s.cal ++ sp ++ styText s.sty ++ sp ++ daysTx s.fr s.to ++ offTx s.off
noncomputable def patTx (p : Pat) : ByteArray := dayTx p.day ++ sp ++ monthText p.mon ++ sp ++ decN p.dom
noncomputable def rgnTx (r : Rgn) : ByteArray := r.name ++ sp ++ daysTx r.fr r.to
abbrev wUse : ByteArray := ⟨#[117, 115, 101]⟩
abbrev wPat : ByteArray := ⟨#[112, 97, 116, 99, 104]⟩
abbrev wRgn : ByteArray := ⟨#[114, 101, 105, 103, 110]⟩
abbrev wRgm : ByteArray := ⟨#[114, 101, 103, 105, 109, 101]⟩
abbrev wRng : ByteArray := ⟨#[114, 97, 110, 103, 101]⟩
abbrev wRule : ByteArray := ⟨#[114, 117, 108, 101]⟩
abbrev wSty : ByteArray := ⟨#[115, 116, 121, 108, 101]⟩
noncomputable def headTx (r : Rgm) : ByteArray := lineTx wRgm r.name ++ lineTx wRng (daysTx r.fr r.to)
noncomputable def accS (o : ByteArray) (l : List Seg) : ByteArray := l.foldl (fun o s => o ++ lineTx wUse (useTx s)) o
noncomputable def accP (o : ByteArray) (l : List Pat) : ByteArray := l.foldl (fun o s => o ++ lineTx wPat (patTx s)) o
noncomputable def accR (o : ByteArray) (l : List Rgn) : ByteArray := l.foldl (fun o s => o ++ lineTx wRgn (rgnTx s)) o
noncomputable def bodyTx (r : Rgm) : ByteArray := accR (accP (accS (headTx r) r.segs) r.pats) r.rgns
noncomputable def showTx (r : Rgm) : ByteArray := if regimeB r = true then (if r.rule = 1 then bodyTx r ++ lineTx wRule wSty else bodyTx r) else ⟨#[]⟩
theorem accS_next {o : ByteArray} {l : List Seg} {k : Nat} (h : k < l.length) : accS o (l.take (k + 1)) = accS o (l.take k) ++ lineTx wUse (useTx (atK segK l k)) := by
  unfold accS
  rw [List.take_succ_eq_append_getElem h, List.foldl_append, atK_eq h]
  rfl
theorem accP_next {o : ByteArray} {l : List Pat} {k : Nat} (h : k < l.length) : accP o (l.take (k + 1)) = accP o (l.take k) ++ lineTx wPat (patTx (atK patK l k)) := by
  unfold accP
  rw [List.take_succ_eq_append_getElem h, List.foldl_append, atK_eq h]
  rfl
theorem accR_next {o : ByteArray} {l : List Rgn} {k : Nat} (h : k < l.length) : accR o (l.take (k + 1)) = accR o (l.take k) ++ lineTx wRgn (rgnTx (rgA l k)) := by
  unfold accR
  rw [List.take_succ_eq_append_getElem h, List.foldl_append, rgA_eq h]
  rfl
theorem dateTx_small (c y m d : Int) : (dateTx c y m d).size ≤ 69 := by
  unfold dateTx
  split
  · rename_i h
    have hn := date_nums h
    have a1 := decN_small (n := y) (by omega) (by omega)
    have a2 := decN_small (n := m) (by omega) (by omega)
    have a3 := decN_small (n := d) (by omega) (by omega)
    have a4 := calT_small c
    simp only [ByteArray.size_append]
    show (calText c).size + 1 + (decN y).size + 1 + (decN m).size + 1 + (decN d).size ≤ 69
    omega
  · decide
theorem dayTx_small (n : Int) : (dayTx n).size ≤ 69 := dateTx_small _ _ _ _
theorem daysTx_small (a b : Int) : (daysTx a b).size ≤ 139 := by
  have h1 := dayTx_small a
  have h2 := dayTx_small b
  unfold daysTx
  simp only [ByteArray.size_append]
  show (dayTx a).size + 1 + (dayTx b).size ≤ 139
  omega
theorem lineTx_size (u v : ByteArray) : (lineTx u v).size = u.size + v.size + 2 := by
  unfold lineTx
  simp only [ByteArray.size_append]
  show u.size + 1 + v.size + 1 = _
  omega
theorem useTx_small {s : Seg} (h : inB s.off (-3) 3 = true) : (useTx s).size ≤ 170 := by
  have h1 := calT_small s.cal
  have h2 := sty_small s.sty
  have h3 := daysTx_small s.fr s.to
  have h4 := offTx_small h
  unfold useTx
  simp only [ByteArray.size_append]
  show (calText s.cal).size + 1 + (styText s.sty).size + 1 + (daysTx s.fr s.to).size + (offTx s.off).size ≤ 170
  omega
theorem mon_small (m : Int) : (monthText m).size ≤ 3 := by
  by_cases h : m < 1 ∨ 12 < m
  · rw [monthText_no h]; decide
  · rcases mon_cases (m := m) (by omega) (by omega) with rfl | rfl | rfl | rfl | rfl | rfl | rfl | rfl | rfl | rfl | rfl | rfl <;> decide
theorem patTx_small {p : Pat} (h0 : -9223372036854775808 ≤ p.dom) (h1 : p.dom ≤ 9223372036854775807) : (patTx p).size ≤ 95 := by
  have a1 := dayTx_small p.day
  have a2 := mon_small p.mon
  have a3 := decN_small h0 h1
  unfold patTx
  simp only [ByteArray.size_append]
  show (dayTx p.day).size + 1 + (monthText p.mon).size + 1 + (decN p.dom).size ≤ 95
  omega
theorem rgnTx_small {r : Rgn} (h : r.name.size ≤ 16) : (rgnTx r).size ≤ 156 := by
  have a1 := daysTx_small r.fr r.to
  unfold rgnTx
  simp only [ByteArray.size_append]
  show r.name.size + 1 + (daysTx r.fr r.to).size ≤ 156
  omega
theorem decT_eq (n : Int) : decT n = decN n := rfl
/-- What a right regime is told to be. -/
theorem right_parts {r : Rgm} (h : regimeB r = true) : r.name.size ≤ 16 ∧ r.segs.length ≤ 20 ∧ r.pats.length ≤ 8 ∧ r.rgns.length ≤ 30 ∧ (∀ k, k < r.segs.length → segOkB (atK segK r.segs k) = true) ∧ (∀ k, k < r.pats.length → patB (atK patK r.pats k) = true) ∧ (∀ k, k < r.rgns.length → rgnB (rgA r.rgns k) = true) := by
  unfold regimeB segsB patsB reignsOk at h
  simp only [Bool.and_eq_true, decide_eq_true_eq] at h
  obtain ⟨hn, _, _, ⟨hs1, hs2, _⟩, ⟨hp1, hp2⟩, ⟨hr1, hr2⟩, _⟩ := h
  have inB_le : ∀ {x a b : Int}, inB x a b = true → x ≤ b := fun {x a b} h => by
    by_cases q : x ≤ b
    · exact q
    · rw [inB_false (.inr (by omega))] at h; cases h
  refine ⟨?_, ?_, by omega, hr1, fun k hk => (segFit_ok (allTo_at hs2 hk)).1, fun k hk => ?_, fun k hk => ?_⟩
  · unfold nameOk at hn
    simp only [Bool.and_eq_true] at hn
    have := inB_le hn.1
    omega
  · have := inB_le hs1
    omega
  · have := allTo_at hp2 hk
    unfold patFit at this
    simp only [Bool.and_eq_true] at this
    exact this.1
  · have go : ∀ n, okTo r.rgns n = true → ∀ k, k < n → okAt r.rgns k = true := by
      intro n
      induction n with
      | zero => intro _ k hk; omega
      | succ n ih =>
        intro h k hk
        rw [okTo] at h
        simp only [Bool.and_eq_true] at h
        by_cases e : k = n
        · subst e; first | exact h.2 | exact h.1
        · first | exact ih h.1 k (by omega) | exact ih h.2 k (by omega)
    have := go _ hr2 k hk
    unfold okAt at this
    simp only [Bool.and_eq_true] at this
    exact this.1
theorem rgn_name {r : Rgn} (h : rgnB r = true) : r.name.size ≤ 16 := by
  unfold rgnB nameOk at h
  simp only [Bool.and_eq_true] at h
  have h1 := h.1.1
  by_cases q : (r.name.size : Int) ≤ 16
  · omega
  · rw [inB_false (.inr (by omega))] at h1; cases h1
theorem pat_dom {p : Pat} (h : patB p = true) : 1 ≤ p.dom ∧ p.dom ≤ 31 := by
  unfold patB at h
  simp only [Bool.and_eq_true] at h
  have h1 := h.2
  by_cases q : 1 ≤ p.dom ∧ p.dom ≤ 31
  · exact q
  · rw [inB_false (by omega)] at h1; cases h1
end Go.Proofs.YtioiaefjkmgmdaaGreatDoor.ctr

namespace Go.Proofs.YtioiaefjkmgmdaaGreatDoor.ctr
open Go.RowKit

abbrev TabM (w : World) : Prop := kit.StrIs Tryz.prog w "loop.example/g00638/impl.monthNames" mons
theorem TabM.later {w w1 : World} (h : TabM w) (hb : Below w.heap.size w w1) : TabM w1 := kit.StrIs.below h hb (g := 3) (by kernel_rfl)
theorem implSourceLine (u v : ByteArray) (w : World) (hu : u.size ≤ 10) (hv : v.size ≤ 300) : Calls Tryz.prog 62 #[.string u, .string v] w fun e w' => e = .returned (.string (lineTx u v)) ∧ w' = w := by
  have s1 : (u ++ (⟨#[32]⟩ : ByteArray)).size ≤ 11 := by rw [ByteArray.size_append]; show u.size + 1 ≤ 11; omega
  have s2 : (u ++ (⟨#[32]⟩ : ByteArray) ++ v).size ≤ 311 := by rw [ByteArray.size_append]; omega
  have s3 : (u ++ (⟨#[32]⟩ : ByteArray) ++ v ++ (⟨#[10]⟩ : ByteArray)).size ≤ 312 := by rw [ByteArray.size_append]; show _ + 1 ≤ 312; omega
  unfold lineTx
  go_enter Tryz.func62, Tryz.ntmps62
  go_wp2
  go_ret
  exact ⟨rfl, rfl⟩

set_option maxHeartbeats 1000000 in
theorem implDayTx (n : Int) (w : World) (hT : Tab w) (hP : PowN w) : Calls Tryz.prog 133 #[.int .i64 n] w fun e w' => e = .returned (.string (dayTx n)) ∧ Below w.heap.size w w' := by
  have KD := hideP (implDateOf 0 n w hT)
  unfold dateR at KD
  unfold dayTx
  generalize (dateOf 0 n).1 = c at *
  generalize (dateOf 0 n).2.1 = y at *
  generalize (dateOf 0 n).2.2.1 = m at *
  generalize (dateOf 0 n).2.2.2.1 = d at *
  generalize (dateOf 0 n).2.2.2.2 = ok at *
  have KT : Hid (∀ W, Below w.heap.size w W → Calls Tryz.prog 26 #[.agg #[.int .i64 c, .int .i64 y, .int .i64 m, .int .i64 d]] W fun e w' => e = .returned (.string (dateTx c y m d)) ∧ Below W.heap.size W w') := fun W hb => implDateText c y m d W (hT.later hb) (hP.later hb)
  generalize dateTx c y m d = tx at *
  clear hT hP
  go_enter Tryz.func133, Tryz.ntmps133
  go_wp2_with fail
  refine KD.out.mono ?_
  rintro e w1 ⟨rfl, hb⟩
  have B1 := hideP hb
  clear hb KD
  go_wp2_with fail
  refine (KT.out _ (B1.out.alloc B1.out.size _)).mono ?_
  rintro e w2 ⟨rfl, hb⟩
  have B2 := hideP (B1.out.trans ((below_alloc hb).mono B1.out.size))
  clear hb
  go_wp2
  go_ret
  exact ⟨rfl, B2.out⟩

set_option maxHeartbeats 1000000 in
theorem specDayTx (n : Int) (w : World) : Calls Tryz.prog 79 #[.int .i64 n] w fun e w' => e = .returned (.string (dayTx n)) ∧ Below w.heap.size w w' := by
  have KD := hideP (specDateOf 0 n w)
  unfold dateR at KD
  unfold dayTx
  generalize (dateOf 0 n).1 = c at *
  generalize (dateOf 0 n).2.1 = y at *
  generalize (dateOf 0 n).2.2.1 = m at *
  generalize (dateOf 0 n).2.2.2.1 = d at *
  generalize (dateOf 0 n).2.2.2.2 = ok at *
  have KT : Hid (∀ W, Below w.heap.size w W → Calls Tryz.prog 27 #[.agg #[.int .i64 c, .int .i64 y, .int .i64 m, .int .i64 d]] W fun e w' => e = .returned (.string (dateTx c y m d)) ∧ Below W.heap.size W w') := fun W hb => specDateText c y m d W
  generalize dateTx c y m d = tx at *
  skip
  go_enter Tryz.func79, Tryz.ntmps79
  go_wp2_with fail
  refine KD.out.mono ?_
  rintro e w1 ⟨rfl, hb⟩
  have B1 := hideP hb
  clear hb KD
  go_wp2_with fail
  refine (KT.out _ (B1.out.alloc B1.out.size _)).mono ?_
  rintro e w2 ⟨rfl, hb⟩
  have B2 := hideP (B1.out.trans ((below_alloc hb).mono B1.out.size))
  clear hb
  go_wp2
  go_ret
  exact ⟨rfl, B2.out⟩

set_option maxHeartbeats 1000000 in
theorem implDaysTx (a b : Int) (w : World) (hT : Tab w) (hP : PowN w) : Calls Tryz.prog 63 #[.int .i64 a, .int .i64 b] w fun e w' => e = .returned (.string (daysTx a b)) ∧ Below w.heap.size w w' := by
  have KA := hideP (implDayTx a w hT hP)
  have KB : Hid (∀ W, Below w.heap.size w W → Calls Tryz.prog 133 #[.int .i64 b] W fun e w' => e = .returned (.string (dayTx b)) ∧ Below W.heap.size W w') := fun W hb => implDayTx b W (hT.later hb) (hP.later hb)
  have z1 := dayTx_small a
  have z2 := dayTx_small b
  unfold daysTx
  generalize dayTx a = ta at *
  generalize dayTx b = tb at *
  have s1 : (ta ++ (⟨#[32]⟩ : ByteArray)).size ≤ 70 := by rw [ByteArray.size_append]; show ta.size + 1 ≤ 70; omega
  have s2 : (ta ++ (⟨#[32]⟩ : ByteArray) ++ tb).size ≤ 139 := by rw [ByteArray.size_append]; omega
  clear hT hP
  go_enter Tryz.func63, Tryz.ntmps63
  go_wp2_with fail
  refine KA.out.mono ?_
  rintro e w1 ⟨rfl, hb⟩
  have B1 := hideP hb
  clear hb KA
  go_wp2_with fail
  refine (KB.out _ B1.out).mono ?_
  rintro e w2 ⟨rfl, hb⟩
  have B2 := hideP (B1.out.trans (hb.mono B1.out.size))
  clear hb
  go_wp2
  go_ret
  exact ⟨rfl, B2.out⟩
set_option maxHeartbeats 2000000 in
theorem implUseTx (s : Seg) (w : World) (hs : segOkB s = true) (hT : Tab w) (hP : PowN w) (hS : TabS w) : Calls Tryz.prog 64 #[.agg #[.int .i64 s.fr, .int .i64 s.to, .int .i64 s.cal, .int .i64 s.sty, .int .i64 s.off]] w fun e w' => e = .returned (.string (useTx s)) ∧ Below w.heap.size w w' := by
  obtain ⟨W0, hW0, c0, c1, c2, c3, c4, hBl⟩ := seg_box w s.fr s.to s.cal s.sty s.off 56
  have HW0 := hideP hW0
  have HBl := hideP hBl
  have KC : ∀ y : Later W0, Calls Tryz.prog 86 #[.int .i64 s.cal] y.w fun e w' => e = .returned (.string (calText s.cal)) ∧ w' = y.w := fun y => implCalName s.cal y.w
  have KN : ∀ y : Later W0, Calls Tryz.prog 134 #[.int .i64 s.sty] y.w fun e w' => e = .returned (.string (styText s.sty)) ∧ w' = y.w := fun y => implStyleName s.sty y.w (hS.later (hBl y))
  have KD : ∀ y : Later W0, Calls Tryz.prog 63 #[.int .i64 s.fr, .int .i64 s.to] y.w fun e w' => e = .returned (.string (daysTx s.fr s.to)) ∧ Below y.w.heap.size y.w w' := fun y => implDaysTx s.fr s.to y.w (hT.later (hBl y)) (hP.later (hBl y))
  have KF : ∀ y : Later W0, Calls Tryz.prog 135 #[.int .i64 s.off] y.w fun e w' => e = .returned (.string (offTx s.off)) ∧ Below y.w.heap.size y.w w' := fun y => implOffText s.off y.w (segOk_off hs) (hP.later (hBl y))
  have z1 := calT_small s.cal
  have z2 := sty_small s.sty
  have z3 := daysTx_small s.fr s.to
  have z4 := offTx_small (segOk_off hs)
  unfold useTx
  clear hW0 hBl hT hP hS hs
  generalize calText s.cal = tc at *
  generalize styText s.sty = ts at *
  generalize daysTx s.fr s.to = td at *
  generalize offTx s.off = tof at *
  have s1 : (tc ++ (⟨#[32]⟩ : ByteArray)).size ≤ 4 := by rw [ByteArray.size_append]; show tc.size + 1 ≤ 4; omega
  have s2 : (tc ++ (⟨#[32]⟩ : ByteArray) ++ ts).size ≤ 10 := by rw [ByteArray.size_append]; omega
  have s3 : (tc ++ (⟨#[32]⟩ : ByteArray) ++ ts ++ (⟨#[32]⟩ : ByteArray)).size ≤ 11 := by rw [ByteArray.size_append]; show _ + 1 ≤ 11; omega
  have s4 : (tc ++ (⟨#[32]⟩ : ByteArray) ++ ts ++ (⟨#[32]⟩ : ByteArray) ++ td).size ≤ 150 := by rw [ByteArray.size_append]; omega
  have s5 : (tc ++ (⟨#[32]⟩ : ByteArray) ++ ts ++ (⟨#[32]⟩ : ByteArray) ++ td ++ tof).size ≤ 154 := by rw [ByteArray.size_append]; omega
  go_enter Tryz.func64, Tryz.ntmps64
  go_wp2_with fail
  rw [← HW0.out]
  refine wp_region_later (W := W0) (Below.refl _ _) (by kernel_rfl) (by kernel_rfl) ?_
  repeat (go_big_quiet_step (first | (go_at_call 86; exact calls_same (KC _)) | (go_at_call 134; exact calls_same (KN _)) | (go_at_call 63; exact calls_later (KD _)) | (go_at_call 135; exact calls_later (KF _))))
  refine wpQuiet_nil ?_
  intro _ hw'
  obtain ⟨x, rfl⟩ := hw'
  go_wp2
  go_ret
  exact ⟨rfl, HBl.out x⟩
set_option maxHeartbeats 2000000 in
theorem implPatTx (p : Pat) (w : World) (hp : patB p = true) (hT : Tab w) (hP : PowN w) (hM : TabM w) : Calls Tryz.prog 65 #[.agg #[.int .i64 p.day, .int .i64 p.mon, .int .i64 p.dom]] w fun e w' => e = .returned (.string (patTx p)) ∧ Below w.heap.size w w' := by
  obtain ⟨W0, hW0, c0, c1, c2, hBl⟩ := pat_box w p.day p.mon p.dom 84
  have HW0 := hideP hW0
  have HBl := hideP hBl
  have hd := pat_dom hp
  have KC : ∀ y : Later W0, Calls Tryz.prog 133 #[.int .i64 p.day] y.w fun e w' => e = .returned (.string (dayTx p.day)) ∧ Below y.w.heap.size y.w w' := fun y => implDayTx p.day y.w (hT.later (hBl y)) (hP.later (hBl y))
  have KN : ∀ y : Later W0, Calls Tryz.prog 136 #[.int .i64 p.mon] y.w fun e w' => e = .returned (.string (monthText p.mon)) ∧ w' = y.w := fun y => implMonthName p.mon y.w (hM.later (hBl y))
  have KD : ∀ y : Later W0, Calls Tryz.prog 87 #[.int .i64 p.dom] y.w fun e w' => e = .returned (.string (decN p.dom)) ∧ Below y.w.heap.size y.w w' := fun y => implDecText p.dom y.w (by omega) (by omega) (hP.later (hBl y))
  have z1 := dayTx_small p.day
  have z2 := mon_small p.mon
  have z3 := decN_small (n := p.dom) (by omega) (by omega)
  unfold patTx
  clear hW0 hBl hT hP hM hp hd
  generalize dayTx p.day = tc at *
  generalize monthText p.mon = ts at *
  generalize decN p.dom = td at *
  have s1 : (tc ++ (⟨#[32]⟩ : ByteArray)).size ≤ 70 := by rw [ByteArray.size_append]; show tc.size + 1 ≤ 70; omega
  have s2 : (tc ++ (⟨#[32]⟩ : ByteArray) ++ ts).size ≤ 73 := by rw [ByteArray.size_append]; omega
  have s3 : (tc ++ (⟨#[32]⟩ : ByteArray) ++ ts ++ (⟨#[32]⟩ : ByteArray)).size ≤ 74 := by rw [ByteArray.size_append]; show _ + 1 ≤ 74; omega
  have s4 : (tc ++ (⟨#[32]⟩ : ByteArray) ++ ts ++ (⟨#[32]⟩ : ByteArray) ++ td).size ≤ 95 := by rw [ByteArray.size_append]; omega
  go_enter Tryz.func65, Tryz.ntmps65
  go_wp2_with fail
  rw [← HW0.out]
  refine wp_region_later (W := W0) (Below.refl _ _) (by kernel_rfl) (by kernel_rfl) ?_
  repeat (go_big_quiet_step (first | (go_at_call 133; exact calls_later (KC _)) | (go_at_call 136; exact calls_same (KN _)) | (go_at_call 87; exact calls_later (KD _))))
  refine wpQuiet_nil ?_
  intro _ hw'
  obtain ⟨x, rfl⟩ := hw'
  go_wp2
  go_ret
  exact ⟨rfl, HBl.out x⟩
end Go.Proofs.YtioiaefjkmgmdaaGreatDoor.ctr

namespace Go.Proofs.YtioiaefjkmgmdaaGreatDoor.ctr
open Go.RowKit

theorem accS_small {o : ByteArray} {l : List Seg} {b : Nat} (ho : o.size ≤ b) (h : ∀ k, k < l.length → (useTx (atK segK l k)).size ≤ 170) : ∀ k, k ≤ l.length → (accS o (l.take k)).size ≤ b + 200 * k
  | 0, _ => by simpa [accS] using ho
  | k + 1, hk => by
    have h1 := accS_small ho h k (by omega)
    have h2 := h k (by omega)
    rw [accS_next (by omega), ByteArray.size_append, lineTx_size]
    show _ + (3 + _ + 2) ≤ _
    omega
theorem accP_small {o : ByteArray} {l : List Pat} {b : Nat} (ho : o.size ≤ b) (h : ∀ k, k < l.length → (patTx (atK patK l k)).size ≤ 95) : ∀ k, k ≤ l.length → (accP o (l.take k)).size ≤ b + 200 * k
  | 0, _ => by simpa [accP] using ho
  | k + 1, hk => by
    have h1 := accP_small ho h k (by omega)
    have h2 := h k (by omega)
    rw [accP_next (by omega), ByteArray.size_append, lineTx_size]
    show _ + (5 + _ + 2) ≤ _
    omega
theorem accR_small {o : ByteArray} {l : List Rgn} {b : Nat} (ho : o.size ≤ b) (h : ∀ k, k < l.length → (rgnTx (rgA l k)).size ≤ 156) : ∀ k, k ≤ l.length → (accR o (l.take k)).size ≤ b + 200 * k
  | 0, _ => by simpa [accR] using ho
  | k + 1, hk => by
    have h1 := accR_small ho h k (by omega)
    have h2 := h k (by omega)
    rw [accR_next (by omega), ByteArray.size_append, lineTx_size]
    show _ + (5 + _ + 2) ≤ _
    omega
theorem head_small {r : Rgm} (h : r.name.size ≤ 16) : (headTx r).size ≤ 200 := by
  have h1 := daysTx_small r.fr r.to
  unfold headTx
  rw [ByteArray.size_append, lineTx_size, lineTx_size]
  show 6 + _ + 2 + (5 + _ + 2) ≤ 200
  omega
/-- What the loops go through. -/
structure ShwOk (r : Rgm) : Prop where
  name : r.name.size ≤ 16
  segs : r.segs.length ≤ 20
  pats : r.pats.length ≤ 8
  rgns : r.rgns.length ≤ 30
  seg : ∀ k, k < r.segs.length → segOkB (atK segK r.segs k) = true
  pat : ∀ k, k < r.pats.length → patB (atK patK r.pats k) = true
  rgn : ∀ k, k < r.rgns.length → rgnB (rgA r.rgns k) = true
theorem shwOk {r : Rgm} (h : regimeB r = true) : ShwOk r := by
  obtain ⟨a, b, c, d, e, f, g⟩ := right_parts h
  exact ⟨a, b, c, d, e, f, g⟩
theorem ShwOk.s {r : Rgm} (h : ShwOk r) {k : Nat} (hk : k ≤ r.segs.length) : (accS (headTx r) (r.segs.take k)).size ≤ 200 + 200 * k := accS_small (head_small h.name) (fun j hj => useTx_small (segOk_off (h.seg j hj))) k hk
theorem ShwOk.p {r : Rgm} (h : ShwOk r) {k : Nat} (hk : k ≤ r.pats.length) : (accP (accS (headTx r) r.segs) (r.pats.take k)).size ≤ 4200 + 200 * k := by
  have h0 := h.s (Nat.le_refl _)
  rw [List.take_length] at h0
  have := h.segs
  exact accP_small (by omega) (fun j hj => patTx_small (by have := pat_dom (h.pat j hj); omega) (by have := pat_dom (h.pat j hj); omega)) k hk
theorem ShwOk.r {r : Rgm} (h : ShwOk r) {k : Nat} (hk : k ≤ r.rgns.length) : (accR (accP (accS (headTx r) r.segs) r.pats) (r.rgns.take k)).size ≤ 5800 + 200 * k := by
  have h0 := h.p (Nat.le_refl _)
  rw [List.take_length] at h0
  have := h.pats
  exact accR_small (by omega) (fun j hj => rgnTx_small (rgn_name (h.rgn j hj))) k hk

set_option maxRecDepth 100000 in
set_option maxHeartbeats 8000000 in
theorem implShow (v : Value) (r : Rgm) (a : Addr) (w : World) (h : GRow w v r) (ht : r.to ≤ 9223372036854775807) (hE : ErrT w) (hT : Tab w) (hQ : Sent w a) (hP : PowN w) (hS : TabS w) (hM : TabM w) : Calls Tryz.prog 13 #[v] w fun e w' => e = .returned (.string (showTx r)) ∧ Below w.heap.size w w' := by
  have KR : Hid (∀ W, Below w.heap.size w W → Calls Tryz.prog 28 #[v] W fun e w' => e = .returned (.bool (regimeB r)) ∧ Below W.heap.size W w') := fun W hb => implRegimeOk v r a W (h.below hb) ht (hE.below hb) (hT.later hb) (hQ.later hb)
  have KD : Hid (∀ x y W, Below w.heap.size w W → Calls Tryz.prog 63 #[.int .i64 x, .int .i64 y] W fun e w' => e = .returned (.string (daysTx x y)) ∧ Below W.heap.size W w') := fun x y W hb => implDaysTx x y W (hT.later hb) (hP.later hb)
  have KU : Hid (∀ s W, segOkB s = true → Below w.heap.size w W → Calls Tryz.prog 64 #[.agg #[.int .i64 s.fr, .int .i64 s.to, .int .i64 s.cal, .int .i64 s.sty, .int .i64 s.off]] W fun e w' => e = .returned (.string (useTx s)) ∧ Below W.heap.size W w') := fun s W hs hb => implUseTx s W hs (hT.later hb) (hP.later hb) (hS.later hb)
  have KP : Hid (∀ p W, patB p = true → Below w.heap.size w W → Calls Tryz.prog 65 #[.agg #[.int .i64 p.day, .int .i64 p.mon, .int .i64 p.dom]] W fun e w' => e = .returned (.string (patTx p)) ∧ Below W.heap.size W w') := fun p W hp hb => implPatTx p W hp (hT.later hb) (hP.later hb) (hM.later hb)
  have HO : Hid (regimeB r = true → ShwOk r) := fun h => shwOk h
  obtain ⟨R, hR⟩ : ∃ R, R = showTx r := ⟨_, rfl⟩
  rw [← hR]
  have HR := hideP hR
  clear hE hT hQ hP hS hM ht hR
  unfold showTx at HR
  generalize regimeB r = ok at *
  obtain ⟨v1, v2, v3, rfl, hnm, x1, x2, x3⟩ := h
  obtain ⟨W0, hW0, d0, d1, d2, d3, d4, d5, d6, hBl⟩ := seven_box w (.string r.name) (.int .i64 r.fr) (.int .i64 r.to) v1 v2 v3 (.int .i64 r.rule) 29
  have X1 := hideP (x1.below (hBl ⟨W0, Below.refl _ _⟩))
  have X2 := hideP (x2.below (hBl ⟨W0, Below.refl _ _⟩))
  have X3 := hideP (x3.below (hBl ⟨W0, Below.refl _ _⟩))
  obtain ⟨a1, c1, rfl, _⟩ := x1
  obtain ⟨a2, c2, rfl, _⟩ := x2
  obtain ⟨a3, c3, rfl, _⟩ := x3
  have HW0 := hideP hW0
  have HBl := hideP hBl
  clear hW0 hBl
  cases ok
  · have HE : Hid (R = ⟨#[]⟩) := HR.out
    clear HR HO KD KU KP
    go_enter Tryz.func13, Tryz.ntmps13
    go_wp2_with fail
    rw [← HW0.out]
    refine (KR.out _ (HBl.out ⟨W0, Below.refl _ _⟩)).mono ?_
    rintro e w1 ⟨rfl, hb⟩
    obtain ⟨y1, rfl⟩ := Later.of hb
    clear hb
    go_wp2
    go_ret
    exact ⟨ret_str HE.out.symm, HBl.out y1⟩
  have OK := hideP (HO.out rfl)
  have HR2 : Hid (R = if r.rule = 1 then bodyTx r ++ lineTx wRule wSty else bodyTx r) := HR.out
  clear HO HR
  have JD : ∀ y : Later W0, Calls Tryz.prog 63 #[.int .i64 r.fr, .int .i64 r.to] y.w fun e w' => e = .returned (.string (daysTx r.fr r.to)) ∧ Below y.w.heap.size y.w w' := fun y => KD.out _ _ _ (HBl.out y)
  have zn := OK.out.name
  have zd := daysTx_small r.fr r.to
  have JN : ∀ y : Later W0, Calls Tryz.prog 62 #[.string wRgm, .string r.name] y.w fun e w' => e = .returned (.string (lineTx wRgm r.name)) ∧ w' = y.w := fun y => implSourceLine _ _ _ (by decide) (by omega)
  have JR : ∀ y : Later W0, Calls Tryz.prog 62 #[.string wRng, .string (daysTx r.fr r.to)] y.w fun e w' => e = .returned (.string (lineTx wRng (daysTx r.fr r.to))) ∧ w' = y.w := fun y => implSourceLine _ _ _ (by decide) (by omega)
  have hd0 := OK.out.s (k := 0) (Nat.zero_le _)
  have e0 : lineTx wRgm r.name ++ lineTx wRng (daysTx r.fr r.to) = headTx r := rfl
  rw [List.take_zero] at hd0
  change (headTx r).size ≤ _ at hd0
  have hs1 : (lineTx wRgm r.name ++ lineTx wRng (daysTx r.fr r.to)).size ≤ 200 := by rw [e0]; omega
  have E0 := hideP e0
  have zt1 : (lineTx wRgm r.name).size ≤ 30 := by rw [lineTx_size]; show 6 + _ + 2 ≤ 30; omega
  have zt2 : (lineTx wRng (daysTx r.fr r.to)).size ≤ 160 := by rw [lineTx_size]; show 5 + _ + 2 ≤ 160; omega
  clear e0
  generalize lineTx wRgm r.name = t1 at *
  generalize lineTx wRng (daysTx r.fr r.to) = t2 at *
  go_enter Tryz.func13, Tryz.ntmps13
  go_wp2_with fail
  rw [← HW0.out]
  refine (KR.out _ (HBl.out ⟨W0, Below.refl _ _⟩)).mono ?_
  rintro e w1 ⟨rfl, hb⟩
  obtain ⟨y1, rfl⟩ := Later.of hb
  clear hb KR
  generalize daysTx r.fr r.to = td at *
  go_wp2_with fail
  refine wp_region_later (W := W0) y1.below (by kernel_rfl) (by kernel_rfl) ?_
  repeat (go_big_quiet_step (first | (go_at_call 63; exact calls_later (JD _)) | (go_at_call_of 62 td; exact calls_same (JR _)) | (go_at_call 62; exact calls_same (JN _))))
  refine wpQuiet_nil ?_
  intro _ hw'
  obtain ⟨y2, rfl⟩ := hw'
  rw [E0.out]
  have E1 : Hid (headTx r = accS (headTx r) (r.segs.take 0)) := by unfold Hid; rw [List.take_zero]; rfl
  clear JD JN JR hs1 zt1 zt2 E0 y1 zd hd0
  go_wp2_with fail
  go_loopw [3, 26] (fun o i wr => ∃ k : Nat, k ≤ r.segs.length ∧ i = .int .i64 (k : Int) ∧ o = .string (accS (headTx r) (r.segs.take k)) ∧ ∃ y : Later W0, wr = y.w) (fun _ i _ => r.segs.length - (intOf i).toNat)
  case atStart => exact ⟨0, Nat.zero_le _, rfl, by rw [← E1.out], y2, rfl⟩
  case round =>
    obtain ⟨k, hk, rfl, rfl, y, rfl⟩ := hrel
    clear E1 y2
    have zo := OK.out.s hk
    have zl := OK.out.segs
    by_cases hlt : k < r.segs.length
    · have HN := hideP (accS_next (o := headTx r) hlt)
      have hsg := OK.out.seg k hlt
      have zu := useTx_small (segOk_off hsg)
      obtain ⟨ad, cc, ev, _, hm, HK⟩ := X1.out
      cases ev
      obtain ⟨g, rfl, hg, x⟩ := HK k hlt
      obtain ⟨b0, b1, b2, b3, b4⟩ := (x.below y.below hg).seg
      have KU1 : Hid (∀ W, Below w.heap.size w W → Calls Tryz.prog 64 #[.agg #[.int .i64 (atK segK r.segs k).fr, .int .i64 (atK segK r.segs k).to, .int .i64 (atK segK r.segs k).cal, .int .i64 (atK segK r.segs k).sty, .int .i64 (atK segK r.segs k).off]] W fun e w' => e = .returned (.string (useTx (atK segK r.segs k))) ∧ Below W.heap.size W w') := fun W hb => KU.out _ W hsg hb
      have KL : Hid (∀ W, Calls Tryz.prog 62 #[.string wUse, .string (useTx (atK segK r.segs k))] W fun e w' => e = .returned (.string (lineTx wUse (useTx (atK segK r.segs k)))) ∧ w' = W) := fun W => implSourceLine _ _ _ (by decide) (by omega)
      have zz : (accS (headTx r) (r.segs.take k) ++ lineTx wUse (useTx (atK segK r.segs k))).size ≤ 5000 := by rw [ByteArray.size_append, lineTx_size]; show _ + (3 + _ + 2) ≤ 5000; omega
      have ztl : (lineTx wUse (useTx (atK segK r.segs k))).size ≤ 175 := by rw [lineTx_size]; show 3 + _ + 2 ≤ 175; omega
      have hkl : (k : Int) < (r.segs.length : Int) := by omega
      unfold maxLen at hm
      clear x HK hsg zu
      generalize accS (headTx r) (r.segs.take k) = o at *
      generalize lineTx wUse (useTx (atK segK r.segs k)) = tl at *
      generalize useTx (atK segK r.segs k) = tu at *
      generalize atK segK r.segs k = s at *
      go_wp2_with fail
      refine (KU1.out _ ((HBl.out y).alloc (HBl.out y).size _)).mono ?_
      rintro e w2 ⟨rfl, hb⟩
      obtain ⟨y2, rfl⟩ := y.next (below_alloc hb)
      clear hb b0 b1 b2 b3 b4
      go_wp2_with fail
      refine (KL.out _).mono ?_
      rintro e w3 ⟨rfl, rfl⟩
      go_wp2_with fail
      exact ⟨⟨k + 1, by omega, by go_num, by rw [HN.out], y2, rfl⟩, by simp [intOf]; omega⟩
    · obtain rfl : k = r.segs.length := by omega
      have hkl : ¬ (r.segs.length : Int) < (r.segs.length : Int) := by omega
      rw [List.take_length] at zo ⊢
      have E2 : Hid (accS (headTx r) r.segs = accP (accS (headTx r) r.segs) (r.pats.take 0)) := by unfold Hid; rw [List.take_zero]; rfl
      go_wp2_with fail
      go_loopw [3, 39] (fun o i wr => ∃ k : Nat, k ≤ r.pats.length ∧ i = .int .i64 (k : Int) ∧ o = .string (accP (accS (headTx r) r.segs) (r.pats.take k)) ∧ ∃ y : Later W0, wr = y.w) (fun _ i _ => r.pats.length - (intOf i).toNat)
      case atStart => exact ⟨0, Nat.zero_le _, rfl, by rw [← E2.out], y, rfl⟩
      case round =>
        obtain ⟨k, hk, rfl, rfl, y, rfl⟩ := hrel
        clear E2
        have zo := OK.out.p hk
        have zl := OK.out.pats
        by_cases hlt : k < r.pats.length
        · have HN := hideP (accP_next (o := accS (headTx r) r.segs) hlt)
          have hsg := OK.out.pat k hlt
          have hdm := pat_dom hsg
          have zu := patTx_small (p := atK patK r.pats k) (by omega) (by omega)
          obtain ⟨ad, cc, ev, _, hm, HK⟩ := X2.out
          cases ev
          obtain ⟨g, rfl, hg, x⟩ := HK k hlt
          obtain ⟨b0, b1, b2⟩ := (x.below y.below hg).pat
          have KU1 : Hid (∀ W, Below w.heap.size w W → Calls Tryz.prog 65 #[.agg #[.int .i64 (atK patK r.pats k).day, .int .i64 (atK patK r.pats k).mon, .int .i64 (atK patK r.pats k).dom]] W fun e w' => e = .returned (.string (patTx (atK patK r.pats k))) ∧ Below W.heap.size W w') := fun W hb => KP.out _ W hsg hb
          have KL : Hid (∀ W, Calls Tryz.prog 62 #[.string wPat, .string (patTx (atK patK r.pats k))] W fun e w' => e = .returned (.string (lineTx wPat (patTx (atK patK r.pats k)))) ∧ w' = W) := fun W => implSourceLine _ _ _ (by decide) (by omega)
          have ztl : (lineTx wPat (patTx (atK patK r.pats k))).size ≤ 105 := by rw [lineTx_size]; show 5 + _ + 2 ≤ 105; omega
          have zz : (accP (accS (headTx r) r.segs) (r.pats.take k) ++ lineTx wPat (patTx (atK patK r.pats k))).size ≤ 8000 := by rw [ByteArray.size_append]; omega
          have hkl : (k : Int) < (r.pats.length : Int) := by omega
          unfold maxLen at hm
          clear x HK hsg zu hdm
          generalize accP (accS (headTx r) r.segs) (r.pats.take k) = o at *
          generalize lineTx wPat (patTx (atK patK r.pats k)) = tl at *
          generalize patTx (atK patK r.pats k) = tu at *
          generalize atK patK r.pats k = s at *
          go_wp2_with fail
          refine (KU1.out _ ((HBl.out y).alloc (HBl.out y).size _)).mono ?_
          rintro e w2 ⟨rfl, hb⟩
          obtain ⟨y2, rfl⟩ := y.next (below_alloc hb)
          clear hb b0 b1 b2
          go_wp2_with fail
          refine (KL.out _).mono ?_
          rintro e w3 ⟨rfl, rfl⟩
          go_wp2_with fail
          exact ⟨⟨k + 1, by omega, by go_num, by rw [HN.out], y2, rfl⟩, by simp [intOf]; omega⟩
        · obtain rfl : k = r.pats.length := by omega
          have hkl : ¬ (r.pats.length : Int) < (r.pats.length : Int) := by omega
          rw [List.take_length] at zo ⊢
          have E3 : Hid (accP (accS (headTx r) r.segs) r.pats = accR (accP (accS (headTx r) r.segs) r.pats) (r.rgns.take 0)) := by unfold Hid; rw [List.take_zero]; rfl
          go_wp2_with fail
          go_loopw [3, 52] (fun o i wr => ∃ k : Nat, k ≤ r.rgns.length ∧ i = .int .i64 (k : Int) ∧ o = .string (accR (accP (accS (headTx r) r.segs) r.pats) (r.rgns.take k)) ∧ ∃ y : Later W0, wr = y.w) (fun _ i _ => r.rgns.length - (intOf i).toNat)
          case atStart => exact ⟨0, Nat.zero_le _, rfl, by rw [← E3.out], y, rfl⟩
          case round =>
            obtain ⟨k, hk, rfl, rfl, y, rfl⟩ := hrel
            clear E3
            have zo := OK.out.r hk
            have zl := OK.out.rgns
            by_cases hlt : k < r.rgns.length
            · have HN := hideP (accR_next (o := accP (accS (headTx r) r.segs) r.pats) hlt)
              have zn := rgn_name (OK.out.rgn k hlt)
              have zu := rgnTx_small zn
              have zd := daysTx_small (rgA r.rgns k).fr (rgA r.rgns k).to
              obtain ⟨ad, cc, ev, _, hm, _, HK⟩ := X3.out
              cases ev
              obtain ⟨g, rfl, hg, x⟩ := HK k hlt
              obtain ⟨b0, b1, b2⟩ := x.below y.below hg
              obtain ⟨W3, hW3⟩ : ∃ W3, W3 = y.w.alloc (.cells #[.string (rgA r.rgns k).name, .int .i64 (rgA r.rgns k).fr, .int .i64 (rgA r.rgns k).to] 87) := ⟨_, rfl⟩
              have m0 : ∀ z : Later W3, z.w.cell? ⟨y.w.heap.size, 0, none⟩ = some (.string (rgA r.rgns k).name) := Later.new hW3 0 rfl
              have m1 : ∀ z : Later W3, z.w.cell? ⟨y.w.heap.size, 1, none⟩ = some (.int .i64 (rgA r.rgns k).fr) := Later.new hW3 1 rfl
              have m2 : ∀ z : Later W3, z.w.cell? ⟨y.w.heap.size, 2, none⟩ = some (.int .i64 (rgA r.rgns k).to) := Later.new hW3 2 rfl
              have HB3 : Hid (∀ z : Later W3, Below W0.heap.size W0 z.w) := fun z => y.on (below_of_alloc hW3 z.below)
              have HW3 := hideP hW3
              have JD : ∀ z : Later W3, Calls Tryz.prog 63 #[.int .i64 (rgA r.rgns k).fr, .int .i64 (rgA r.rgns k).to] z.w fun e w' => e = .returned (.string (daysTx (rgA r.rgns k).fr (rgA r.rgns k).to)) ∧ Below z.w.heap.size z.w w' := fun z => KD.out _ _ _ (HBl.out ⟨z.w, HB3.out z⟩)
              have JL : ∀ z : Later W3, Calls Tryz.prog 62 #[.string wRgn, .string (rgnTx (rgA r.rgns k))] z.w fun e w' => e = .returned (.string (lineTx wRgn (rgnTx (rgA r.rgns k)))) ∧ w' = z.w := fun z => implSourceLine _ _ _ (by decide) (by omega)
              have ztl : (lineTx wRgn (rgnTx (rgA r.rgns k))).size ≤ 170 := by rw [lineTx_size]; show 5 + _ + 2 ≤ 170; omega
              have zz : (accR (accP (accS (headTx r) r.segs) r.pats) (r.rgns.take k) ++ lineTx wRgn (rgnTx (rgA r.rgns k))).size ≤ 20000 := by rw [ByteArray.size_append]; omega
              have hkl : (k : Int) < (r.rgns.length : Int) := by omega
              unfold maxLen at hm
              unfold rgnTx at *
              clear x HK hW3
              generalize accR (accP (accS (headTx r) r.segs) r.pats) (r.rgns.take k) = o at *
              generalize daysTx (rgA r.rgns k).fr (rgA r.rgns k).to = td at *
              generalize rgA r.rgns k = s at *
              have s1 : (s.name ++ (⟨#[32]⟩ : ByteArray)).size ≤ 17 := by rw [ByteArray.size_append]; show s.name.size + 1 ≤ 17; omega
              have s2 : (s.name ++ (⟨#[32]⟩ : ByteArray) ++ td).size ≤ 156 := by rw [ByteArray.size_append]; omega
              generalize lineTx wRgn (s.name ++ sp ++ td) = tl at *
              go_wp2_with fail
              rw [← HW3.out]
              refine wp_region_later (W := W3) (Below.refl _ _) (by kernel_rfl) (by kernel_rfl) ?_
              repeat (go_big_quiet_step (first | (go_at_call 63; exact calls_later (JD _)) | (go_at_call 62; exact calls_same (JL _))))
              refine wpQuiet_nil ?_
              intro _ hw'
              obtain ⟨z, rfl⟩ := hw'
              clear b0 b1 b2
              go_wp2_with fail
              exact ⟨⟨k + 1, by omega, by go_num, by rw [HN.out], ⟨z.w, HB3.out z⟩, rfl⟩, by simp [intOf]; omega⟩
            · obtain rfl : k = r.rgns.length := by omega
              have hkl : ¬ (r.rgns.length : Int) < (r.rgns.length : Int) := by omega
              rw [List.take_length] at zo ⊢
              have E4 : Hid (accR (accP (accS (headTx r) r.segs) r.pats) r.rgns = bodyTx r) := rfl
              have KL : Hid (∀ W, Calls Tryz.prog 62 #[.string wRule, .string wSty] W fun e w' => e = .returned (.string (lineTx wRule wSty)) ∧ w' = W) := fun W => implSourceLine _ _ _ (by decide) (by decide)
              have ztl : (lineTx wRule wSty).size ≤ 20 := by rw [lineTx_size]; decide
              have zz : (accR (accP (accS (headTx r) r.segs) r.pats) r.rgns ++ lineTx wRule wSty).size ≤ 20000 := by rw [ByteArray.size_append]; omega
              generalize accR (accP (accS (headTx r) r.segs) r.pats) r.rgns = o at *
              by_cases hr : r.rule = 1
              · have HE : Hid (R = o ++ lineTx wRule wSty) := by unfold Hid; rw [HR2.out, if_pos hr, E4.out]
                clear HR2
                generalize lineTx wRule wSty = tl at *
                go_wp2_with fail
                refine (KL.out _).mono ?_
                rintro e w3 ⟨rfl, rfl⟩
                go_wp2
                go_ret
                exact ⟨ret_str HE.out.symm, HBl.out y⟩
              · have HE : Hid (R = o) := by unfold Hid; rw [HR2.out, if_neg hr, E4.out]
                clear HR2
                go_wp2
                go_ret
                exact ⟨ret_str HE.out.symm, HBl.out y⟩
end Go.Proofs.YtioiaefjkmgmdaaGreatDoor.ctr

namespace Go.Proofs.YtioiaefjkmgmdaaGreatDoor.ctr
open Go.RowKit

theorem head_eq (n a b : ByteArray) : (⟨#[114, 101, 103, 105, 109, 101, 32]⟩ : ByteArray) ++ n ++ ⟨#[10, 114, 97, 110, 103, 101, 32]⟩ ++ a ++ ⟨#[32]⟩ ++ b ++ ⟨#[10]⟩ = lineTx wRgm n ++ lineTx wRng (a ++ sp ++ b) := by
  apply WideShapes.bytes_inj
  simp [lineTx]
theorem use_eq (o c s a b f : ByteArray) : o ++ ⟨#[117, 115, 101, 32]⟩ ++ c ++ ⟨#[32]⟩ ++ s ++ ⟨#[32]⟩ ++ a ++ ⟨#[32]⟩ ++ b ++ f ++ ⟨#[10]⟩ = o ++ lineTx wUse (c ++ sp ++ s ++ sp ++ (a ++ sp ++ b) ++ f) := by
  apply WideShapes.bytes_inj
  simp [lineTx]
theorem pat_eq (o a m d : ByteArray) : o ++ ⟨#[112, 97, 116, 99, 104, 32]⟩ ++ a ++ ⟨#[32]⟩ ++ m ++ ⟨#[32]⟩ ++ d ++ ⟨#[10]⟩ = o ++ lineTx wPat (a ++ sp ++ m ++ sp ++ d) := by
  apply WideShapes.bytes_inj
  simp [lineTx]
theorem rgn_eq (o n a b : ByteArray) : o ++ ⟨#[114, 101, 105, 103, 110, 32]⟩ ++ n ++ ⟨#[32]⟩ ++ a ++ ⟨#[32]⟩ ++ b ++ ⟨#[10]⟩ = o ++ lineTx wRgn (n ++ sp ++ (a ++ sp ++ b)) := by
  apply WideShapes.bytes_inj
  simp [lineTx]
theorem rule_eq : (⟨#[114, 117, 108, 101, 32, 115, 116, 121, 108, 101, 10]⟩ : ByteArray) = lineTx wRule wSty := by
  apply WideShapes.bytes_inj
  simp [lineTx]
theorem ext_tail (x y : ByteArray) (h : y.size = 3) : (x ++ y).extract ((x ++ y).size - 3) (x ++ y).size = y := by
  rw [ByteArray.size_append, h, Nat.add_sub_cancel]
  apply WideShapes.bytes_inj
  have hx : x.size = x.data.toList.length := rfl
  have hy : y.data.toList.length = 3 := h
  have e : ((x ++ y).extract x.size (x.size + 3)).data.toList = ((x ++ y).data.toList.drop x.size).take (x.size + 3 - x.size) := by
    simp [ByteArray.data_extract, Array.toList_extract, List.extract_eq_take_drop]
  rw [e, ByteArray.data_append, Array.toList_append, hx, List.drop_left, Nat.add_sub_cancel_left, ← hy, List.take_length]
theorem off_three {o : Int} (h : inB o (-3) 3 = true) (h0 : o ≠ 0) : (offTx o).size = 3 := by
  rcases off_cases h with rfl | rfl | rfl | rfl | rfl | rfl | rfl
  all_goals first | exact absurd rfl h0 | decide +kernel
theorem off_none : offTx 0 = ⟨#[]⟩ := by decide +kernel
end Go.Proofs.YtioiaefjkmgmdaaGreatDoor.ctr

namespace Go.Proofs.YtioiaefjkmgmdaaGreatDoor.ctr
open Go.RowKit

theorem run_tail (t : ByteArray) (h : 3 ≤ t.size) (w : World) : (Instr.slice 9 (.string t) (some (.int .i64 ((t.size : Int) - 3))) none none).run Tryz.prog w = .ok (.string (t.extract (t.size - 3) t.size)) w :=
  (run_slice_string_l (P := Tryz.prog) (w := w) (t := 9) (s := t) (ht := Tryz.underlying9) .i64 ((t.size : Int) - 3) (by omega) (by omega)).trans (by rw [show ((t.size : Int) - 3).toNat = t.size - 3 from by omega])
set_option maxRecDepth 100000 in
set_option maxHeartbeats 8000000 in
theorem specShow (v : Value) (r : Rgm) (w : World) (h : GRow w v r) (hf : -9223372036854775808 ≤ r.fr) (ht : r.to ≤ 9223372036854775807) : Calls Tryz.prog 21 #[v] w fun e w' => e = .returned (.string (showTx r)) ∧ Below w.heap.size w w' := by
  have KR : Hid (∀ W, Below w.heap.size w W → Calls Tryz.prog 29 #[v] W fun e w' => e = .returned (.bool (regimeB r)) ∧ Below W.heap.size W w') := fun W hb => specRegimeOk v r W (h.below hb) hf ht
  have HO : Hid (regimeB r = true → ShwOk r) := fun h => shwOk h
  obtain ⟨R, hR⟩ : ∃ R, R = showTx r := ⟨_, rfl⟩
  rw [← hR]
  have HR := hideP hR
  clear hf ht hR
  unfold showTx at HR
  generalize regimeB r = ok at *
  obtain ⟨v1, v2, v3, rfl, hnm, x1, x2, x3⟩ := h
  obtain ⟨W0, hW0, d0, d1, d2, d3, d4, d5, d6, hBl⟩ := seven_box w (.string r.name) (.int .i64 r.fr) (.int .i64 r.to) v1 v2 v3 (.int .i64 r.rule) 29
  have X1 := hideP (x1.below (hBl ⟨W0, Below.refl _ _⟩))
  have X2 := hideP (x2.below (hBl ⟨W0, Below.refl _ _⟩))
  have X3 := hideP (x3.below (hBl ⟨W0, Below.refl _ _⟩))
  obtain ⟨a1, c1, rfl, _⟩ := x1
  obtain ⟨a2, c2, rfl, _⟩ := x2
  obtain ⟨a3, c3, rfl, _⟩ := x3
  have HW0 := hideP hW0
  have HBl := hideP hBl
  clear hW0 hBl
  cases ok
  · have HE : Hid (R = ⟨#[]⟩) := HR.out
    clear HR HO
    go_enter Tryz.func21, Tryz.ntmps21
    go_wp2_with fail
    rw [← HW0.out]
    refine (KR.out _ (HBl.out ⟨W0, Below.refl _ _⟩)).mono ?_
    rintro e w1 ⟨rfl, hb⟩
    obtain ⟨y1, rfl⟩ := Later.of hb
    clear hb
    go_wp2
    go_ret
    exact ⟨ret_str HE.out.symm, HBl.out y1⟩
  have OK := hideP (HO.out rfl)
  have HR2 : Hid (R = if r.rule = 1 then bodyTx r ++ lineTx wRule wSty else bodyTx r) := HR.out
  clear HO HR
  have JA : ∀ y : Later W0, Calls Tryz.prog 79 #[.int .i64 r.fr] y.w fun e w' => e = .returned (.string (dayTx r.fr)) ∧ Below y.w.heap.size y.w w' := fun y => specDayTx _ _
  have JB : ∀ y : Later W0, Calls Tryz.prog 79 #[.int .i64 r.to] y.w fun e w' => e = .returned (.string (dayTx r.to)) ∧ Below y.w.heap.size y.w w' := fun y => specDayTx _ _
  have zn := OK.out.name
  have za := dayTx_small r.fr
  have zb := dayTx_small r.to
  have E0 : Hid ((⟨#[114, 101, 103, 105, 109, 101, 32]⟩ : ByteArray) ++ r.name ++ ⟨#[10, 114, 97, 110, 103, 101, 32]⟩ ++ dayTx r.fr ++ ⟨#[32]⟩ ++ dayTx r.to ++ ⟨#[10]⟩ = headTx r) := head_eq _ _ _
  generalize dayTx r.fr = ta at *
  generalize dayTx r.to = tb at *
  have s1 : ((⟨#[114, 101, 103, 105, 109, 101, 32]⟩ : ByteArray) ++ r.name).size ≤ 23 := by rw [ByteArray.size_append]; show 7 + r.name.size ≤ 23; omega
  have s2 : ((⟨#[114, 101, 103, 105, 109, 101, 32]⟩ : ByteArray) ++ r.name ++ (⟨#[10, 114, 97, 110, 103, 101, 32]⟩ : ByteArray)).size ≤ 30 := by rw [ByteArray.size_append]; show _ + 7 ≤ 30; omega
  have s3 : ((⟨#[114, 101, 103, 105, 109, 101, 32]⟩ : ByteArray) ++ r.name ++ (⟨#[10, 114, 97, 110, 103, 101, 32]⟩ : ByteArray) ++ ta).size ≤ 99 := by rw [ByteArray.size_append]; omega
  have s4 : ((⟨#[114, 101, 103, 105, 109, 101, 32]⟩ : ByteArray) ++ r.name ++ (⟨#[10, 114, 97, 110, 103, 101, 32]⟩ : ByteArray) ++ ta ++ (⟨#[32]⟩ : ByteArray)).size ≤ 100 := by rw [ByteArray.size_append]; show _ + 1 ≤ 100; omega
  have s5 : ((⟨#[114, 101, 103, 105, 109, 101, 32]⟩ : ByteArray) ++ r.name ++ (⟨#[10, 114, 97, 110, 103, 101, 32]⟩ : ByteArray) ++ ta ++ (⟨#[32]⟩ : ByteArray) ++ tb).size ≤ 169 := by rw [ByteArray.size_append]; omega
  have s6 : ((⟨#[114, 101, 103, 105, 109, 101, 32]⟩ : ByteArray) ++ r.name ++ (⟨#[10, 114, 97, 110, 103, 101, 32]⟩ : ByteArray) ++ ta ++ (⟨#[32]⟩ : ByteArray) ++ tb ++ (⟨#[10]⟩ : ByteArray)).size ≤ 170 := by rw [ByteArray.size_append]; show _ + 1 ≤ 170; omega
  go_enter Tryz.func21, Tryz.ntmps21
  go_wp2_with fail
  rw [← HW0.out]
  refine (KR.out _ (HBl.out ⟨W0, Below.refl _ _⟩)).mono ?_
  rintro e w1 ⟨rfl, hb⟩
  obtain ⟨y1, rfl⟩ := Later.of hb
  clear hb KR
  go_wp2_with fail
  refine wp_region_later (W := W0) y1.below (by kernel_rfl) (by kernel_rfl) ?_
  repeat (go_big_quiet_step (first | (go_at_call_of 79 r.fr; exact calls_later (JA _)) | (go_at_call_of 79 r.to; exact calls_later (JB _))))
  refine wpQuiet_nil ?_
  intro _ hw'
  obtain ⟨y2, rfl⟩ := hw'
  rw [E0.out]
  have E1 : Hid (headTx r = accS (headTx r) (r.segs.take 0)) := by unfold Hid; rw [List.take_zero]; rfl
  clear JA JB s1 s2 s3 s4 s5 s6 E0 y1 za zb
  go_wp2_with fail
  go_loopw [3, 4] (fun o i wr => ∃ k : Nat, k ≤ r.segs.length ∧ i = .int .i64 (k : Int) ∧ o = .string (accS (headTx r) (r.segs.take k)) ∧ ∃ y : Later W0, wr = y.w) (fun _ i _ => r.segs.length - (intOf i).toNat)
  case atStart => exact ⟨0, Nat.zero_le _, rfl, by rw [← E1.out], y2, rfl⟩
  case round =>
    obtain ⟨k, hk, rfl, rfl, y, rfl⟩ := hrel
    clear E1 y2
    have zo := OK.out.s hk
    have zl := OK.out.segs
    by_cases hlt : k < r.segs.length
    · have HN := hideP (accS_next (o := headTx r) hlt)
      have hsg := OK.out.seg k hlt
      obtain ⟨ad, cc, ev, _, hm, HK⟩ := X1.out
      cases ev
      obtain ⟨g, rfl, hg, x⟩ := HK k hlt
      obtain ⟨b0, b1, b2, b3, b4⟩ := (x.below y.below hg).seg
      obtain ⟨W3, hW3⟩ : ∃ W3, W3 = y.w.alloc (.cells #[.int .i64 (atK segK r.segs k).fr, .int .i64 (atK segK r.segs k).to, .int .i64 (atK segK r.segs k).cal, .int .i64 (atK segK r.segs k).sty, .int .i64 (atK segK r.segs k).off] 56) := ⟨_, rfl⟩
      have m0 : ∀ z : Later W3, z.w.cell? ⟨y.w.heap.size, 0, none⟩ = some (.int .i64 (atK segK r.segs k).fr) := Later.new hW3 0 rfl
      have m1 : ∀ z : Later W3, z.w.cell? ⟨y.w.heap.size, 1, none⟩ = some (.int .i64 (atK segK r.segs k).to) := Later.new hW3 1 rfl
      have m2 : ∀ z : Later W3, z.w.cell? ⟨y.w.heap.size, 2, none⟩ = some (.int .i64 (atK segK r.segs k).cal) := Later.new hW3 2 rfl
      have m3 : ∀ z : Later W3, z.w.cell? ⟨y.w.heap.size, 3, none⟩ = some (.int .i64 (atK segK r.segs k).sty) := Later.new hW3 3 rfl
      have m4 : ∀ z : Later W3, z.w.cell? ⟨y.w.heap.size, 4, none⟩ = some (.int .i64 (atK segK r.segs k).off) := Later.new hW3 4 rfl
      have HB3 : Hid (∀ z : Later W3, Below W0.heap.size W0 z.w) := fun z => y.on (below_of_alloc hW3 z.below)
      have HW3 := hideP hW3
      have JC : ∀ z : Later W3, Calls Tryz.prog 81 #[.int .i64 (atK segK r.segs k).cal] z.w fun e w' => e = .returned (.string (calText (atK segK r.segs k).cal)) ∧ w' = z.w := fun z => specCalName _ _
      have JS : ∀ z : Later W3, Calls Tryz.prog 82 #[.int .i64 (atK segK r.segs k).sty] z.w fun e w' => e = .returned (.string (styText (atK segK r.segs k).sty)) ∧ Below z.w.heap.size z.w w' := fun z => specStyleName _ _
      have JA : ∀ z : Later W3, Calls Tryz.prog 79 #[.int .i64 (atK segK r.segs k).fr] z.w fun e w' => e = .returned (.string (dayTx (atK segK r.segs k).fr)) ∧ Below z.w.heap.size z.w w' := fun z => specDayTx _ _
      have JB : ∀ z : Later W3, Calls Tryz.prog 79 #[.int .i64 (atK segK r.segs k).to] z.w fun e w' => e = .returned (.string (dayTx (atK segK r.segs k).to)) ∧ Below z.w.heap.size z.w w' := fun z => specDayTx _ _
      have KT : Hid (∀ W, Calls Tryz.prog 80 #[.agg #[.int .i64 (atK segK r.segs k).fr, .int .i64 (atK segK r.segs k).to, .int .i64 (atK segK r.segs k).cal, .int .i64 (atK segK r.segs k).sty, .int .i64 (atK segK r.segs k).off]] W fun e w' => e = .returned (.string (segTx (atK segK r.segs k))) ∧ Below W.heap.size W w') := fun W => specSegText _ W
      have HT : Hid ((atK segK r.segs k).off ≠ 0 → 3 ≤ (segTx (atK segK r.segs k)).size ∧ (segTx (atK segK r.segs k)).size ≤ 40 ∧ (segTx (atK segK r.segs k)).extract ((segTx (atK segK r.segs k)).size - 3) (segTx (atK segK r.segs k)).size = offTx (atK segK r.segs k).off) := fun h0 => by
        have e3 := off_three (segOk_off hsg) h0
        have z1 := calT_small (atK segK r.segs k).cal
        have z2 := sty_small (atK segK r.segs k).sty
        unfold segTx
        rw [if_pos hsg]
        refine ⟨?_, ?_, ext_tail _ _ e3⟩
        · rw [ByteArray.size_append]; omega
        · simp only [ByteArray.size_append]
          show _ + 1 + _ + _ ≤ 40
          omega
      have HZ : Hid ((atK segK r.segs k).off = 0 → offTx (atK segK r.segs k).off = ⟨#[]⟩) := fun h0 => by rw [h0]; exact off_none
      have zc := calT_small (atK segK r.segs k).cal
      have zs := sty_small (atK segK r.segs k).sty
      have za := dayTx_small (atK segK r.segs k).fr
      have zb := dayTx_small (atK segK r.segs k).to
      have zf := offTx_small (segOk_off hsg)
      have hkl : (k : Int) < (r.segs.length : Int) := by omega
      unfold maxLen at hm
      unfold useTx daysTx at HN
      rw [← use_eq] at HN
      clear x HK hsg hW3
      generalize accS (headTx r) (r.segs.take k) = o at *
      generalize segTx (atK segK r.segs k) = tt at *
      generalize calText (atK segK r.segs k).cal = tc at *
      generalize styText (atK segK r.segs k).sty = ts at *
      generalize dayTx (atK segK r.segs k).fr = ta at *
      generalize dayTx (atK segK r.segs k).to = tb at *
      generalize offTx (atK segK r.segs k).off = tf at *
      generalize atK segK r.segs k = s at *
      have s1 : (o ++ (⟨#[117, 115, 101, 32]⟩ : ByteArray)).size ≤ 12004 := by rw [ByteArray.size_append]; show _ + 4 ≤ 12004; omega
      have s2 : (o ++ (⟨#[117, 115, 101, 32]⟩ : ByteArray) ++ tc).size ≤ 12007 := by rw [ByteArray.size_append]; omega
      have s3 : (o ++ (⟨#[117, 115, 101, 32]⟩ : ByteArray) ++ tc ++ (⟨#[32]⟩ : ByteArray)).size ≤ 12008 := by rw [ByteArray.size_append]; show _ + 1 ≤ 12008; omega
      have s4 : (o ++ (⟨#[117, 115, 101, 32]⟩ : ByteArray) ++ tc ++ (⟨#[32]⟩ : ByteArray) ++ ts).size ≤ 12014 := by rw [ByteArray.size_append]; omega
      have s5 : (o ++ (⟨#[117, 115, 101, 32]⟩ : ByteArray) ++ tc ++ (⟨#[32]⟩ : ByteArray) ++ ts ++ (⟨#[32]⟩ : ByteArray)).size ≤ 12015 := by rw [ByteArray.size_append]; show _ + 1 ≤ 12015; omega
      have s6 : (o ++ (⟨#[117, 115, 101, 32]⟩ : ByteArray) ++ tc ++ (⟨#[32]⟩ : ByteArray) ++ ts ++ (⟨#[32]⟩ : ByteArray) ++ ta).size ≤ 12084 := by rw [ByteArray.size_append]; omega
      have s7 : (o ++ (⟨#[117, 115, 101, 32]⟩ : ByteArray) ++ tc ++ (⟨#[32]⟩ : ByteArray) ++ ts ++ (⟨#[32]⟩ : ByteArray) ++ ta ++ (⟨#[32]⟩ : ByteArray)).size ≤ 12085 := by rw [ByteArray.size_append]; show _ + 1 ≤ 12085; omega
      have s8 : (o ++ (⟨#[117, 115, 101, 32]⟩ : ByteArray) ++ tc ++ (⟨#[32]⟩ : ByteArray) ++ ts ++ (⟨#[32]⟩ : ByteArray) ++ ta ++ (⟨#[32]⟩ : ByteArray) ++ tb).size ≤ 12154 := by rw [ByteArray.size_append]; omega
      have s9 : (o ++ (⟨#[117, 115, 101, 32]⟩ : ByteArray) ++ tc ++ (⟨#[32]⟩ : ByteArray) ++ ts ++ (⟨#[32]⟩ : ByteArray) ++ ta ++ (⟨#[32]⟩ : ByteArray) ++ tb ++ tf).size ≤ 12158 := by rw [ByteArray.size_append]; omega
      have s10 : (o ++ (⟨#[117, 115, 101, 32]⟩ : ByteArray) ++ tc ++ (⟨#[32]⟩ : ByteArray) ++ ts ++ (⟨#[32]⟩ : ByteArray) ++ ta ++ (⟨#[32]⟩ : ByteArray) ++ tb ++ tf ++ (⟨#[10]⟩ : ByteArray)).size ≤ 12159 := by rw [ByteArray.size_append]; show _ + 1 ≤ 12159; omega
      by_cases h0 : s.off = 0
      · obtain rfl : tf = ⟨#[]⟩ := HZ.out h0
        have hb0 : (s.off != 0) = false := by simp [h0]
        clear HT HZ KT h0
        go_wp2_with fail
        rw [← HW3.out]
        refine wp_region_later (W := W3) (Below.refl _ _) (by kernel_rfl) (by kernel_rfl) ?_
        repeat (go_big_quiet_step (first | (go_at_call 81; exact calls_same (JC _)) | (go_at_call 82; exact calls_later (JS _)) | (go_at_call_of 79 s.fr; exact calls_later (JA _)) | (go_at_call_of 79 s.to; exact calls_later (JB _))))
        refine wpQuiet_nil ?_
        intro _ hw'
        obtain ⟨z, rfl⟩ := hw'
        clear b0 b1 b2 b3 b4
        go_wp2_with fail
        exact ⟨⟨k + 1, by omega, by go_num, by rw [HN.out], ⟨z.w, HB3.out z⟩, rfl⟩, by simp [intOf]; omega⟩
      · obtain ⟨t1, t2, t3⟩ := HT.out h0
        have hrt := run_tail tt t1
        rw [t3] at hrt
        clear HT HZ t3
        go_wp2_with fail
        rw [← HW3.out]
        refine (KT.out _).mono ?_
        rintro e w2 ⟨rfl, hb⟩
        obtain ⟨z1, rfl⟩ := Later.of hb
        clear hb b0 b1 b2 b3 b4
        go_wp2_with fail
        refine wp_region_later (W := W3) z1.below (by kernel_rfl) (by kernel_rfl) ?_
        repeat (go_big_quiet_step (first | (go_at_call 81; exact calls_same (JC _)) | (go_at_call 82; exact calls_later (JS _)) | (go_at_call_of 79 s.fr; exact calls_later (JA _)) | (go_at_call_of 79 s.to; exact calls_later (JB _))))
        refine wpQuiet_nil ?_
        intro _ hw'
        obtain ⟨z, rfl⟩ := hw'
        go_wp2_with fail
        exact ⟨⟨k + 1, by omega, by go_num, by rw [HN.out], ⟨z.w, HB3.out z⟩, rfl⟩, by simp [intOf]; omega⟩
    · obtain rfl : k = r.segs.length := by omega
      have hkl : ¬ (r.segs.length : Int) < (r.segs.length : Int) := by omega
      rw [List.take_length] at zo ⊢
      have E2 : Hid (accS (headTx r) r.segs = accP (accS (headTx r) r.segs) (r.pats.take 0)) := by unfold Hid; rw [List.take_zero]; rfl
      go_wp2_with fail
      go_loopw [3, 8] (fun o i wr => ∃ k : Nat, k ≤ r.pats.length ∧ i = .int .i64 (k : Int) ∧ o = .string (accP (accS (headTx r) r.segs) (r.pats.take k)) ∧ ∃ y : Later W0, wr = y.w) (fun _ i _ => r.pats.length - (intOf i).toNat)
      case atStart => exact ⟨0, Nat.zero_le _, rfl, by rw [← E2.out], y, rfl⟩
      case round =>
        obtain ⟨k, hk, rfl, rfl, y, rfl⟩ := hrel
        clear E2
        have zo := OK.out.p hk
        have zl := OK.out.pats
        by_cases hlt : k < r.pats.length
        · have HN := hideP (accP_next (o := accS (headTx r) r.segs) hlt)
          have hdm := pat_dom (OK.out.pat k hlt)
          obtain ⟨ad, cc, ev, _, hm, HK⟩ := X2.out
          cases ev
          obtain ⟨g, rfl, hg, x⟩ := HK k hlt
          have b0 : ∀ z : Later W0, z.w.cell? ⟨g, k * 3, none⟩ = some (.int .i64 (atK patK r.pats k).day) := fun z => ((x.below z.below hg).pat).1
          have b1 : ∀ z : Later W0, z.w.cell? ⟨g, k * 3 + 1, none⟩ = some (.int .i64 (atK patK r.pats k).mon) := fun z => ((x.below z.below hg).pat).2.1
          have b2 : ∀ z : Later W0, z.w.cell? ⟨g, k * 3 + 2, none⟩ = some (.int .i64 (atK patK r.pats k).dom) := fun z => ((x.below z.below hg).pat).2.2
          have JA : ∀ z : Later W0, Calls Tryz.prog 79 #[.int .i64 (atK patK r.pats k).day] z.w fun e w' => e = .returned (.string (dayTx (atK patK r.pats k).day)) ∧ Below z.w.heap.size z.w w' := fun z => specDayTx _ _
          have JM : ∀ z : Later W0, Calls Tryz.prog 83 #[.int .i64 (atK patK r.pats k).mon] z.w fun e w' => e = .returned (.string (monthText (atK patK r.pats k).mon)) ∧ Below z.w.heap.size z.w w' := fun z => specMonthName _ _
          have JN : ∀ z : Later W0, Calls Tryz.prog 84 #[.int .i64 (atK patK r.pats k).dom] z.w fun e w' => e = .returned (.string (decN (atK patK r.pats k).dom)) ∧ w' = z.w := fun z => specDecText _ _ (by omega) (by omega)
          have za := dayTx_small (atK patK r.pats k).day
          have zm := mon_small (atK patK r.pats k).mon
          have zd := decN_small (n := (atK patK r.pats k).dom) (by omega) (by omega)
          have hkl : (k : Int) < (r.pats.length : Int) := by omega
          unfold maxLen at hm
          unfold patTx at HN
          rw [← pat_eq] at HN
          clear x HK hdm
          generalize accP (accS (headTx r) r.segs) (r.pats.take k) = o at *
          generalize dayTx (atK patK r.pats k).day = ta at *
          generalize monthText (atK patK r.pats k).mon = tm at *
          generalize decN (atK patK r.pats k).dom = td at *
          generalize atK patK r.pats k = s at *
          have s1 : (o ++ (⟨#[112, 97, 116, 99, 104, 32]⟩ : ByteArray)).size ≤ 12006 := by rw [ByteArray.size_append]; show _ + 6 ≤ 12006; omega
          have s2 : (o ++ (⟨#[112, 97, 116, 99, 104, 32]⟩ : ByteArray) ++ ta).size ≤ 12075 := by rw [ByteArray.size_append]; omega
          have s3 : (o ++ (⟨#[112, 97, 116, 99, 104, 32]⟩ : ByteArray) ++ ta ++ (⟨#[32]⟩ : ByteArray)).size ≤ 12076 := by rw [ByteArray.size_append]; show _ + 1 ≤ 12076; omega
          have s4 : (o ++ (⟨#[112, 97, 116, 99, 104, 32]⟩ : ByteArray) ++ ta ++ (⟨#[32]⟩ : ByteArray) ++ tm).size ≤ 12079 := by rw [ByteArray.size_append]; omega
          have s5 : (o ++ (⟨#[112, 97, 116, 99, 104, 32]⟩ : ByteArray) ++ ta ++ (⟨#[32]⟩ : ByteArray) ++ tm ++ (⟨#[32]⟩ : ByteArray)).size ≤ 12080 := by rw [ByteArray.size_append]; show _ + 1 ≤ 12080; omega
          have s6 : (o ++ (⟨#[112, 97, 116, 99, 104, 32]⟩ : ByteArray) ++ ta ++ (⟨#[32]⟩ : ByteArray) ++ tm ++ (⟨#[32]⟩ : ByteArray) ++ td).size ≤ 12101 := by rw [ByteArray.size_append]; omega
          have s7 : (o ++ (⟨#[112, 97, 116, 99, 104, 32]⟩ : ByteArray) ++ ta ++ (⟨#[32]⟩ : ByteArray) ++ tm ++ (⟨#[32]⟩ : ByteArray) ++ td ++ (⟨#[10]⟩ : ByteArray)).size ≤ 12102 := by rw [ByteArray.size_append]; show _ + 1 ≤ 12102; omega
          go_wp2_with fail
          refine wp_region_later (W := W0) y.below (by kernel_rfl) (by kernel_rfl) ?_
          repeat (go_big_quiet_step (first | (go_at_call 79; exact calls_later (JA _)) | (go_at_call 83; exact calls_later (JM _)) | (go_at_call 84; exact calls_same (JN _))))
          refine wpQuiet_nil ?_
          intro _ hw'
          obtain ⟨z, rfl⟩ := hw'
          go_wp2_with fail
          exact ⟨⟨k + 1, by omega, by go_num, by rw [HN.out], z, rfl⟩, by simp [intOf]; omega⟩
        · obtain rfl : k = r.pats.length := by omega
          have hkl : ¬ (r.pats.length : Int) < (r.pats.length : Int) := by omega
          rw [List.take_length] at zo ⊢
          have E3 : Hid (accP (accS (headTx r) r.segs) r.pats = accR (accP (accS (headTx r) r.segs) r.pats) (r.rgns.take 0)) := by unfold Hid; rw [List.take_zero]; rfl
          go_wp2_with fail
          go_loopw [3, 9] (fun o i wr => ∃ k : Nat, k ≤ r.rgns.length ∧ i = .int .i64 (k : Int) ∧ o = .string (accR (accP (accS (headTx r) r.segs) r.pats) (r.rgns.take k)) ∧ ∃ y : Later W0, wr = y.w) (fun _ i _ => r.rgns.length - (intOf i).toNat)
          case atStart => exact ⟨0, Nat.zero_le _, rfl, by rw [← E3.out], y, rfl⟩
          case round =>
            obtain ⟨k, hk, rfl, rfl, y, rfl⟩ := hrel
            clear E3
            have zo := OK.out.r hk
            have zl := OK.out.rgns
            by_cases hlt : k < r.rgns.length
            · have HN := hideP (accR_next (o := accP (accS (headTx r) r.segs) r.pats) hlt)
              have zn := rgn_name (OK.out.rgn k hlt)
              obtain ⟨ad, cc, ev, _, hm, _, HK⟩ := X3.out
              cases ev
              obtain ⟨g, rfl, hg, x⟩ := HK k hlt
              have b0 : ∀ z : Later W0, z.w.cell? ⟨g, k * 3, none⟩ = some (.string (rgA r.rgns k).name) := fun z => (x.below z.below hg).1
              have b1 : ∀ z : Later W0, z.w.cell? ⟨g, k * 3 + 1, none⟩ = some (.int .i64 (rgA r.rgns k).fr) := fun z => (x.below z.below hg).2.1
              have b2 : ∀ z : Later W0, z.w.cell? ⟨g, k * 3 + 2, none⟩ = some (.int .i64 (rgA r.rgns k).to) := fun z => (x.below z.below hg).2.2
              have JA : ∀ z : Later W0, Calls Tryz.prog 79 #[.int .i64 (rgA r.rgns k).fr] z.w fun e w' => e = .returned (.string (dayTx (rgA r.rgns k).fr)) ∧ Below z.w.heap.size z.w w' := fun z => specDayTx _ _
              have JB : ∀ z : Later W0, Calls Tryz.prog 79 #[.int .i64 (rgA r.rgns k).to] z.w fun e w' => e = .returned (.string (dayTx (rgA r.rgns k).to)) ∧ Below z.w.heap.size z.w w' := fun z => specDayTx _ _
              have za := dayTx_small (rgA r.rgns k).fr
              have zb := dayTx_small (rgA r.rgns k).to
              have hkl : (k : Int) < (r.rgns.length : Int) := by omega
              unfold maxLen at hm
              unfold rgnTx daysTx at HN
              rw [← rgn_eq] at HN
              clear x HK
              generalize accR (accP (accS (headTx r) r.segs) r.pats) (r.rgns.take k) = o at *
              generalize dayTx (rgA r.rgns k).fr = ta at *
              generalize dayTx (rgA r.rgns k).to = tb at *
              generalize rgA r.rgns k = s at *
              have s1 : (o ++ (⟨#[114, 101, 105, 103, 110, 32]⟩ : ByteArray)).size ≤ 12006 := by rw [ByteArray.size_append]; show _ + 6 ≤ 12006; omega
              have s2 : (o ++ (⟨#[114, 101, 105, 103, 110, 32]⟩ : ByteArray) ++ s.name).size ≤ 12022 := by rw [ByteArray.size_append]; omega
              have s3 : (o ++ (⟨#[114, 101, 105, 103, 110, 32]⟩ : ByteArray) ++ s.name ++ (⟨#[32]⟩ : ByteArray)).size ≤ 12023 := by rw [ByteArray.size_append]; show _ + 1 ≤ 12023; omega
              have s4 : (o ++ (⟨#[114, 101, 105, 103, 110, 32]⟩ : ByteArray) ++ s.name ++ (⟨#[32]⟩ : ByteArray) ++ ta).size ≤ 12092 := by rw [ByteArray.size_append]; omega
              have s5 : (o ++ (⟨#[114, 101, 105, 103, 110, 32]⟩ : ByteArray) ++ s.name ++ (⟨#[32]⟩ : ByteArray) ++ ta ++ (⟨#[32]⟩ : ByteArray)).size ≤ 12093 := by rw [ByteArray.size_append]; show _ + 1 ≤ 12093; omega
              have s6 : (o ++ (⟨#[114, 101, 105, 103, 110, 32]⟩ : ByteArray) ++ s.name ++ (⟨#[32]⟩ : ByteArray) ++ ta ++ (⟨#[32]⟩ : ByteArray) ++ tb).size ≤ 12162 := by rw [ByteArray.size_append]; omega
              have s7 : (o ++ (⟨#[114, 101, 105, 103, 110, 32]⟩ : ByteArray) ++ s.name ++ (⟨#[32]⟩ : ByteArray) ++ ta ++ (⟨#[32]⟩ : ByteArray) ++ tb ++ (⟨#[10]⟩ : ByteArray)).size ≤ 12163 := by rw [ByteArray.size_append]; show _ + 1 ≤ 12163; omega
              go_wp2_with fail
              refine wp_region_later (W := W0) y.below (by kernel_rfl) (by kernel_rfl) ?_
              repeat (go_big_quiet_step (first | (go_at_call_of 79 s.fr; exact calls_later (JA _)) | (go_at_call_of 79 s.to; exact calls_later (JB _))))
              refine wpQuiet_nil ?_
              intro _ hw'
              obtain ⟨z, rfl⟩ := hw'
              go_wp2_with fail
              exact ⟨⟨k + 1, by omega, by go_num, by rw [HN.out], z, rfl⟩, by simp [intOf]; omega⟩
            · obtain rfl : k = r.rgns.length := by omega
              have hkl : ¬ (r.rgns.length : Int) < (r.rgns.length : Int) := by omega
              rw [List.take_length] at zo ⊢
              have E4 : Hid (accR (accP (accS (headTx r) r.segs) r.pats) r.rgns = bodyTx r) := rfl
              generalize accR (accP (accS (headTx r) r.segs) r.pats) r.rgns = o at *
              have zz : (o ++ (⟨#[114, 117, 108, 101, 32, 115, 116, 121, 108, 101, 10]⟩ : ByteArray)).size ≤ 20000 := by rw [ByteArray.size_append]; show _ + 11 ≤ 20000; omega
              by_cases hr : r.rule = 1
              · have HE : Hid (R = o ++ ⟨#[114, 117, 108, 101, 32, 115, 116, 121, 108, 101, 10]⟩) := by unfold Hid; rw [HR2.out, if_pos hr, E4.out, rule_eq]
                clear HR2
                go_wp2
                go_ret
                exact ⟨ret_str HE.out.symm, HBl.out y⟩
              · have HE : Hid (R = o) := by unfold Hid; rw [HR2.out, if_neg hr, E4.out]
                clear HR2
                go_wp2
                go_ret
                exact ⟨ret_str HE.out.symm, HBl.out y⟩
end Go.Proofs.YtioiaefjkmgmdaaGreatDoor.ctr

namespace Go.Proofs.YtioiaefjkmgmdaaGreatDoor.kit
theorem gs_len {H : Type} {enc : TypeId × Value → H} {P : Program} {W : World} {sp : Nat → Bool} : ∀ {ns : List String} {gs : List (DataW H)} {q : List MemPlace}, DataW.TrodVars enc P W sp ns gs q → gs.length = ns.length
  | [], [], _, _ => rfl
  | [], _ :: _, _, h => h.elim
  | _ :: _, [], _, h => h.elim
  | _ :: ns, _ :: gs, _, h => by
    obtain ⟨_, _, _, _, _, _, _, _, _, _, h5, _⟩ := h
    simp [gs_len h5]
theorem gs_four {H : Type} {enc : TypeId × Value → H} {P : Program} {W : World} {sp : Nat → Bool} {a b c d : String} {gs : List (DataW H)} {q : List MemPlace} (h : DataW.TrodVars enc P W sp [a, b, c, d] gs q) : ∃ g1 g2 g3 g4, gs = [g1, g2, g3, g4] := by
  have hl := gs_len h
  match gs, hl with
  | [g1, g2, g3, g4], _ => exact ⟨g1, g2, g3, g4, rfl⟩
end Go.Proofs.YtioiaefjkmgmdaaGreatDoor.kit

namespace Go.Proofs.YtioiaefjkmgmdaaGreatDoor.kit
open Go.RowKit Go.WideShapes Go.Deep Go.ChangeShapes

theorem wf_bounds {z : Int} (h : (Lit.int .i64 z).wf = true) : -9223372036854775808 ≤ z ∧ z ≤ 9223372036854775807 := by
  have h' : (decide (IntKind.i64.min ≤ z) && decide (z ≤ IntKind.i64.max)) = true := h
  rw [show IntKind.i64.min = -9223372036854775808 from rfl, show IntKind.i64.max = 9223372036854775807 from rfl] at h'
  simpa using h'
theorem open_irowW {H : Type} {enc : TypeId × Value → H} {P : Program} {w : World} {base : Nat} {spare : Nat → Bool} {held : Bool} {t e : TypeId} {fs : Array Field} {a : Option Addr} {len cap : Nat} {x : DataW H} {p : List MemPlace} {α : Type} (K : ctr.IK α)
    (ht : P.underlying t = some (.slice e)) (he : P.underlying e = some (.struct fs)) (ce : P.cellsOf e = K.m) (hsz : fs.size = K.m)
    (hf0 : ∀ (j : Nat) (f : Field), fs[j]? = some f → f.offset = j ∧ P.cellsOf f.type = 1 ∧ P.underlying f.type = some (.int .i64))
    (h : DataW.Trod enc P w base spare held t (.slice a len cap) x p) : ∃ l : List α, ctr.IIn K w a len cap l ∧ ∀ k, k < len → ∀ z ∈ K.iv (ctr.atK K l k), (Lit.int .i64 z).wf = true := by
  obtain ⟨fuel, h⟩ := h
  simp only [Value.cells] at h
  rcases open_slice ht h with ⟨h0, _⟩ | ⟨a', len', cap', m, n, D, Pl, e', hb, hl, hm, hmm, hxp, hx⟩
  · simp at h0
    obtain ⟨rfl, rfl, rfl⟩ := h0
    exact ⟨[], ⟨rfl, Nat.le_refl _, by unfold maxLen; omega, .inl ⟨rfl, rfl⟩⟩, fun k hk => by omega⟩
  · simp at e'
    obtain ⟨rfl, rfl, rfl⟩ := e'
    have hlm : len ≤ m := by rw [hmm]; split <;> omega
    have each : ∀ i, i < len → ∃ r : α, (∀ (j : Nat) (z : Int), (K.iv r)[j]? = some z → w.cell? (a'.add (i * K.m + j)) = some (.int .i64 z)) ∧ ∀ z ∈ K.iv r, (Lit.int .i64 z).wf = true := by
      intro i hi
      obtain ⟨cs', h1, h2⟩ := hx i (by omega)
      rw [ce] at h1
      obtain ⟨_, hlen, hcell⟩ := World.cells?_some h1
      obtain ⟨xs, k, hk, hxy, _, hxl, hf⟩ := DataW.trod_struct he h2
      have cell : ∀ j, j < K.m → ∃ z : Int, cs'[j]? = some (.int .i64 z) ∧ (Lit.int .i64 z).wf = true := by
        intro j hj
        obtain ⟨f, hfe⟩ : ∃ f, fs[j]? = some f := ⟨fs[j]'(by omega), by simp [hsz, hj]⟩
        obtain ⟨o, c, u⟩ := hf0 j f hfe
        have g := hf j f (by simpa using hfe)
        rw [o, c] at g
        have hjl : j < cs'.length := by omega
        have e1 : (cs'.drop j).take 1 = [cs'[j]] := by rw [List.drop_eq_getElem_cons hjl]; rfl
        have hxj : j < xs.length := by have := hxl; omega
        rw [e1, List.getElem?_eq_getElem hxj] at g
        obtain ⟨z, q, _, hz⟩ := DataW.trod_int u g
        exact ⟨z, by rw [List.getElem?_eq_getElem hjl]; simpa using q, hz⟩
      obtain ⟨Z, hZ⟩ : ∃ Z : Nat → Int, ∀ j, j < K.m → cs'[j]? = some (.int .i64 (Z j)) ∧ (Lit.int .i64 (Z j)).wf = true := by
        classical
        refine ⟨fun j => if h : j < K.m then (cell j h).choose else 0, fun j hj => ?_⟩
        simp only [dif_pos hj]
        exact (cell j hj).choose_spec
      refine ⟨K.ofI ((List.range K.m).map Z), fun j z e => ?_, fun z hz => by
        rw [K.back _ (by simp)] at hz
        obtain ⟨j, hj, rfl⟩ := List.mem_map.1 hz
        exact (hZ j (by simpa using hj)).2⟩
      rw [K.back _ (by simp)] at e
      have hj : j < K.m := by have := (List.getElem?_eq_some_iff.1 e).1; simpa using this
      have ez : z = Z j := by simpa [hj] using e.symm
      have e0 := hcell j (by omega)
      rw [add_add] at e0
      rw [e0, ez]
      exact (hZ j hj).1
    obtain ⟨R, hR⟩ : ∃ R : Nat → α, ∀ i, i < len → (∀ (j : Nat) (z : Int), (K.iv (R i))[j]? = some z → w.cell? (a'.add (i * K.m + j)) = some (.int .i64 z)) ∧ ∀ z ∈ K.iv (R i), (Lit.int .i64 z).wf = true := by
      classical
      refine ⟨fun i => if h : i < len then (each i h).choose else K.d, fun i hi => ?_⟩
      simp only [dif_pos hi]
      exact (each i hi).choose_spec
    have hat : ∀ k, k < len → ctr.atK K ((List.range len).map R) k = R k := fun k hk => by simp [ctr.atK, List.getD, hk]
    exact ⟨(List.range len).map R, ⟨by simp, hl, hm, .inr ⟨a', rfl, fun k hk => by rw [hat k hk]; exact (hR k hk).1⟩⟩, fun k hk => by rw [hat k hk]; exact (hR k hk).2⟩
end Go.Proofs.YtioiaefjkmgmdaaGreatDoor.kit
