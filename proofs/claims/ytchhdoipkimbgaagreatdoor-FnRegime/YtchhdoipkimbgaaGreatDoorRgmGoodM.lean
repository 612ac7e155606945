/- Contract of the model's draw of a right regime (l09Good). -/
import Derived.Test.YtchhdoipkimbgaaGreatDoorRgmDrawM
import Derived.Test.YtchhdoipkimbgaaGreatDoorRgnDraw2M
import Derived.Deep.AppendLies
import Derived.Deep.RegionLaw
import Derived.Deep.DeepCutAuto
namespace Go.Proofs.YtchhdoipkimbgaaGreatDoor.ctr
open Go.RowKit

/-- Ahead of the regime's own block. -/
structure GdPre (w : World) (n0 : Nat) (a : Option Addr) (len cap B : Nat) (W : World) : Prop where
  cur : Cur n0 W a len cap B
  grown : w.grownBy W (some B)
  hB : B < w.heap.size
  zer : Blk W w.heap.size gmZero 29
theorem GdPre.step {w W W' : World} {n0 : Nat} {a : Option Addr} {len cap B : Nat} (h : Hid (GdPre w n0 a len cap B W)) (hG : W.grownBy W' (some B)) (hC : Cur n0 W' a len cap B) : Hid (GdPre w n0 a len cap B W') := by
  have hB := h.out.hB
  exact ⟨hC, grown_trans h.out.grown hG, hB, h.out.zer.grown hG (by omega)⟩
theorem GdPre.al {w W : World} {n0 : Nat} {a : Option Addr} {len cap B : Nat} (h : Hid (GdPre w n0 a len cap B W)) (o : Obj) : Hid (GdPre w n0 a len cap B (W.alloc o)) :=
  ⟨h.out.cur.alloc o, grown_alloc h.out.grown o, h.out.hB, h.out.zer.alloc o⟩
theorem GdPre.below {w W W' : World} {n0 : Nat} {a : Option Addr} {len cap B : Nat} (h : Hid (GdPre w n0 a len cap B W)) (hb : Below W.heap.size W W') : Hid (GdPre w n0 a len cap B W') :=
  ⟨h.out.cur.below hb, grown_trans h.out.grown (grown_of_below hb), h.out.hB, h.out.zer.below hb h.out.zer.lt⟩
theorem GdPre.box {w W : World} {n0 : Nat} {a : Option Addr} {len cap B : Nat} (h : Hid (GdPre w n0 a len cap B W)) (vs : Array Value) : Hid (GdSt w n0 a len cap B W.heap.size vs (.slice none 0 0) (.slice none 0 0) [] [] (W.alloc (.cells vs 29))) :=
  ⟨h.out.cur.alloc _, grown_alloc h.out.grown _, h.out.hB, h.out.zer.alloc _, Blk.new _ _ _, h.out.zer.lt, World.ownsRow_nil _ _ _ _, World.ownsRow_nil _ _ _ _⟩
def gYears : List Int := [1344, 1500, 1581, 1699, 1711, 1751, 1899, 1200]
theorem gYears_ok0 : ∀ j : Fin 8, 1200 ≤ gYears.getD j.val 0 ∧ gYears.getD j.val 0 ≤ 1899 := by decide
theorem gYears_ok {j : Nat} (h : j < 8) : 1200 ≤ gYears.getD j 0 ∧ gYears.getD j 0 ≤ 1899 := gYears_ok0 ⟨j, h⟩
def gNames : List ByteArray := [⟨#[118, 101, 110, 105, 99, 101]⟩, ⟨#[112, 105, 115, 97]⟩, ⟨#[115, 119, 101, 100, 101, 110]⟩, ⟨#[114, 111, 109, 101]⟩]
theorem gNames_ok0 : ∀ j : Fin 4, nameOk (gNames.getD j.val ⟨#[]⟩) = true ∧ (gNames.getD j.val ⟨#[]⟩).size ≤ 16 := by decide
theorem gNames_ok {j : Nat} (h : j < 4) : nameOk (gNames.getD j ⟨#[]⟩) = true ∧ (gNames.getD j ⟨#[]⟩).size ≤ 16 := gNames_ok0 ⟨j, h⟩
def gOffs : List Int := [0, 0, 0, 1, -1, 3]
theorem gOffs_ok0 : ∀ j : Fin 6, inB (gOffs.getD j.val 0) (-3) 3 = true := by decide
theorem gOffs_ok {j : Nat} (h : j < 6) : inB (gOffs.getD j 0) (-3) 3 = true := gOffs_ok0 ⟨j, h⟩
theorem side_of {z t c s o : Int} (h1 : 0 ≤ c) (h2 : c < 2) (h3 : 0 ≤ s) (h4 : s < 7) (h5 : inB o (-3) 3 = true) : sideB ⟨z, t, c, s, o⟩ = true := by
  have e1 : calB c = true := by
    have : c = 0 ∨ c = 1 := by omega
    rcases this with rfl | rfl <;> rfl
  have e2 : styleB s = true := decide_eq_true ⟨h3, by omega⟩
  unfold sideB
  dsimp only
  rw [e1, e2, h5]
  rfl
theorem side_in {w W : World} {n0 : Nat} {a : Option Addr} {len cap B R : Nat} {vs : Array Value} {sv pv : Value} {L : List Seg} {P : List Pat} {z t c s o : Int} (_ : Hid (GdSt w n0 a len cap B R vs sv pv (L ++ [⟨z, t, c, s, o⟩]) P W)) (h1 : 0 ≤ c) (h2 : c < 2) (h3 : 0 ≤ s) (h4 : s < 7) (h5 : inB o (-3) 3 = true) : sideB ⟨z, t, c, s, o⟩ = true := side_of h1 h2 h3 h4 h5
theorem gd_next {w W : World} {n0 : Nat} {a : Option Addr} {len cap B R : Nat} {vs : Array Value} {sv pv : Value} {L : List Seg} {P : List Pat} {F z t c s o : Int} (T : Hid (GdSt w n0 a len cap B R vs sv pv (L ++ [⟨z, t, c, s, o⟩]) P W)) (hch : chainS L F z) (hsd : ∀ s ∈ L, sideB s = true) (hs : sideB ⟨z, t, c, s, o⟩ = true) (hzt : z ≤ t) : ∃ L' : List Seg, L'.length = L.length + 1 ∧ Hid (chainS L' F (t + 1)) ∧ Hid (∀ s ∈ L', sideB s = true) ∧ GdSt w n0 a len cap B R vs sv pv L' P W :=
  ⟨L ++ [⟨z, t, c, s, o⟩], by rw [List.length_append]; rfl, hideP (chain_snoc hch rfl hzt), hideP fun x hx => (List.mem_append.1 hx).elim (hsd x) (fun h => by rw [List.mem_singleton.1 h]; exact hs), T.out⟩
/-- append of one segment, in a region that draws its order. -/
theorem step_seg {ops : Array Oper} {o : Oper} {a : Act} {K : Act → World → Prop} {Q : Exit → Act → World → Prop} {E : Prop} {w : World} (hgd : o.guard = none) (s x : Operand)
    (ho : o.op = .call { callee := .builtin .append, args := #[s, x], argTypes := #[25, 25] }) (base : Nat) (sv : Value) (L : List Seg) (sg : Seg) (ad : Nat) (t : TypeId) (hs : a.eval s = sv) (hx : a.eval x = .slice (some ⟨ad, 0, none⟩) 1 1) (hown : w.ownsRow base 56 5 sv L.length (icells segK L)) (hnew : Blk w ad (icell segK sg).toArray t) (hl : L.length ≤ 1000) (hb : base ≤ w.heap.size)
    (h : ∀ g cp w', w'.ownsRow base 56 5 (.slice (some ⟨g, 0, none⟩) (L.length + 1) cp) (L.length + 1) (icells segK L ++ icell segK sg) → w.grownBy w' sv.ownBlock → K (a.put o.dst (.slice (some ⟨g, 0, none⟩) (L.length + 1) cp)) w') : if Region.wanted o (yielded ops a.tmps) = true then Oper.wp Tryz.prog o a w K Q else E := by
  obtain ⟨i0, hi, he⟩ := Option.map_eq_some_iff.1 info_seg
  simp only [Prod.mk.injEq] at he
  obtain ⟨hz0, hz1, hz2⟩ := he
  rw [if_pos (by simp [Region.wanted, hgd])]
  refine wp_append_own w s x 25 ho base 56 i0 (.agg #[.int .i64 0, .int .i64 0, .int .i64 0, .int .i64 0, .int .i64 0]) 5 40 Tryz.underlying25 hi hz0 hz1 hz2 rfl (by decide) _ L.length (icells segK L) hs hown ⟨ad, 0, none⟩ 1 1 (icell segK sg) hx rfl (fun j u hu => ?_) (by simp [icell, Value.oneCell']) (by unfold maxLen; omega) (by omega) hb ?_
  · rw [show ((⟨ad, 0, none⟩ : Addr).add j) = ⟨ad, j, none⟩ from by unfold Addr.add; split <;> simp_all]
    exact hnew.cell j (by simpa using hu)
  · intro v' w' h1 h2 _
    obtain ⟨g, cp, rfl, _, _⟩ := h1.form (by omega)
    exact h g cp w' h1 h2
/-- append of one patch. -/
theorem step_pat {ops : Array Oper} {o : Oper} {a : Act} {K : Act → World → Prop} {Q : Exit → Act → World → Prop} {E : Prop} {w : World} (hgd : o.guard = none) (s x : Operand)
    (ho : o.op = .call { callee := .builtin .append, args := #[s, x], argTypes := #[26, 26] }) (base : Nat) (pv : Value) (L : List Pat) (sg : Pat) (ad : Nat) (t : TypeId) (hs : a.eval s = pv) (hx : a.eval x = .slice (some ⟨ad, 0, none⟩) 1 1) (hown : w.ownsRow base 76 3 pv L.length (icells patK L)) (hnew : Blk w ad (icell patK sg).toArray t) (hl : L.length ≤ 1000) (hb : base ≤ w.heap.size)
    (h : ∀ g cp w', w'.ownsRow base 76 3 (.slice (some ⟨g, 0, none⟩) (L.length + 1) cp) (L.length + 1) (icells patK L ++ icell patK sg) → w.grownBy w' pv.ownBlock → K (a.put o.dst (.slice (some ⟨g, 0, none⟩) (L.length + 1) cp)) w') : if Region.wanted o (yielded ops a.tmps) = true then Oper.wp Tryz.prog o a w K Q else E := by
  obtain ⟨i0, hi, he⟩ := Option.map_eq_some_iff.1 info_pat
  simp only [Prod.mk.injEq] at he
  obtain ⟨hz0, hz1, hz2⟩ := he
  rw [if_pos (by simp [Region.wanted, hgd])]
  refine wp_append_own w s x 26 ho base 76 i0 (.agg #[.int .i64 0, .int .i64 0, .int .i64 0]) 3 24 Tryz.underlying26 hi hz0 hz1 hz2 rfl (by decide) _ L.length (icells patK L) hs hown ⟨ad, 0, none⟩ 1 1 (icell patK sg) hx rfl (fun j u hu => ?_) (by simp [icell, Value.oneCell']) (by unfold maxLen; omega) (by omega) hb ?_
  · rw [show ((⟨ad, 0, none⟩ : Addr).add j) = ⟨ad, j, none⟩ from by unfold Addr.add; split <;> simp_all]
    exact hnew.cell j (by simpa using hu)
  · intro v' w' h1 h2 _
    obtain ⟨g, cp, rfl, _, _⟩ := h1.form (by omega)
    exact h g cp w' h1 h2
/-- What is drawn: a right regime. -/
def DGood (W W' : World) (v : Value) (r : Rgm) : Prop := DReg W.heap.size W' v r ∧ DSmall r ∧ regimeB r = true ∧ r.segs.length ≤ 3 ∧ r.pats.length ≤ 1 ∧ 400000 ≤ r.fr ∧ r.fr ≤ r.to ∧ r.to ≤ 704000
theorem okNil : reignsOk [] = true := by simp [reignsOk, okTo]
theorem good_draw {nm : ByteArray} {F z ru : Int} {L : List Seg} {P : List Pat} {rg : List Rgn} (hn : nameOk nm = true) (hs : nm.size ≤ 16) (hF1 : 400000 ≤ F) (hF2 : F ≤ 700000) (hz : z ≤ F + 3000) (hl1 : 1 ≤ L.length) (hl3 : L.length ≤ 3) (hc : chainS L F z) (hsd : ∀ s ∈ L, sideB s = true) (hp : P = [] ∨ ∃ n, P = [⟨n, 2, 30⟩] ∧ F ≤ n ∧ n ≤ z - 1) (hr : reignsOk rg = true) (h0 : 0 ≤ ru) (h1 : ru < 2) :
    DSmall ⟨nm, F, z - 1, L, P, rg, ru⟩ ∧ regimeB ⟨nm, F, z - 1, L, P, rg, ru⟩ = true ∧ L.length ≤ 3 ∧ P.length ≤ 1 ∧ 400000 ≤ F ∧ F ≤ z - 1 ∧ z - 1 ≤ 704000 := by
  have hzF : F ≤ z - 1 := by
    cases L with
    | nil => simp at hl1
    | cons s l => have := (chain_mem hc).2 s List.mem_cons_self; omega
  have hpl : P.length ≤ 1 := by
    rcases hp with rfl | ⟨n, rfl, _⟩ <;> simp
  have hu : ruleB ru = true := by
    have : ru = 0 ∨ ru = 1 := by omega
    rcases this with rfl | rfl <;> rfl
  refine ⟨⟨hs, by dsimp only; omega, hF2, by dsimp only; omega, by dsimp only; omega, hl1, by dsimp only; omega, by dsimp only; omega⟩, ?_, hl3, hpl, hF1, hzF, by omega⟩
  refine good_regime hn (by dsimp only; omega) (by dsimp only; omega) ?_ hl1 (by dsimp only; omega) hsd hp hr hu
  show chainS L F (z - 1 + 1)
  rw [show z - 1 + 1 = z by omega]
  exact hc
set_option maxRecDepth 100000 in
set_option maxHeartbeats 4000000 in
theorem l09Good (n0 : Nat) (W : World) (a : Option Addr) (len cap B : Nat) (most : Int) (hm1 : 900 ≤ most) (hm2 : most ≤ 1000) (hlen : len ≤ maxLen) (hC : Cur n0 W a len cap B) :
    Calls Tryz.prog 114 #[.pointer (some ⟨B, 0, none⟩), .int .i64 most] W fun e W' => ∃ v r, e = .returned v ∧ DGood W W' v r ∧ Cur n0 W' a len cap B ∧ W.grownBy W' (some B) := by
  obtain ⟨i0, hi, he⟩ := Option.map_eq_some_iff.1 info_seg
  simp only [Prod.mk.injEq] at he
  obtain ⟨hz0, hz1, hz2⟩ := he
  obtain ⟨i1, hi1, he⟩ := Option.map_eq_some_iff.1 info_pat
  simp only [Prod.mk.injEq] at he
  obtain ⟨hy0, hy1, hy2⟩ := he
  have S0 : Hid (GdPre W n0 a len cap B (W.alloc (.cells gmZero 29))) := ⟨hC.alloc _, grown_alloc (grown_refl W _) _, hC.hi, Blk.new _ _ _⟩
  clear hC
  go_enter Tryz.func114, Tryz.ntmps114
  obtain ⟨W0, hW0⟩ : ∃ V, V = W.alloc (.cells #[.string ⟨#[]⟩, .int .i64 0, .int .i64 0, .slice none 0 0, .slice none 0 0, .slice none 0 0, .int .i64 0] 29) := ⟨_, rfl⟩
  have S0 : Hid (GdPre W n0 a len cap B W0) := by rw [hW0]; exact S0
  have hs0 : W0.heap.size = W.heap.size + 1 := by rw [hW0, size_new]
  have HW0 := hideP hW0
  clear hW0
  go_wp2_with fail
  rw [← HW0.out]
  refine (l01PickInt n0 _ a len cap B (W.heap.size + 1) 8 8 (fun j => gYears.getD j 0) hlen (by omega) (by omega) (by rw [size_new]; omega) (by rw [← hs0]; exact Nat.ne_of_gt S0.out.cur.hi) (fun j hj => by rw [← hs0]; exact alloc_ints W0 gYears _ j hj) (S0.out.cur.alloc _)).mono ?_
  rintro e W1 ⟨j1, hj1, rfl, hC1, hG1⟩
  have S1 := GdPre.step (GdPre.al S0 _) hG1 hC1
  obtain ⟨gy1, gy2⟩ := gYears_ok hj1
  clear hC1 hG1 S0
  generalize gYears.getD j1 0 = y at *
  go_wp2_with fail
  refine (l01Below n0 _ a len cap B 12 hlen (by omega) S1.out.cur).mono ?_
  rintro e W2 ⟨x2, rfl, p2, q2, hC2, hG2⟩
  have S2 := GdPre.step S1 hG2 hC2
  clear hC2 hG2 S1
  go_wp2_with fail
  refine (l01Below n0 _ a len cap B 28 hlen (by omega) S2.out.cur).mono ?_
  rintro e W3 ⟨x3, rfl, p3, q3, hC3, hG3⟩
  have S3 := GdPre.step S2 hG3 hC3
  clear hC3 hG3 S2
  have hF := from_bound (y := y) (m := 1 + x2) (d := 1 + x3) (by omega) (by omega) (by omega) (by omega) (by omega) (by omega)
  go_wp2_with fail
  refine (specDayOf 0 y (1 + x2) (1 + x3) _).mono ?_
  rintro e W4 ⟨rfl, hb4⟩
  have S4 := GdPre.below S3 hb4
  clear hb4 S3 gy1 gy2
  obtain ⟨hF1, hF2⟩ := hF
  generalize dayOf 0 y (1 + x2) (1 + x3) = F at *
  clear p2 q2 p3 q3
  go_wp2_with fail
  refine (l01Pick n0 _ a len cap B W4.heap.size 4 4 (fun j => gNames.getD j ⟨#[]⟩) hlen (by omega) (by omega) (by rw [size_new]; omega) (Nat.ne_of_gt S4.out.cur.hi) (fun j hj => alloc_strs W4 gNames _ j hj) (S4.out.cur.alloc _)).mono ?_
  rintro e W5 ⟨j5, hj5, rfl, hC5, hG5⟩
  have S5 := GdPre.step (GdPre.al S4 _) hG5 hC5
  obtain ⟨gn1, gn2⟩ := gNames_ok hj5
  clear hC5 hG5 S4
  generalize gNames.getD j5 ⟨#[]⟩ = nm at *
  have HN := hideP gn1
  clear gn1
  go_wp2_with fail
  refine (l01Below n0 _ a len cap B 2 hlen (by omega) S5.out.cur).mono ?_
  rintro e W6 ⟨ru, rfl, p6, q6, hC6, hG6⟩
  have S6 := GdPre.step S5 hG6 hC6
  clear hC6 hG6 S5
  go_wp2_with fail
  obtain ⟨W7, hW7⟩ : ∃ V, V = W6.alloc (.cells #[.string nm, .int .i64 F, .int .i64 0, .slice none 0 0, .slice none 0 0, .slice none 0 0, .int .i64 ru] 29) := ⟨_, rfl⟩
  have S7 := GdPre.box S6 #[.string nm, .int .i64 F, .int .i64 0, .slice none 0 0, .slice none 0 0, .slice none 0 0, .int .i64 ru]
  rw [← hW7] at S7
  rw [← hW7]
  clear hW7 S6
  refine (l01Below n0 _ a len cap B 3 hlen (by omega) S7.out.cur).mono ?_
  rintro e W8 ⟨x8, rfl, p8, q8, hC8, hG8⟩
  have S8 := GdSt.step S7 hG8 hC8
  clear hC8 hG8 S7
  obtain ⟨m, hm⟩ : ∃ m : Nat, 1 + x8 = (m : Int) := ⟨(1 + x8).toNat, by omega⟩
  have hmA : 1 ≤ m := by omega
  have hmB : m ≤ 3 := by omega
  generalize W6.heap.size = R at *
  have hm0 : ¬ (m : Int) = 0 := by omega
  go_wp2_with fail
  clear hm
  go_loopw [8, 9] (fun zt i wr => ∃ (k : Nat) (z : Int) (L : List Seg) (sv : Value), k ≤ m ∧ i = .int .i64 (k : Int) ∧ zt = .int .i64 z ∧ L.length = k ∧ F ≤ z ∧ z ≤ F + 1000 * (k : Int) ∧ Hid (chainS L F z) ∧ Hid (∀ s ∈ L, sideB s = true) ∧ GdSt W n0 a len cap B R #[.string nm, .int .i64 F, .int .i64 0, sv, .slice none 0 0, .slice none 0 0, .int .i64 ru] sv (.slice none 0 0) L [] wr) (fun _ i _ => m - (intOf i).toNat)
  case atStart => exact ⟨0, F, [], .slice none 0 0, Nat.zero_le _, rfl, rfl, rfl, Int.le_refl _, by omega, (show chainS [] F F from rfl), (show ∀ s ∈ ([] : List Seg), sideB s = true from fun s hs => by simp at hs), S8.out⟩
  case round =>
    obtain ⟨k, z, L, sv, hk, rfl, rfl, hl, hza, hzb, HCh, HSd, hS⟩ := hrel
    have S := hideP hS
    clear hS S8
    have c2 := S.out.box.cell 2 rfl
    have c3 := S.out.box.cell 3 rfl
    have f2 := S.out.box.thaw 2
    have f3 := S.out.box.thaw 3
    by_cases hlt : k < m
    · have hlt' : (k : Int) < (m : Int) := by omega
      have hq : 1 ≤ most / (m : Int) ∧ most / (m : Int) ≤ 1000 := by
        have : m = 1 ∨ m = 2 ∨ m = 3 := by omega
        rcases this with rfl | rfl | rfl <;> omega
      go_wp2_with fail
      refine (l01Below n0 _ a len cap B _ hlen (by omega) S.out.cur).mono ?_
      rintro e W9 ⟨x9, rfl, p9, q9, hC9, hG9⟩
      have S9 := GdSt.step S hG9 hC9
      have hx9 : x9 ≤ 999 := by omega
      clear hC9 hG9 S c2 c3 f2 f3 q9 hq
      obtain ⟨St, hSt⟩ : ∃ St : World → Prop, St = fun V => Hid (GdSt W n0 a len cap B R #[.string nm, .int .i64 F, .int .i64 0, sv, .slice none 0 0, .slice none 0 0, .int .i64 ru] sv (.slice none 0 0) L [] V) := ⟨_, rfl⟩
      have T9 : St W9 := by rw [hSt]; exact S9
      have K1 : Hid (∀ V, St V → Cur n0 V a len cap B) := by rw [hSt]; exact fun V h => h.out.cur
      have K2 : Hid (∀ V V', St V → V.grownBy V' (some B) → Cur n0 V' a len cap B → St V') := by rw [hSt]; exact fun V V' h hG hC => GdSt.step h hG hC
      have K3 : Hid (∀ V o, St V → St (V.alloc o)) := by rw [hSt]; exact fun V o h => GdSt.al h o
      have K4 : Hid (∀ V, St V → St V.drew) := by rw [hSt]; exact fun V h => GdSt.dr h
      have K5 : Hid (∀ V, St V → V.cell? ⟨R, 3, none⟩ = some sv ∧ V.frozen? ⟨R, 3, none⟩ = false) := by rw [hSt]; exact fun V h => ⟨h.out.box.cell 3 rfl, h.out.box.thaw 3⟩
      have K6 : Hid (∀ V, St V → V.ownsRow W.heap.size 56 5 sv L.length (icells segK L) ∧ W.heap.size ≤ V.heap.size) := by rw [hSt]; exact fun V h => ⟨h.out.seg, h.out.grown.size⟩
      have K7 : Hid (∀ V V' sv' x, St V → V'.ownsRow W.heap.size 56 5 sv' (L.length + 1) (icells segK L ++ icell segK x) → V.grownBy V' sv.ownBlock → Hid (GdSt W n0 a len cap B R #[.string nm, .int .i64 F, .int .i64 0, sv, .slice none 0 0, .slice none 0 0, .int .i64 ru] sv' (.slice none 0 0) (L ++ [x]) [] V')) := by rw [hSt]; exact fun V V' sv' x h hr hg => GdSt.appS h x hr hg
      obtain ⟨Ls, hLs⟩ : ∃ Ls : World → Nat → Prop, Ls = fun V q => Hid (q < V.heap.size ∧ q ≠ B ∧ ∀ j, j < 6 → V.cell? ⟨q, j, none⟩ = some (.int .i64 (gOffs.getD j 0))) := ⟨_, rfl⟩
      have K0 : Hid (∀ V, St V → Ls (V.alloc (.cells #[.int .i64 0, .int .i64 0, .int .i64 0, .int .i64 1, .int .i64 (-1), .int .i64 3] 3)) V.heap.size) := by rw [hLs]; exact fun V h => ⟨by rw [size_new]; omega, Nat.ne_of_gt (K1.out V h).hi, fun j hj => alloc_ints V gOffs _ j hj⟩
      have K8 : Hid (∀ (n : Int) V, 0 < n → St V → Calls Tryz.prog 63 #[.pointer (some ⟨B, 0, none⟩), .int .i64 n] V fun e V' => ∃ x : Int, e = .returned (.int .i64 x) ∧ 0 ≤ x ∧ x < n ∧ St V' ∧ Hid (∀ q, Ls V q → Ls V' q)) := fun n V hn h => (l01Below n0 V a len cap B n hlen hn (K1.out V h)).mono fun e V' ⟨x, e1, e2, e3, e4, e5⟩ => ⟨x, e1, e2, e3, K2.out V V' h e5 e4, by rw [hLs]; exact fun q hq => ⟨Nat.lt_of_lt_of_le hq.out.1 e5.size, hq.out.2.1, fun j hj => (grown_cell e5 (p := ⟨q, j, none⟩) hq.out.1 hq.out.2.1).trans (hq.out.2.2 j hj)⟩⟩
      have K9 : Hid (∀ V q, St V → Ls V q → Calls Tryz.prog 123 #[.pointer (some ⟨B, 0, none⟩), .slice (some ⟨q, 0, none⟩) 6 6] V fun e V' => ∃ o : Int, e = .returned (.int .i64 o) ∧ inB o (-3) 3 = true ∧ St V') := by rw [hLs]; exact fun V q h hq => (l01PickInt n0 V a len cap B q 6 6 (fun j => gOffs.getD j 0) hlen (by omega) (by omega) hq.out.1 hq.out.2.1 hq.out.2.2 (K1.out V h)).mono fun e V' ⟨j, hj, e1, e4, e5⟩ => ⟨_, e1, gOffs_ok hj, K2.out V V' h e5 e4⟩
      have HZ : Ls (W9.alloc (.cells #[.int .i64 0, .int .i64 0, .int .i64 0, .int .i64 1, .int .i64 (-1), .int .i64 3] 3)).drew W9.heap.size := by
        have h := K0.out W9 T9
        rw [hLs] at h ⊢
        exact h
      have hl4 : L.length ≤ 3 := by omega
      have HL := hideP hl
      clear hSt S9 hl hLs hm1 hm2 hi hz0 hz1 hz2 hi1 hy0 hy1 hy2 HW0 hs0
      have hw1 : wrap64 (z + x9) = z + x9 := by unfold wrap64; omega
      have hw2 : wrap64 (z + x9 + 1) = z + x9 + 1 := by unfold wrap64; omega
      have T9d := K4.out _ T9
      have T9z := K4.out _ (K3.out _ (.cells #[.int .i64 0, .int .i64 0, .int .i64 0, .int .i64 1, .int .i64 (-1), .int .i64 3] 3) T9)
      obtain ⟨c3, f3⟩ := K5.out _ T9
      obtain ⟨c3d, f3d⟩ := K5.out _ T9d
      obtain ⟨c3z, f3z⟩ := K5.out _ T9z
      go_wp2_with fail
      go_region_law
        ((first | (go_simp; go_at_call 63; refine Calls.mono (K8.out _ _ ?_ ?_) ?_; omega; (first | assumption | exact K3.out _ _ (by assumption)); rintro e V ⟨x, rfl, x0, x1, T, HQ⟩; obtain ⟨c3, f3⟩ := K5.out _ T; have c4 := fun o => (K5.out _ (K3.out _ o T)).1; (try (have HX := HQ.out _ (K0.out _ (by assumption)))); (try (have HX := HQ.out _ (by assumption)))) | (go_simp; go_at_call 123; refine Calls.mono (K9.out _ _ ?_ ?_) ?_; (first | assumption | exact K3.out _ _ (by assumption)); (first | assumption | exact K0.out _ (by assumption)); rintro e V ⟨x, rfl, x0, T⟩; obtain ⟨c3, f3⟩ := K5.out _ T; have c4 := fun o => (K5.out _ (K3.out _ o T)).1) | (refine step_seg (by rfl) (.tmp 47) (.tmp 58) (by rfl) W.heap.size sv L ⟨z, z + x9, _, _, _⟩ _ _ (by rfl) (by rfl) (K6.out _ (by first | assumption | exact K3.out _ _ (by assumption))).1 (Blk.new _ _ _) (by omega) (K6.out _ (by first | assumption | exact K3.out _ _ (by assumption))).2 ?_; intro gq cq V9 hr hg; have T10 := K7.out _ _ _ _ (by first | assumption | exact K3.out _ _ (by assumption)) hr hg; have c10 := T10.out.box.cell 3 rfl; have f10 := T10.out.box.thaw 3)))
      all_goals
        have hsd := hideP (side_in T10 (by assumption) (by assumption) (by assumption) (by assumption) (by assumption))
        have T11 := GdSt.store T10 3 (.slice (some ⟨gq, 0, none⟩) (L.length + 1) cq)
        clear T10 c10 f10
        obtain ⟨L', e1, e2, e3, e4⟩ := gd_next T11 HCh.out HSd.out hsd.out (by omega)
        have E1 := hideP e1
        have E4 := hideP e4
        clear T11 hsd e1 e4
        go_wp2_with fail
        exact ⟨⟨k + 1, z + x9 + 1, L', .slice (some ⟨gq, 0, none⟩) (L.length + 1) cq, by omega, by go_num, rfl, by rw [E1.out, HL.out], by omega, by omega, e2, e3, E4.out⟩, by simp [intOf]; omega⟩
    · obtain rfl : k = m := by omega
      have hlt' : ¬ (k : Int) < (k : Int) := by omega
      have hw3 : wrap64 (z - 1) = z - 1 := by unfold wrap64; omega
      have HL := hideP hl
      obtain ⟨gs, cs, rfl, _, _⟩ := S.out.seg.form (by omega)
      have hlen1 : 1 ≤ L.length := by omega
      have hlen3 : L.length ≤ 3 := by omega
      have hzF : F < z := by
        cases L with
        | nil => simp at hl; omega
        | cons s l => have := (chain_mem HCh.out).2 s List.mem_cons_self; omega
      go_wp2_with fail
      have S2 := GdSt.store S 2 (.int .i64 (z - 1))
      clear S c2 c3 f2 f3 hl
      generalize wr.setCell ⟨R, 2, none⟩ (.int .i64 (z - 1)) = V2 at *
      refine (l01Once n0 _ a len cap B 2 hlen (by omega) S2.out.cur).mono ?_
      rintro e V5 ⟨ob, rfl, hC3, hG3⟩
      have S5 := GdSt.step S2 hG3 hC3
      clear hC3 hG3 S2
      cases ob
      · go_wp2_with fail
        refine (l08Reigns n0 _ a len cap B F hlen S5.out.cur).mono ?_
        rintro e V6 ⟨rv, rfl, l6, hr6, hC6, hG6⟩
        have S6 := GdSt.step S5 hG6 hC6
        have hM : W.heap.size < V5.heap.size := S5.out.zer.lt
        have hRM : R < V5.heap.size := S5.out.box.lt
        have hsM : ∀ k, (Value.slice (some ⟨gs, 0, none⟩) L.length cs).ownBlock = some k → k < V5.heap.size := fun k e => (S5.out.seg.lt k e).2
        have hpM : ∀ k, (.slice none 0 0 : Value).ownBlock = some k → k < V5.heap.size := fun k e => (S5.out.pat.lt k e).2
        have HM := hideP hM
        have HsM := hideP hsM
        have HpM := hideP hpM
        obtain ⟨ad6, cp6, rfl, _⟩ := hr6.1.1
        have HR7 := hideP (hr6.grown (grown_set V6 R 5 (.slice ad6 l6.length cp6)) hRM)
        generalize V5.heap.size = M at *
        clear hr6 hC6 hG6 S5 hsM hpM hM hRM
        have c5 := S6.out.box.cell 5 rfl
        have f5 := S6.out.box.thaw 5
        go_wp2_with fail
        have S7 := GdSt.store S6 5 (.slice ad6 l6.length cp6)
        clear S6 c5 f5
        generalize V6.setCell ⟨R, 5, none⟩ (.slice ad6 l6.length cp6) = V7 at *
        refine (specReignsOk _ l6 _ HR7.out.1.1).mono ?_
        rintro e V8 ⟨rfl, hb8⟩
        have S8 := GdSt.below S7 hb8
        have HR8 := hideP (HR7.out.below hb8)
        clear hb8 S7 HR7
        clear hi hz0 hz1 hz2 hi1 hy0 hy1 hy2 HW0 hs0
        cases hok : reignsOk l6
        · have c5 := S8.out.box.cell 5 rfl
          have f5 := S8.out.box.thaw 5
          have R8 : R < V8.heap.size := S8.out.box.lt
          go_upto_region 18 with fail
          have S9 := GdSt.al (GdSt.store S8 5 (.slice (some ⟨V8.heap.size, 0, none⟩) 0 0)) (.cells #[] 79)
          have FN := hideP (GdSt.final (nm := nm) (f := F) (t := z - 1) (ru := ru) S9 (rnew_nil M _ (some ⟨V8.heap.size, 0, none⟩) 0 (by unfold maxLen; omega)) HM.out HsM.out HpM.out)
          have GD := hideP (good_draw (nm := nm) (F := F) (z := z) (L := L) (P := []) HN.out gn2 hF1 hF2 (by omega) (by omega) (by omega) HCh.out HSd.out (.inl rfl) okNil p6 q6)
          generalize (V8.setCell ⟨R, 5, none⟩ (.slice (some ⟨V8.heap.size, 0, none⟩) 0 0)).alloc (.cells #[] 79) = V at *
          clear S8 c5 f5 R8 HR8 HM HsM HpM HN HCh HSd
          have c0 := S9.out.box.cell 0 rfl
          have c1 := S9.out.box.cell 1 rfl
          have c2 := S9.out.box.cell 2 rfl
          have c3 := S9.out.box.cell 3 rfl
          have c4 := S9.out.box.cell 4 rfl
          have c5 := S9.out.box.cell 5 rfl
          have c6 := S9.out.box.cell 6 rfl
          have q0 := S9.out.zer.cell 0 rfl
          have r0 := S9.out.zer.thaw 0
          have q1 := S9.out.zer.cell 1 rfl
          have r1 := S9.out.zer.thaw 1
          have q2 := S9.out.zer.cell 2 rfl
          have r2 := S9.out.zer.thaw 2
          have q3 := S9.out.zer.cell 3 rfl
          have r3 := S9.out.zer.thaw 3
          have q4 := S9.out.zer.cell 4 rfl
          have r4 := S9.out.zer.thaw 4
          have q5 := S9.out.zer.cell 5 rfl
          have r5 := S9.out.zer.thaw 5
          have q6 := S9.out.zer.cell 6 rfl
          have r6 := S9.out.zer.thaw 6
          go_wp2_with fail
          obtain ⟨V9, e9⟩ : ∃ V9, V9 = put7 V W.heap.size (.string nm) (.int .i64 F) (.int .i64 (z - 1)) (.slice (some ⟨gs, 0, none⟩) L.length cs) (.slice none 0 0) (.slice (some ⟨V8.heap.size, 0, none⟩) 0 0) (.int .i64 ru) := ⟨_, rfl⟩
          rw [← e9] at FN
          unfold put7 at e9
          rw [← e9]
          obtain ⟨D9, C9, G9, Z9⟩ := FN.out
          clear e9 S9 c0 c1 c2 c3 c4 c5 c6 q0 q1 q2 q3 q4 q5 q6 r0 r1 r2 r3 r4 r5 r6
          have z0 := Z9.cell 0 rfl
          have z1 := Z9.cell 1 rfl
          have z2 := Z9.cell 2 rfl
          have z3 := Z9.cell 3 rfl
          have z4 := Z9.cell 4 rfl
          have z5 := Z9.cell 5 rfl
          have z6 := Z9.cell 6 rfl
          exact bodyPost_ret (by simp [results, Tryz.results114, go_sem, z0, z1, z2, z3, z4, z5, z6]; try rfl) rfl ⟨_, _, rfl, ⟨D9, GD.out⟩, C9, G9⟩
        · have FN := hideP (GdSt.final (nm := nm) (f := F) (t := z - 1) (ru := ru) S8 HR8.out HM.out HsM.out HpM.out)
          have GD := hideP (good_draw (nm := nm) (F := F) (z := z) (L := L) (P := []) HN.out gn2 hF1 hF2 (by omega) (by omega) (by omega) HCh.out HSd.out (.inl rfl) hok p6 q6)
          clear HR8 HM HsM HpM HN HCh HSd
          have c0 := S8.out.box.cell 0 rfl
          have c1 := S8.out.box.cell 1 rfl
          have c2 := S8.out.box.cell 2 rfl
          have c3 := S8.out.box.cell 3 rfl
          have c4 := S8.out.box.cell 4 rfl
          have c5 := S8.out.box.cell 5 rfl
          have c6 := S8.out.box.cell 6 rfl
          have q0 := S8.out.zer.cell 0 rfl
          have r0 := S8.out.zer.thaw 0
          have q1 := S8.out.zer.cell 1 rfl
          have r1 := S8.out.zer.thaw 1
          have q2 := S8.out.zer.cell 2 rfl
          have r2 := S8.out.zer.thaw 2
          have q3 := S8.out.zer.cell 3 rfl
          have r3 := S8.out.zer.thaw 3
          have q4 := S8.out.zer.cell 4 rfl
          have r4 := S8.out.zer.thaw 4
          have q5 := S8.out.zer.cell 5 rfl
          have r5 := S8.out.zer.thaw 5
          have q6 := S8.out.zer.cell 6 rfl
          have r6 := S8.out.zer.thaw 6
          go_wp2_with fail
          obtain ⟨V9, e9⟩ : ∃ V9, V9 = put7 V8 W.heap.size (.string nm) (.int .i64 F) (.int .i64 (z - 1)) (.slice (some ⟨gs, 0, none⟩) L.length cs) (.slice none 0 0) (.slice ad6 l6.length cp6) (.int .i64 ru) := ⟨_, rfl⟩
          rw [← e9] at FN
          unfold put7 at e9
          rw [← e9]
          obtain ⟨D9, C9, G9, Z9⟩ := FN.out
          clear e9 S8 c0 c1 c2 c3 c4 c5 c6 q0 q1 q2 q3 q4 q5 q6 r0 r1 r2 r3 r4 r5 r6
          have z0 := Z9.cell 0 rfl
          have z1 := Z9.cell 1 rfl
          have z2 := Z9.cell 2 rfl
          have z3 := Z9.cell 3 rfl
          have z4 := Z9.cell 4 rfl
          have z5 := Z9.cell 5 rfl
          have z6 := Z9.cell 6 rfl
          exact bodyPost_ret (by simp [results, Tryz.results114, go_sem, z0, z1, z2, z3, z4, z5, z6]; try rfl) rfl ⟨_, _, rfl, ⟨D9, GD.out⟩, C9, G9⟩
      · have hwa : wrap64 (z - F) = z - F := by unfold wrap64; omega
        go_wp2_with fail
        refine (l01Below n0 _ a len cap B (z - F) hlen (by omega) S5.out.cur).mono ?_
        rintro e V4 ⟨x10, rfl, a10, b10, hC4, hG4⟩
        have S4 := GdSt.step S5 hG4 hC4
        clear hC4 hG4 S5
        have hwb : wrap64 (F + x10) = F + x10 := by unfold wrap64; omega
        have c4 := S4.out.box.cell 4 rfl
        have hV4 : W.heap.size ≤ V4.heap.size := S4.out.grown.size
        go_wp2_with (at_builtin; refine wpList_append_own _ rfl _ _ 26 rfl W.heap.size 76 i1 (.agg #[.int .i64 0, .int .i64 0, .int .i64 0]) 3 24 Tryz.underlying26 hi1 hy0 hy1 hy2 rfl (by decide) _ _ _ rfl (GdSt.al S4 _).out.pat ⟨V4.heap.size, 0, none⟩ 1 1 [.int .i64 (F + x10), .int .i64 2, .int .i64 30] rfl rfl (cells_three _ _ _ _ _ rfl) (by simp [Value.oneCell']) (by unfold maxLen; simp) (by simp) (by rw [inew]; omega) ?_; intro v' V9 hown' hgrow _; obtain ⟨gp, cp, rfl, _, _⟩ := hown'.form (by simp); have S9 := GdSt.appP (GdSt.al S4 _) ⟨F + x10, 2, 30⟩ hown' hgrow; have d4 := S9.out.box.cell 4 rfl; have e4 := S9.out.box.thaw 4; clear hown' hgrow)
        have S5 : Hid (GdSt W n0 a len cap B R #[.string nm, .int .i64 F, .int .i64 (z - 1), .slice (some ⟨gs, 0, none⟩) L.length cs, .slice (some ⟨gp, 0, none⟩) 1 cp, .slice none 0 0, .int .i64 ru] (.slice (some ⟨gs, 0, none⟩) L.length cs) (.slice (some ⟨gp, 0, none⟩) 1 cp) L [⟨F + x10, 2, 30⟩] (V9.setCell ⟨R, 4, none⟩ (.slice (some ⟨gp, 0, none⟩) 1 cp))) := GdSt.store S9 4 (.slice (some ⟨gp, 0, none⟩) 1 cp)
        clear S9 d4 e4 S4 c4 hV4
        generalize V9.setCell ⟨R, 4, none⟩ (.slice (some ⟨gp, 0, none⟩) 1 cp) = V5 at *
        have HPQ : Hid ([(⟨F + x10, 2, 30⟩ : Pat)] = [] ∨ ∃ n, [(⟨F + x10, 2, 30⟩ : Pat)] = [⟨n, 2, 30⟩] ∧ F ≤ n ∧ n ≤ z - 1) := .inr ⟨_, rfl, by omega, by omega⟩
        refine (l08Reigns n0 _ a len cap B F hlen S5.out.cur).mono ?_
        rintro e V6 ⟨rv, rfl, l6, hr6, hC6, hG6⟩
        have S6 := GdSt.step S5 hG6 hC6
        have hM : W.heap.size < V5.heap.size := S5.out.zer.lt
        have hRM : R < V5.heap.size := S5.out.box.lt
        have hsM : ∀ k, (Value.slice (some ⟨gs, 0, none⟩) L.length cs).ownBlock = some k → k < V5.heap.size := fun k e => (S5.out.seg.lt k e).2
        have hpM : ∀ k, (.slice (some ⟨gp, 0, none⟩) 1 cp : Value).ownBlock = some k → k < V5.heap.size := fun k e => (S5.out.pat.lt k e).2
        have HM := hideP hM
        have HsM := hideP hsM
        have HpM := hideP hpM
        obtain ⟨ad6, cp6, rfl, _⟩ := hr6.1.1
        have HR7 := hideP (hr6.grown (grown_set V6 R 5 (.slice ad6 l6.length cp6)) hRM)
        generalize V5.heap.size = M at *
        clear hr6 hC6 hG6 S5 hsM hpM hM hRM
        have c5 := S6.out.box.cell 5 rfl
        have f5 := S6.out.box.thaw 5
        go_wp2_with fail
        have S7 := GdSt.store S6 5 (.slice ad6 l6.length cp6)
        clear S6 c5 f5
        generalize V6.setCell ⟨R, 5, none⟩ (.slice ad6 l6.length cp6) = V7 at *
        refine (specReignsOk _ l6 _ HR7.out.1.1).mono ?_
        rintro e V8 ⟨rfl, hb8⟩
        have S8 := GdSt.below S7 hb8
        have HR8 := hideP (HR7.out.below hb8)
        clear hb8 S7 HR7
        clear hi hz0 hz1 hz2 hi1 hy0 hy1 hy2 HW0 hs0
        cases hok : reignsOk l6
        · have c5 := S8.out.box.cell 5 rfl
          have f5 := S8.out.box.thaw 5
          have R8 : R < V8.heap.size := S8.out.box.lt
          go_upto_region 18 with fail
          have S9 := GdSt.al (GdSt.store S8 5 (.slice (some ⟨V8.heap.size, 0, none⟩) 0 0)) (.cells #[] 79)
          have FN := hideP (GdSt.final (nm := nm) (f := F) (t := z - 1) (ru := ru) S9 (rnew_nil M _ (some ⟨V8.heap.size, 0, none⟩) 0 (by unfold maxLen; omega)) HM.out HsM.out HpM.out)
          have GD := hideP (good_draw (nm := nm) (F := F) (z := z) (L := L) (P := [⟨F + x10, 2, 30⟩]) HN.out gn2 hF1 hF2 (by omega) (by omega) (by omega) HCh.out HSd.out HPQ.out okNil p6 q6)
          generalize (V8.setCell ⟨R, 5, none⟩ (.slice (some ⟨V8.heap.size, 0, none⟩) 0 0)).alloc (.cells #[] 79) = V at *
          clear S8 c5 f5 R8 HR8 HM HsM HpM HN HCh HSd
          have c0 := S9.out.box.cell 0 rfl
          have c1 := S9.out.box.cell 1 rfl
          have c2 := S9.out.box.cell 2 rfl
          have c3 := S9.out.box.cell 3 rfl
          have c4 := S9.out.box.cell 4 rfl
          have c5 := S9.out.box.cell 5 rfl
          have c6 := S9.out.box.cell 6 rfl
          have q0 := S9.out.zer.cell 0 rfl
          have r0 := S9.out.zer.thaw 0
          have q1 := S9.out.zer.cell 1 rfl
          have r1 := S9.out.zer.thaw 1
          have q2 := S9.out.zer.cell 2 rfl
          have r2 := S9.out.zer.thaw 2
          have q3 := S9.out.zer.cell 3 rfl
          have r3 := S9.out.zer.thaw 3
          have q4 := S9.out.zer.cell 4 rfl
          have r4 := S9.out.zer.thaw 4
          have q5 := S9.out.zer.cell 5 rfl
          have r5 := S9.out.zer.thaw 5
          have q6 := S9.out.zer.cell 6 rfl
          have r6 := S9.out.zer.thaw 6
          go_wp2_with fail
          obtain ⟨V9, e9⟩ : ∃ V9, V9 = put7 V W.heap.size (.string nm) (.int .i64 F) (.int .i64 (z - 1)) (.slice (some ⟨gs, 0, none⟩) L.length cs) (.slice (some ⟨gp, 0, none⟩) 1 cp) (.slice (some ⟨V8.heap.size, 0, none⟩) 0 0) (.int .i64 ru) := ⟨_, rfl⟩
          rw [← e9] at FN
          unfold put7 at e9
          rw [← e9]
          obtain ⟨D9, C9, G9, Z9⟩ := FN.out
          clear e9 S9 c0 c1 c2 c3 c4 c5 c6 q0 q1 q2 q3 q4 q5 q6 r0 r1 r2 r3 r4 r5 r6
          have z0 := Z9.cell 0 rfl
          have z1 := Z9.cell 1 rfl
          have z2 := Z9.cell 2 rfl
          have z3 := Z9.cell 3 rfl
          have z4 := Z9.cell 4 rfl
          have z5 := Z9.cell 5 rfl
          have z6 := Z9.cell 6 rfl
          exact bodyPost_ret (by simp [results, Tryz.results114, go_sem, z0, z1, z2, z3, z4, z5, z6]; try rfl) rfl ⟨_, _, rfl, ⟨D9, GD.out⟩, C9, G9⟩
        · have FN := hideP (GdSt.final (nm := nm) (f := F) (t := z - 1) (ru := ru) S8 HR8.out HM.out HsM.out HpM.out)
          have GD := hideP (good_draw (nm := nm) (F := F) (z := z) (L := L) (P := [⟨F + x10, 2, 30⟩]) HN.out gn2 hF1 hF2 (by omega) (by omega) (by omega) HCh.out HSd.out HPQ.out hok p6 q6)
          clear HR8 HM HsM HpM HN HCh HSd
          have c0 := S8.out.box.cell 0 rfl
          have c1 := S8.out.box.cell 1 rfl
          have c2 := S8.out.box.cell 2 rfl
          have c3 := S8.out.box.cell 3 rfl
          have c4 := S8.out.box.cell 4 rfl
          have c5 := S8.out.box.cell 5 rfl
          have c6 := S8.out.box.cell 6 rfl
          have q0 := S8.out.zer.cell 0 rfl
          have r0 := S8.out.zer.thaw 0
          have q1 := S8.out.zer.cell 1 rfl
          have r1 := S8.out.zer.thaw 1
          have q2 := S8.out.zer.cell 2 rfl
          have r2 := S8.out.zer.thaw 2
          have q3 := S8.out.zer.cell 3 rfl
          have r3 := S8.out.zer.thaw 3
          have q4 := S8.out.zer.cell 4 rfl
          have r4 := S8.out.zer.thaw 4
          have q5 := S8.out.zer.cell 5 rfl
          have r5 := S8.out.zer.thaw 5
          have q6 := S8.out.zer.cell 6 rfl
          have r6 := S8.out.zer.thaw 6
          go_wp2_with fail
          obtain ⟨V9, e9⟩ : ∃ V9, V9 = put7 V8 W.heap.size (.string nm) (.int .i64 F) (.int .i64 (z - 1)) (.slice (some ⟨gs, 0, none⟩) L.length cs) (.slice (some ⟨gp, 0, none⟩) 1 cp) (.slice ad6 l6.length cp6) (.int .i64 ru) := ⟨_, rfl⟩
          rw [← e9] at FN
          unfold put7 at e9
          rw [← e9]
          obtain ⟨D9, C9, G9, Z9⟩ := FN.out
          clear e9 S8 c0 c1 c2 c3 c4 c5 c6 q0 q1 q2 q3 q4 q5 q6 r0 r1 r2 r3 r4 r5 r6
          have z0 := Z9.cell 0 rfl
          have z1 := Z9.cell 1 rfl
          have z2 := Z9.cell 2 rfl
          have z3 := Z9.cell 3 rfl
          have z4 := Z9.cell 4 rfl
          have z5 := Z9.cell 5 rfl
          have z6 := Z9.cell 6 rfl
          exact bodyPost_ret (by simp [results, Tryz.results114, go_sem, z0, z1, z2, z3, z4, z5, z6]; try rfl) rfl ⟨_, _, rfl, ⟨D9, GD.out⟩, C9, G9⟩
end Go.Proofs.YtchhdoipkimbgaaGreatDoor.ctr
