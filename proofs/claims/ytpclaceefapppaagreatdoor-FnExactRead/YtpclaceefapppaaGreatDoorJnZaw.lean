/- What a When is, and what is right; contracts of the program's kindOf, WhenOk and of what they call, and of the; and what else the law reaches. -/
import Derived.Test.YtpclaceefapppaaGreatDoorJnZad
import Derived.Test.YtpclaceefapppaaGreatDoorJnZaq
import Derived.Test.YtpclaceefapppaaGreatDoorJnZam
import Derived.Test.YtpclaceefapppaaGreatDoorJnZag
import Derived.Deep.DeepCutAuto
import Derived.Deep.RegionWith
set_option maxRecDepth 100000
set_option maxHeartbeats 8000000
namespace Go.Proofs.YtpclaceefapppaaGreatDoor.ctr
open Go.RowKit
structure Whn where
 kind : Int
 mon : Int
 day : Int
 rom : Rom
 feast : ByteArray
 plus : Int
abbrev whnC (s : Whn) : Array Value := #[.int .i64 s.kind, .int .i64 s.mon, .int .i64 s.day, .int .i64 s.rom.count, .int .i64 s.rom.mark, .int .i64 s.rom.month, .bool s.rom.twice, .string s.feast, .int .i64 s.plus]
abbrev whnV (s : Whn) : Value := .agg (whnC s)
abbrev rom0 : Rom := ⟨0, 0, 0, false⟩
theorem box_any (w : World) (cs : Array Value) (t : TypeId) : ∃ W0, W0 = w.alloc (.cells cs t) ∧ (∀ x : Later W0, Blk x.w w.heap.size cs t) ∧ (∀ x : Later W0, Below w.heap.size w x.w) :=
 ⟨_, rfl, fun x => (Blk.new _ _ _).later x, fun x => below_alloc x.below⟩
def feaOf (s : ByteArray) : Fea := if findFeast s < 0 then fea0 else feaAt (findFeast s).toNat
theorem feaAt_yes : ∀ i : Fin 20, feaOk (feaAt i.val).name (feaAt i.val).mv (feaAt i.val).off (feaAt i.val).m (feaAt i.val).d = true := by decide +kernel
theorem feaAt_len : ∀ i : Fin 20, (feaAt i.val).name.size ≤ 16 := feaAt_size0
theorem fea0_no : feaOk fea0.name fea0.mv fea0.off fea0.m fea0.d = false := by decide +kernel
theorem feaOf_len (s : ByteArray) : (feaOf s).name.size ≤ 16 := by
 unfold feaOf
 split
 · decide
 · have := find_b s
   exact feaAt_len ⟨(findFeast s).toNat, by omega⟩
theorem feaOf_ok (s : ByteArray) : feaOk (feaOf s).name (feaOf s).mv (feaOf s).off (feaOf s).m (feaOf s).d = decide (0 ≤ findFeast s) := by
 unfold feaOf
 by_cases h : findFeast s < 0
 · rw [if_pos h, fea0_no, decide_eq_false (by omega)]
 · rw [if_neg h, decide_eq_true (by omega)]
   have := find_b s
   exact feaAt_yes ⟨(findFeast s).toNat, by omega⟩
theorem implFeastNamed (s : ByteArray) (w : World) : CR 186 #[.string s] w (.agg #[.string (feaOf s).name, .bool (feaOf s).mv, .int .i64 (feaOf s).off, .int .i64 (feaOf s).m, .int .i64 (feaOf s).d]) := by
 obtain ⟨W0, hW0, hC, hBl⟩ := box_any w #[.string ⟨#[]⟩, .bool false, .int .i64 0, .int .i64 0, .int .i64 0] 126
 have u0 : ∀ x : Later W0, x.w.cell? ⟨w.heap.size, 0, none⟩ = some (.string ⟨#[]⟩) := fun x => (hC x).cell 0 rfl
 have f0 : ∀ x : Later W0, x.w.frozen? ⟨w.heap.size, 0, none⟩ = false := fun x => (hC x).thaw 0
 have u1 : ∀ x : Later W0, x.w.cell? ⟨w.heap.size, 1, none⟩ = some (.bool false) := fun x => (hC x).cell 1 rfl
 have f1 : ∀ x : Later W0, x.w.frozen? ⟨w.heap.size, 1, none⟩ = false := fun x => (hC x).thaw 1
 have u2 : ∀ x : Later W0, x.w.cell? ⟨w.heap.size, 2, none⟩ = some (.int .i64 0) := fun x => (hC x).cell 2 rfl
 have f2 : ∀ x : Later W0, x.w.frozen? ⟨w.heap.size, 2, none⟩ = false := fun x => (hC x).thaw 2
 have u3 : ∀ x : Later W0, x.w.cell? ⟨w.heap.size, 3, none⟩ = some (.int .i64 0) := fun x => (hC x).cell 3 rfl
 have f3 : ∀ x : Later W0, x.w.frozen? ⟨w.heap.size, 3, none⟩ = false := fun x => (hC x).thaw 3
 have u4 : ∀ x : Later W0, x.w.cell? ⟨w.heap.size, 4, none⟩ = some (.int .i64 0) := fun x => (hC x).cell 4 rfl
 have f4 : ∀ x : Later W0, x.w.frozen? ⟨w.heap.size, 4, none⟩ = false := fun x => (hC x).thaw 4
 have HW0 := hideP hW0
 have HC := hideP hC
 have HBl := hideP hBl
 have KF : ∀ W, CR 171 #[.string s] W (.int .i64 (findFeast s)) := fun W => implFind s W
 have hb := find_b s
 clear hW0 hC hBl
 by_cases hn : findFeast s < 0
 · rw [show feaOf s = fea0 by unfold feaOf; rw [if_pos hn]]
   generalize findFeast s = z at *
   go_enter Tryz.func186, Tryz.ntmps186
   go_wp2_with fail
   rw [← HW0.out]
   refine (KF _).mono ?_
   rintro e w1 ⟨rfl, hb1⟩
   obtain ⟨x1, rfl⟩ := Later.of hb1
   clear hb1
   go_wp2
   exact ret5 (HC.out x1) (HBl.out x1) (by omega) rfl (fun _ q0 q1 q2 q3 q4 B9 => ⟨by simp [results, Tryz.results186, go_sem, q0, q1, q2, q3, q4]; first | done | rfl | exact ⟨rfl, rfl, rfl, rfl, rfl⟩, rfl, B9⟩)
 · rw [show feaOf s = feaAt (findFeast s).toNat by unfold feaOf; rw [if_neg hn]]
   obtain ⟨k, hk⟩ := Int.eq_ofNat_of_zero_le (show 0 ≤ findFeast s by omega)
   rw [hk] at KF
   rw [hk, Int.toNat_natCast]
   have hk20 : k < 20 := by omega
   clear hb hn hk
   go_enter Tryz.func186, Tryz.ntmps186
   go_wp2_with fail
   rw [← HW0.out]
   refine (KF _).mono ?_
   rintro e w1 ⟨rfl, hb1⟩
   obtain ⟨x1, rfl⟩ := Later.of hb1
   clear hb1
   go_wp2_with fail
   refine (implFeasts _).mono ?_
   rintro e w2 ⟨v, rfl, ho, hb2⟩
   obtain ⟨x2, rfl⟩ := x1.next hb2
   obtain ⟨g, cap, rfl, hg, hcell⟩ := ho.row
   have e0 : x2.w.cell? ⟨g, k * 5, none⟩ = some (.string (feaAt k).name) := by rw [show k * 5 = k * 5 + 0 from rfl, hcell k hk20 0 (by omega)]; rfl
   have e1 : x2.w.cell? ⟨g, k * 5 + 1, none⟩ = some (.bool (feaAt k).mv) := by rw [hcell k hk20 1 (by omega)]; rfl
   have e2 : x2.w.cell? ⟨g, k * 5 + 2, none⟩ = some (.int .i64 (feaAt k).off) := by rw [hcell k hk20 2 (by omega)]; rfl
   have e3 : x2.w.cell? ⟨g, k * 5 + 3, none⟩ = some (.int .i64 (feaAt k).m) := by rw [hcell k hk20 3 (by omega)]; rfl
   have e4 : x2.w.cell? ⟨g, k * 5 + 4, none⟩ = some (.int .i64 (feaAt k).d) := by rw [hcell k hk20 4 (by omega)]; rfl
   clear hb2 ho hcell
   go_wp2
   exact ret5 (HC.out x2) (HBl.out x2) (by omega) rfl (fun _ q0 q1 q2 q3 q4 B9 => ⟨by simp [results, Tryz.results186, go_sem, q0, q1, q2, q3, q4]; first | done | rfl | exact ⟨rfl, rfl, rfl, rfl, rfl⟩, rfl, B9⟩)
theorem implDayRight (m d : Int) (w : World) : CR 377 #[.agg #[.int .i64 m, .int .i64 d]] w (.bool (decide (1 ≤ m ∧ m ≤ 12 ∧ 1 ≤ d ∧ d ≤ 31))) := by
 obtain ⟨W0, hW0, hC, hBl⟩ := box_any w #[.int .i64 m, .int .i64 d] 218
 obtain ⟨c0, c1⟩ := cells2 hC
 obtain ⟨x0, hx0⟩ : ∃ x0 : Later W0, W0 = x0.w := ⟨⟨W0, Below.refl _ _⟩, rfl⟩
 have HW0 := hideP (hW0.symm.trans hx0)
 have HBl := hideP (hBl x0)
 clear hW0 hC hBl hx0
 by_cases h1 : 1 ≤ m
 case neg =>
  rw [decide_eq_false (by omega)]
  go_enter Tryz.func377, Tryz.ntmps377
  go_wp2_with fail
  rw [HW0.out]
  go_wp2
  go_ret
  exact ⟨rfl, HBl.out⟩
 by_cases h2 : m ≤ 12
 case neg =>
  rw [decide_eq_false (by omega)]
  go_enter Tryz.func377, Tryz.ntmps377
  go_wp2_with fail
  rw [HW0.out]
  go_wp2
  go_ret
  exact ⟨rfl, HBl.out⟩
 by_cases h3 : 1 ≤ d
 case neg =>
  rw [decide_eq_false (by omega)]
  go_enter Tryz.func377, Tryz.ntmps377
  go_wp2_with fail
  rw [HW0.out]
  go_wp2
  go_ret
  exact ⟨rfl, HBl.out⟩
 by_cases h4 : d ≤ 31
 case neg =>
  rw [decide_eq_false (by omega)]
  go_enter Tryz.func377, Tryz.ntmps377
  go_wp2_with fail
  rw [HW0.out]
  go_wp2
  go_ret
  exact ⟨rfl, HBl.out⟩
 rw [decide_eq_true (by omega)]
 go_enter Tryz.func377, Tryz.ntmps377
 go_wp2_with fail
 rw [HW0.out]
 go_wp2
 go_ret
 exact ⟨rfl, HBl.out⟩
theorem implRomanOk (r : Rom) (w : World) (hT : Tab w) : CR 236 #[romV r] w (.bool (romB r)) := by
 obtain ⟨cn, mk, mo, tw⟩ := r
 obtain ⟨W0, hW0, c0, c1, c2, c3, hBl⟩ := rom_box w cn mk mo tw
 have K4 : ∀ W, Tab W → CR 283 #[.int .i64 0, .int .i64 4, .agg #[.int .i64 cn, .int .i64 mk, .int .i64 mo, .bool tw]] W (dayV (dayOfRoman 0 4 ⟨cn, mk, mo, tw⟩)) := fun W h => implDayOfRoman 0 4 ⟨cn, mk, mo, tw⟩ W h
 have o4 := day_ok 0 4 ⟨cn, mk, mo, tw⟩
 obtain ⟨B, hB⟩ : ∃ B, B = romB ⟨cn, mk, mo, tw⟩ := ⟨_, rfl⟩
 rw [show dayR 0 4 ⟨cn, mk, mo, tw⟩ = B from hB.symm] at o4
 rw [← hB]
 have HW0 := hideP hW0
 have HBl := hideP hBl
 have HT : Hid (∀ x : Later W0, Tab x.w) := fun x => hT.later (hBl x)
 obtain ⟨x0, hx0⟩ := Later.of (Below.refl W0.heap.size W0)
 have HX0 := hideP hx0
 clear hB hW0 hBl hT hx0
 generalize dayOfRoman 0 4 ⟨cn, mk, mo, tw⟩ = q4 at *
 obtain ⟨s0, s1, s2, s3⟩ := q4
 have D4 : ∀ W, Tab W → CR 252 #[.agg #[.int .i64 s0, .int .i64 s1, .int .i64 s2, .int .i64 s3]] W (.bool B) := fun W h => by rw [← o4]; exact implDateOk s0 s1 s2 s3 W h
 clear o4
 go_enter Tryz.func236, Tryz.ntmps236
 go_wp2_with fail
 rw [← HW0.out, HX0.out]
 refine lat (K4 _ (HT.out x0)) fun x1 => ?_
 go_wp2_with fail
 refine lat (D4 _ (HT.out x1)) fun x2 => ?_
 go_wp2
 go_ret
 exact ⟨rfl, HBl.out x2⟩
theorem implRomRight (a b c : Int) (t : Bool) (w : World) (hT : Tab w) : CR 380 #[.agg #[.int .i64 a, .int .i64 b, .int .i64 c, .bool t]] w (.bool (romB ⟨a, b, c, t⟩)) := by
 obtain ⟨W0, hW0, hC, hBl⟩ := box_any w #[.int .i64 a, .int .i64 b, .int .i64 c, .bool t] 220
 obtain ⟨c0, c1, c2, c3⟩ := cells4 hC
 obtain ⟨x0, hx0⟩ : ∃ x0 : Later W0, W0 = x0.w := ⟨⟨W0, Below.refl _ _⟩, rfl⟩
 have HW0 := hideP (hW0.symm.trans hx0)
 have HBl := hideP hBl
 have K : ∀ x : Later W0, CR 236 #[.agg #[.int .i64 a, .int .i64 b, .int .i64 c, .bool t]] x.w (.bool (romB ⟨a, b, c, t⟩)) := fun x => implRomanOk ⟨a, b, c, t⟩ x.w (hT.later (hBl x))
 generalize romB ⟨a, b, c, t⟩ = B at *
 clear hW0 hC hBl hx0 hT
 go_enter Tryz.func380, Tryz.ntmps380
 go_wp2_with fail
 rw [HW0.out]
 refine lat (K x0) fun x1 => ?_
 go_wp2
 go_ret
 exact ⟨rfl, HBl.out x1⟩
theorem implFeaRight (s : ByteArray) (mv : Bool) (o m d p : Int) (w : World) (hs : s.size ≤ maxLen) (hT : Tab w) : CR 383 #[.agg #[.string s, .bool mv, .int .i64 o, .int .i64 m, .int .i64 d, .int .i64 p]] w (.bool (feaOk s mv o m d && (decide (0 ≤ p) && decide (p ≤ 99)))) := by
 obtain ⟨W0, hW0, hC, hBl⟩ := box_any w #[.string s, .bool mv, .int .i64 o, .int .i64 m, .int .i64 d, .int .i64 p] 223
 obtain ⟨c0, c1, c2, c3, c4, c5⟩ := cells6 hC
 obtain ⟨x0, hx0⟩ : ∃ x0 : Later W0, W0 = x0.w := ⟨⟨W0, Below.refl _ _⟩, rfl⟩
 have HW0 := hideP (hW0.symm.trans hx0)
 have HBl := hideP hBl
 have K : ∀ x : Later W0, CR 339 #[.agg #[.string s, .bool mv, .int .i64 o, .int .i64 m, .int .i64 d]] x.w (.bool (feaOk s mv o m d)) := fun x => implFeaOk s mv o m d x.w hs (hT.later (hBl x))
 generalize feaOk s mv o m d = B at *
 clear hW0 hC hBl hx0 hT
 rcases Int.lt_or_le p 0 with h1 | h1
 all_goals rcases Int.lt_or_le 99 p with h2 | h2
 all_goals try (exfalso; omega)
 all_goals
  cases B
  all_goals
   go_enter Tryz.func383, Tryz.ntmps383
   go_wp2_with fail
   rw [HW0.out]
   refine lat (K x0) fun x1 => ?_
   go_wp2
   go_ret
   refine ⟨?_, HBl.out x1⟩
   simp only [Bool.false_and, Bool.true_and]
   try (first | rw [decide_eq_true (show 0 ≤ p by omega)] | rw [decide_eq_false (show ¬ 0 ≤ p by omega)])
   try (first | rw [decide_eq_true (show p ≤ 99 by omega)] | rw [decide_eq_false (show ¬ p ≤ 99 by omega)])
   try rfl
theorem join_any (a : ByteArray) (l : List UInt8) : a ++ ⟨l.toArray⟩ = ⟨(a.data.toList ++ l).toArray⟩ := by
 apply WideShapes.bytes_inj
 simp
theorem fin_text {T S : ByteArray} {tw : Bool} {cn : Int} {TL : List UInt8} (hT : T = ⟨(twiceL tw ++ (countL cn ++ TL)).toArray⟩) (hS : S = ⟨TL.toArray⟩) :
    (cn = 1 → tw = false → T = S) ∧ (cn = 1 → tw = true → T = ⟨#[98, 105, 115, 32]⟩ ++ S) ∧ (cn = 2 → tw = false → T = ⟨#[112, 114, 105, 100, 32]⟩ ++ S) ∧ (cn = 2 → tw = true → T = ⟨#[98, 105, 115, 32]⟩ ++ (⟨#[112, 114, 105, 100, 32]⟩ ++ S)) ∧
    (2 < cn → tw = false → T = putRoman cn ++ ⟨#[32]⟩ ++ S) ∧ (2 < cn → tw = true → T = ⟨#[98, 105, 115, 32]⟩ ++ (putRoman cn ++ ⟨#[32]⟩ ++ S)) := by
  subst hS
  refine ⟨?_, ?_, ?_, ?_, ?_, ?_⟩
  · rintro rfl rfl
    rw [hT]
    rfl
  · rintro rfl rfl
    rw [hT, join_any]
    rfl
  · rintro rfl rfl
    rw [hT, join_any]
    rfl
  · rintro rfl rfl
    rw [hT, join_any, join_any]
    rfl
  · rintro h rfl
    have hc : countL cn = (putRoman cn).data.toList ++ [32] := by unfold countL; rw [if_neg (by omega), if_neg (by omega)]
    rw [hT, hc]
    apply WideShapes.bytes_inj
    simp [twiceL]
  · rintro h rfl
    have hc : countL cn = (putRoman cn).data.toList ++ [32] := by unfold countL; rw [if_neg (by omega), if_neg (by omega)]
    rw [hT, hc]
    apply WideShapes.bytes_inj
    simp [twiceL]
theorem specRomanText (r : Rom) (w : World) : CR 147 #[romV r] w (.string (romanText r)) := by
 have KI := specIs r
 have hT := text_no (r := r)
 have hP := text_parts (r := r)
 have hF := romB_facts (r := r)
 obtain ⟨cn, mk, mo, tw⟩ := r
 obtain ⟨W0, hW0, c0, c1, c2, c3, hBl⟩ := rom_box w cn mk mo tw
 have HW0 := hideP hW0
 have HBl := hideP hBl
 clear hW0 hBl
 generalize romanText ⟨cn, mk, mo, tw⟩ = T at *
 generalize romB ⟨cn, mk, mo, tw⟩ = B at *
 cases B
 · have HT := hideP (hT rfl)
   clear hT hP hF
   go_enter Tryz.func147, Tryz.ntmps147
   go_wp2_with fail
   rw [← HW0.out]
   refine latO (KI _) fun x1 => ?_
   go_wp2
   go_ret
   exact ⟨ret_str HT.out.symm, HBl.out x1⟩
 have HP := hideP (hP rfl)
 obtain ⟨hc1, hc2, hm1, hm2, hmk⟩ := hF rfl
 dsimp only at hc1 hc2 hm1 hm2 hmk
 obtain ⟨k, rfl⟩ := Int.eq_ofNat_of_zero_le (show 0 ≤ mk by omega)
 have hk : k < 3 := by omega
 have hrow : (#[Value.string ⟨#[107, 97, 108]⟩, .string ⟨#[110, 111, 110]⟩, .string ⟨#[105, 100]⟩] : Array Value)[k]? = some (.string ⟨(markL k).toArray⟩) := by
  have : k = 0 ∨ k = 1 ∨ k = 2 := by omega
  rcases this with rfl | rfl | rfl <;> rfl
 have hrow2 : ([Value.string ⟨#[107, 97, 108]⟩, .string ⟨#[110, 111, 110]⟩, .string ⟨#[105, 100]⟩] : List Value)[k]'(by simpa using hk) = .string ⟨(markL k).toArray⟩ := by
  have : k = 0 ∨ k = 1 ∨ k = 2 := by omega
  rcases this with rfl | rfl | rfl <;> rfl
 have hks : (⟨(markL k).toArray⟩ : ByteArray).size ≤ 3 := by
  have : k = 0 ∨ k = 1 ∨ k = 2 := by omega
  rcases this with rfl | rfl | rfl <;> decide
 generalize hmb : (⟨(markL k).toArray⟩ : ByteArray) = KB at *
 have HMB := hideP hmb
 clear hmk hmb
 have KM := fun W => specMonth mo W hm1 hm2
 have hms := month_size hm1 hm2
 clear hT hP hF
 generalize hmt : monthText mo = M at *
 have HMT := hideP hmt
 clear hmt
 go_enter Tryz.func147, Tryz.ntmps147
 go_wp2_with fail
 rw [← HW0.out]
 refine latO (KI _) fun x1 => ?_
 go_upto_region 3 with fail
 obtain ⟨S, hS⟩ : ∃ S : ByteArray, S = KB ++ ⟨#[32]⟩ ++ M := ⟨_, rfl⟩
 go_cut [3] (fun s wx => s = .string S ∧ ∃ x : Later W0, wx = x.w)
 case first =>
  have L1 : ∀ o, ∃ y : Later W0, x1.w.alloc o = y.w := fun o => ⟨⟨_, x1.below.alloc x1.below.size o⟩, rfl⟩
  have L2 : ∀ o o', ∃ y : Later W0, (x1.w.alloc o).alloc o' = y.w := fun o o' => ⟨⟨_, (x1.below.alloc x1.below.size o).alloc (x1.below.alloc x1.below.size o).size o'⟩, rfl⟩
  have s1 := c1 x1
  have s2 := c2 x1
  have s11 : ∀ o, (x1.w.alloc o).cell? ⟨w.heap.size, 1, none⟩ = some (.int .i64 (k : Int)) := fun o => by obtain ⟨y, hy⟩ := L1 o; rw [hy]; exact c1 y
  have s12 : ∀ o, (x1.w.alloc o).cell? ⟨w.heap.size, 2, none⟩ = some (.int .i64 mo) := fun o => by obtain ⟨y, hy⟩ := L1 o; rw [hy]; exact c2 y
  have s21 : ∀ o o', ((x1.w.alloc o).alloc o').cell? ⟨w.heap.size, 1, none⟩ = some (.int .i64 (k : Int)) := fun o o' => by obtain ⟨y, hy⟩ := L2 o o'; rw [hy]; exact c1 y
  have HL1 := hideP L1
  have HL2 := hideP L2
  have HS := hideP hS
  clear L1 L2 c0 c1 c2 c3 hS
  go_region_with (go_at_call 151; refine (KM _).mono ?_; rintro e w' ⟨rfl, hw'⟩; subst hw')
  all_goals go_wp2_with fail
  all_goals go_meet
  all_goals exact ⟨by rw [HS.out], by first | (obtain ⟨y, hy⟩ := HL2.out _ _; exact ⟨⟨_, (hy ▸ y.below : Below W0.heap.size W0 _).drew⟩, rfl⟩) | exact ⟨⟨_, (Below.drew (by obtain ⟨y, hy⟩ := HL2.out _ _; rw [hy]; exact y.below))⟩, rfl⟩⟩
 case rest =>
  obtain ⟨rfl, x2, rfl⟩ := hcut
  have hSs : S.size ≤ 7 := by rw [hS, ByteArray.size_append, ByteArray.size_append]; show KB.size + 1 + M.size ≤ 7; omega
  have hSL : S = ⟨(markL k ++ (32 :: M.data.toList)).toArray⟩ := by
   rw [hS, ← HMB.out]
   apply WideShapes.bytes_inj
   simp
  obtain ⟨F1, F2, F3, F4, F5, F6⟩ := fin_text HP.out hSL
  have G1 := hideP F1
  have G2 := hideP F2
  have G3 := hideP F3
  have G4 := hideP F4
  have G5 := hideP F5
  have G6 := hideP F6
  have s0 := c0 x2
  have s3 := c3 x2
  have KP := specPutRoman cn
  have hps := (roman_good cn).2
  clear hS hSL F1 F2 F3 F4 F5 F6 HP HMB HMT hrow hrow2 c0 c1 c2 c3 KM KI hks hms
  generalize putRoman cn = PR at *
  by_cases e1 : cn = 1
  · have g2 : (cn == 2) = false := by simp [e1]
    have g3 : decide (2 < cn) = false := by simp [e1]
    cases tw
    · have HF := hideP (G1.out e1 rfl)
      clear e1 G1 G2 G3 G4 G5 G6 KP
      go_wp2
      go_ret
      exact ⟨ret_str HF.out.symm, HBl.out x2⟩
    · have HF := hideP (G2.out e1 rfl)
      clear e1 G1 G2 G3 G4 G5 G6 KP
      go_wp2
      go_ret
      exact ⟨ret_str HF.out.symm, HBl.out x2⟩
  by_cases e2 : cn = 2
  · have g2 : (cn == 2) = true := by simp [e2]
    have hs5 : ((⟨#[112, 114, 105, 100, 32]⟩ : ByteArray) ++ S).size ≤ 12 := by rw [ByteArray.size_append]; show 5 + S.size ≤ 12; omega
    cases tw
    · have HF := hideP (G3.out e2 rfl)
      clear e1 e2 G1 G2 G3 G4 G5 G6 KP
      go_wp2
      go_ret
      exact ⟨ret_str HF.out.symm, HBl.out x2⟩
    · have HF := hideP (G4.out e2 rfl)
      clear e1 e2 G1 G2 G3 G4 G5 G6 KP
      go_wp2
      go_ret
      exact ⟨ret_str HF.out.symm, HBl.out x2⟩
  have g2 : (cn == 2) = false := by simp [e2]
  have e3 : 2 < cn := by omega
  have g3 : decide (2 < cn) = true := decide_eq_true e3
  have hs5 : (PR ++ (⟨#[32]⟩ : ByteArray)).size ≤ 16 := by rw [ByteArray.size_append]; show PR.size + 1 ≤ 16; omega
  have hs6 : (PR ++ (⟨#[32]⟩ : ByteArray) ++ S).size ≤ 23 := by rw [ByteArray.size_append]; omega
  cases tw
  · have HF := hideP (G5.out e3 rfl)
    clear e1 e2 G1 G2 G3 G4 G5 G6
    go_wp2_with fail
    refine (KP _).mono ?_
    rintro e w3 ⟨rfl, hw3⟩
    rw [hw3]
    clear hw3 w3
    go_wp2
    go_ret
    exact ⟨ret_str HF.out.symm, HBl.out x2⟩
  · have HF := hideP (G6.out e3 rfl)
    clear e1 e2 G1 G2 G3 G4 G5 G6
    go_wp2_with fail
    refine (KP _).mono ?_
    rintro e w3 ⟨rfl, hw3⟩
    rw [hw3]
    clear hw3 w3
    go_wp2
    go_ret
    exact ⟨ret_str HF.out.symm, HBl.out x2⟩
end Go.Proofs.YtpclaceefapppaaGreatDoor.ctr
