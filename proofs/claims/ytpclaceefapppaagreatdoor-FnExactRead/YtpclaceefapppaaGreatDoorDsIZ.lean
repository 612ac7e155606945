/- The program's DaysSaid: the days that a saying can mean, ascending, in a row of its own. -/
import Derived.Test.YtpclaceefapppaaGreatDoorJnZad
import Derived.Test.YtpclaceefapppaaGreatDoorJnZbq
import Derived.Test.YtpclaceefapppaaGreatDoorJnZau
import Derived.Test.YtpclaceefapppaaGreatDoorJnZbm
import Derived.Test.YtpclaceefapppaaGreatDoorShelfZ
import Derived.Shelf.Abstract
import Derived.Sort.Row
set_option maxRecDepth 100000
set_option maxHeartbeats 8000000
namespace Go.Proofs.YtpclaceefapppaaGreatDoor.ctr
open Go.RowKit
set_option linter.unusedSimpArgs false
section
variable {P : Program} {ops : Array Oper} {Q : Exit → Act → World → Prop}
theorem op_of {i : Nat} {o : Oper} {K : Act → World → Prop} {a : Act} {w : World} (hi : ops[i]? = some o) (hw : Region.wanted o (yielded ops a.tmps) = true) (h : Oper.wp P o a w K Q) : wpOp P ops Q i K a w := by
 unfold wpOp
 simp only [hi, hw, if_true]
 exact Or.inl h
theorem run_append_nilr (w : World) (t ty e : TypeId) (i : TypeInfo) (ht : P.underlying t = some (.slice e)) (hi : P.info? e = some i) {base size : Nat} {v : Value} {n c : Nat} {xs : List Value} (h : w.ownsRow base e size v n xs) : (Builtin.append_ #[t, t] ty #[v, .slice none 0 c]).run P w = .ok v w := by
 rcases h.2 with ⟨rfl, h0⟩ | ⟨g, cap, cur, rfl, hb, hh, hcap, _⟩
 · simp [Builtin.append_, run_underlying ht, sizeOf, typeInfo, hi, Builtin.lenOf, Builtin.firstCells]
 · simp [Builtin.append_, run_underlying ht, sizeOf, typeInfo, hi, Builtin.lenOf, hcap, Builtin.firstCells, storeCells]
theorem op_append {i : Nat} {o : Oper} {K : Act → World → Prop} {a : Act} {w : World} (hi : ops[i]? = some o) (hw : Region.wanted o (yielded ops a.tmps) = true) (s x : Operand) (t : TypeId) (ho : o.op = .call { callee := .builtin .append, args := #[s, x], argTypes := #[t, t] })
    (base : Nat) (e : TypeId) (ti : TypeInfo) (z : Value) (size bytes : Nat) (ht : P.underlying t = some (.slice e)) (hti : P.info? e = some ti) (hz : ti.zero = some z)
    (hsize : ti.size = size) (hby : ti.bytes = bytes) (hzs : z.cells.size = size) (hsz : 0 < size)
    (v : Value) (n : Nat) (xs : List Value) (hs : a.eval s = v) (hown : w.ownsRow base e size v n xs)
    (ad : Option Addr) (m c : Nat) (news : List Value) (hx : a.eval x = .slice ad m c) (hl : news.length = m * size) (hm : ad = none → m = 0) (hnews : ∀ ad', ad = some ad' → ∀ j u, news[j]? = some u → w.cell? (ad'.add j) = some u) (h1 : ∀ u ∈ news, u.oneCell' = true)
    (h63 : n + m ≤ maxLen) (hbytes : (n + m) * bytes ≤ 140737488355328) (hbase : base ≤ w.heap.size)
    (h : ∀ v' w', w'.ownsRow base e size v' (n + m) (xs ++ news) → w.grownBy w' v.ownBlock → K (a.put o.dst v') w') : wpOp P ops Q i K a w := by
  refine op_of hi hw ?_
  cases ad with
  | none =>
   obtain rfl := hm rfl
   obtain rfl : news = [] := List.eq_nil_of_length_eq_zero (by simpa using hl)
   unfold Oper.wp execOp
   simp only [ho, resolve, invoke, builtin, Sem.run_bind, Sem.run_pure, Result.andThen_ok, List.map_toArray, List.map_cons, List.map_nil, hs, hx, run_append_nilr w t o.type e ti ht hti hown]
   refine h _ _ (by rw [Nat.add_zero, List.append_nil]; exact hown) ?_
   exact ⟨rfl, rfl, rfl, Nat.le_refl _, fun _ _ _ => rfl⟩
  | some ad => exact wp_append_own w s x t ho base e ti z size bytes ht hti hz hsize hby hzs hsz v n xs hs hown ad m c news hx hl (hnews ad rfl) h1 h63 hbytes hbase fun v' w' h2 h3 _ => h v' w' h2 h3
end
theorem own_reads {W : World} {base size n : Nat} {T : TypeId} {v : Value} {xs : List Value} (h : W.ownsRow base T size v n xs) : ∃ ad c, v = .slice ad n c ∧ (ad = none → n = 0) ∧ ∀ ad', ad = some ad' → ∀ j u, xs[j]? = some u → W.cell? (ad'.add j) = some u := by
 rcases h.2 with ⟨rfl, h0⟩ | ⟨g, cap, cur, rfl, _⟩
 · exact ⟨none, 0, by rw [h0], fun _ => h0, fun _ e => by cases e⟩
 · exact ⟨_, cap, rfl, (fun e => by cases e), (fun ad' e j u hj => by cases e; exact h.cells (g := g) rfl j u hj)⟩
theorem cloSaid (p1 p2 : Nat) (v1 v2 v3 : Value) (r : Rgm) (k m d a b c : Int) (t : Bool) (f : ByteArray) (p y so ca : Int) (n : Int) (w : World)
    (h : GRow w (.agg #[.string r.name, .int .i64 r.fr, .int .i64 r.to, v1, v2, v3, .int .i64 r.rule]) r) (hr : regimeB r = true) (h1 : r.fr ≤ n) (h2 : n ≤ r.to) (hs : sayB ⟨⟨k, m, d, ⟨a, b, c, t⟩, f, p⟩, y, so, ca⟩ = true) (hT : Tab w) (hP : Blk w p1 #[.string r.name, .int .i64 r.fr, .int .i64 r.to, v1, v2, v3, .int .i64 r.rule] 35) (hQ : Blk w p2 #[.int .i64 k, .int .i64 m, .int .i64 d, .int .i64 a, .int .i64 b, .int .i64 c, .bool t, .string f, .int .i64 p, .int .i64 y, .int .i64 so, .int .i64 ca] 58) :
    CR 82 #[.int .i64 n, .pointer (some ⟨p1, 0, none⟩), .pointer (some ⟨p2, 0, none⟩)] w (.bool (!saidB r ⟨⟨k, m, d, ⟨a, b, c, t⟩, f, p⟩, y, so, ca⟩ n)) := by
  have K1 : ∀ x : Later w, CR 84 #[.agg #[.string r.name, .int .i64 r.fr, .int .i64 r.to, v1, v2, v3, .int .i64 r.rule], .int .i64 n] x.w (rdgV (rdgOn r n)) := fun x => implReadingOn _ r n x.w (h.below x.below) hr h1 h2 (hT.later x.below)
  have K2 : ∀ x : Later w, CR 83 #[.agg #[.string r.name, .int .i64 r.fr, .int .i64 r.to, v1, v2, v3, .int .i64 r.rule], .agg #[.int .i64 k, .int .i64 m, .int .i64 d, .int .i64 a, .int .i64 b, .int .i64 c, .bool t, .string f, .int .i64 p, .int .i64 y, .int .i64 so, .int .i64 ca], .int .i64 n, rdgV (rdgOn r n)] x.w (.bool (saidB r ⟨⟨k, m, d, ⟨a, b, c, t⟩, f, p⟩, y, so, ca⟩ n)) := fun x => implIsSaid _ r ⟨⟨k, m, d, ⟨a, b, c, t⟩, f, p⟩, y, so, ca⟩ n x.w (h.below x.below) hr h1 h2 hs (hT.later x.below)
  obtain ⟨r0, r1, r2, r3, r4, r5, r6⟩ := cells7 hP.later
  obtain ⟨s0, s1, s2, s3, s4, s5, s6, s7, s8, s9, s10, s11⟩ := cells12 hQ.later
  clear h hr h1 h2 hs hT hP hQ
  generalize saidB r ⟨⟨k, m, d, ⟨a, b, c, t⟩, f, p⟩, y, so, ca⟩ n = R at *
  generalize rdgOn r n = x at *
  obtain ⟨xc, xy, xs, xm, xd⟩ := x
  go_enter Tryz.func82, Tryz.ntmps82
  go_wp2_with fail
  refine wp_region_later (W := w) (Below.refl _ _) (by kernel_rfl) (by kernel_rfl) ?_
  repeat (go_big_quiet_step (first | (go_at_call 84; exact calls_later (K1 _)) | (go_at_call 83; exact calls_later (K2 _)) | fail))
  refine quietE fun x1 => ?_
  go_wp2
  go_ret
  exact ⟨rfl, x1.below⟩
theorem delNone (C : Value) (cap : Nat) (w : World) : CS 47 #[.slice none 0 cap, C] w (.slice none 0 cap) := by
 have KX : CS 95 #[.slice none 0 cap, C] w (.int .i64 (-1)) := by
  go_enter Tryz.func95, Tryz.ntmps95
  go_wp2_with fail
  go_loopw [5, 8] (fun _ i wr => i = .int .i64 0 ∧ wr = w) (fun _ _ _ => 0)
  case atStart => exact ⟨rfl, rfl⟩
  case round =>
   obtain ⟨rfl, rfl⟩ := hrel
   go_wp2
   go_ret
   exact ⟨rfl, rfl⟩
 go_enter Tryz.func47, Tryz.ntmps47
 go_wp2_with fail
 refine sameC KX ?_
 go_wp2
 go_ret
 exact ⟨rfl, rfl⟩
theorem implDaysSaid (v : Value) (r : Rgm) (s : Say) (q : Addr) (w : World) (h : GRow w v r) (ht : r.to ≤ 9223372036854775807) (hE : ErrT w) (hT : Tab w) (hS : Sent w q) : Calls Tryz.prog 36 #[v, sayV s] w fun e w' => ∃ o, e = .returned o ∧ MovRow w w' o (daysSaid r s) ∧ Below w.heap.size w w' := by
 obtain ⟨i0, hi, hz0, hz1, hz2⟩ := info_parts info_int
 have hG := h
 obtain ⟨v1, v2, v3, rfl, _⟩ := h
 obtain ⟨⟨k, m, d, ⟨a, b, c, t⟩, f, p⟩, y, so, ca⟩ := s
 obtain ⟨W0, hW0, hD, hR, hBl⟩ := two_box w #[.string r.name, .int .i64 r.fr, .int .i64 r.to, v1, v2, v3, .int .i64 r.rule] #[.int .i64 k, .int .i64 m, .int .i64 d, .int .i64 a, .int .i64 b, .int .i64 c, .bool t, .string f, .int .i64 p, .int .i64 y, .int .i64 so, .int .i64 ca] 35 58
 obtain ⟨cr0, cr1, cr2, cr3, cr4, cr5, cr6⟩ := cells7 hD
 obtain ⟨cs0, cs1, cs2, cs3, cs4, cs5, cs6, cs7, cs8, cs9, cs10, cs11⟩ := cells12 hR
 have KO : ∀ x : Later W0, CR 35 #[.agg #[.string r.name, .int .i64 r.fr, .int .i64 r.to, v1, v2, v3, .int .i64 r.rule]] x.w (.bool (regimeB r)) := fun x => implRegimeOk _ r q x.w (hG.below (hBl x)) ht (hE.below (hBl x)) (hT.later (hBl x)) (hS.later (hBl x))
 have KY : ∀ x : Later W0, CR 79 #[.agg #[.int .i64 k, .int .i64 m, .int .i64 d, .int .i64 a, .int .i64 b, .int .i64 c, .bool t, .string f, .int .i64 p, .int .i64 y, .int .i64 so, .int .i64 ca]] x.w (.bool (sayB ⟨⟨k, m, d, ⟨a, b, c, t⟩, f, p⟩, y, so, ca⟩)) := fun x => implSayingOk ⟨⟨k, m, d, ⟨a, b, c, t⟩, f, p⟩, y, so, ca⟩ x.w (hT.later (hBl x))
 have HW0 := hideP hW0
 have HBl := hideP hBl
 have HB0 : Hid (Below w.heap.size w W0) := hBl ⟨W0, Below.refl _ _⟩
 by_cases hO : regimeB r = true
 case neg =>
  have hO' : regimeB r = false := by simpa using hO
  rw [show daysSaid r ⟨⟨k, m, d, ⟨a, b, c, t⟩, f, p⟩, y, so, ca⟩ = [] by unfold daysSaid; rw [if_neg (fun q => hO q.1)]]
  rw [hO'] at KO
  clear KY hO hO' hD hR hBl hG hE hT hS ht hW0
  go_enter Tryz.func36, Tryz.ntmps36
  go_wp2_with fail
  rw [← HW0.out]
  refine latO (KO ⟨W0, Below.refl _ _⟩) fun x1 => ?_
  go_wp2
  go_ret
  exact ⟨_, rfl, movRow_nil _ _, HBl.out x1⟩
 by_cases hY : sayB ⟨⟨k, m, d, ⟨a, b, c, t⟩, f, p⟩, y, so, ca⟩ = true
 case neg =>
  have hY' : sayB ⟨⟨k, m, d, ⟨a, b, c, t⟩, f, p⟩, y, so, ca⟩ = false := by simpa using hY
  rw [show daysSaid r ⟨⟨k, m, d, ⟨a, b, c, t⟩, f, p⟩, y, so, ca⟩ = [] by unfold daysSaid; rw [if_neg (fun q => hY q.2)]]
  rw [hO] at KO
  rw [hY'] at KY
  clear hO hY hY' hD hR hBl hG hE hT hS ht hW0
  go_enter Tryz.func36, Tryz.ntmps36
  go_wp2_with fail
  rw [← HW0.out]
  refine latO (KO ⟨W0, Below.refl _ _⟩) fun x1 => ?_
  go_wp2_with fail
  refine lat (KY x1) fun x2 => ?_
  go_wp2
  go_ret
  exact ⟨_, rfl, movRow_nil _ _, HBl.out x2⟩
 have KW : Hid (∀ W, Below W0.heap.size W0 W → Calls Tryz.prog 80 #[.agg #[.string r.name, .int .i64 r.fr, .int .i64 r.to, v1, v2, v3, .int .i64 r.rule], .agg #[.int .i64 k, .int .i64 m, .int .i64 d, .int .i64 a, .int .i64 b, .int .i64 c, .bool t, .string f, .int .i64 p, .int .i64 y, .int .i64 so, .int .i64 ca]] W fun e w' => ∃ o, e = .returned o ∧ ∃ xs, ISt W o xs w' ∧ WD r ⟨⟨k, m, d, ⟨a, b, c, t⟩, f, p⟩, y, so, ca⟩ r.segs.length 0 xs) := fun W hb => implWhenDays _ r ⟨⟨k, m, d, ⟨a, b, c, t⟩, f, p⟩, y, so, ca⟩ W (hG.below (hBl ⟨W, hb⟩)) hO hY (hT.later (hBl ⟨W, hb⟩))
 have hpl := right_pats hO
 have hsl := right_segs hO
 have KP : Hid (∀ W, Below W0.heap.size W0 W → Calls Tryz.prog 81 #[.agg #[.string r.name, .int .i64 r.fr, .int .i64 r.to, v1, v2, v3, .int .i64 r.rule]] W fun e w' => ∃ o, e = .returned o ∧ ISt W o (r.pats.map Pat.day) w') := fun W hb => implPatched _ r W (hG.below (hBl ⟨W, hb⟩)) hpl
 have KC : Hid (∀ V n, Below W0.heap.size W0 V → r.fr ≤ n → n ≤ r.to → CR 82 #[.int .i64 n, .pointer (some ⟨w.heap.size, 0, none⟩), .pointer (some ⟨w.heap.size + 1, 0, none⟩)] V (.bool (!saidB r ⟨⟨k, m, d, ⟨a, b, c, t⟩, f, p⟩, y, so, ca⟩ n))) := fun V n hb h1 h2 => cloSaid w.heap.size (w.heap.size + 1) v1 v2 v3 r k m d a b c t f p y so ca n V (hG.below (hBl ⟨V, hb⟩)) hO h1 h2 hY (hT.later (hBl ⟨V, hb⟩)) (hD ⟨V, hb⟩) (hR ⟨V, hb⟩)
 have HF : Hid (∀ xs, WD r ⟨⟨k, m, d, ⟨a, b, c, t⟩, f, p⟩, y, so, ca⟩ r.segs.length 0 xs → Lib.compact (((xs ++ r.pats.map Pat.day).filter (saidB r ⟨⟨k, m, d, ⟨a, b, c, t⟩, f, p⟩, y, so, ca⟩)).mergeSort (fun x y => decide (x ≤ y))) = daysSaid r ⟨⟨k, m, d, ⟨a, b, c, t⟩, f, p⟩, y, so, ca⟩) := fun xs h => days_final hO hY h
 have HIn : Hid (∀ xs, WD r ⟨⟨k, m, d, ⟨a, b, c, t⟩, f, p⟩, y, so, ca⟩ r.segs.length 0 xs → ∀ z, z ∈ xs ++ r.pats.map Pat.day → r.fr ≤ z ∧ z ≤ r.to) := fun xs h z hz => by
  rcases List.mem_append.1 hz with q | q
  · exact wd_in hO h q
  · exact pat_days hO q
 have HLn : Hid (∀ xs, WD r ⟨⟨k, m, d, ⟨a, b, c, t⟩, f, p⟩, y, so, ca⟩ r.segs.length 0 xs → xs.length ≤ 60) := fun xs h => by have := h.2.2; omega
 have hpd : (r.pats.map Pat.day).length = r.pats.length := List.length_map ..
 rw [hO] at KO
 rw [hY] at KY
 have KE : Hid (∀ V, Below W0.heap.size W0 V → V.cell? ⟨w.heap.size, 0, none⟩ = some (.string r.name) ∧ V.cell? ⟨w.heap.size, 1, none⟩ = some (.int .i64 r.fr) ∧ V.cell? ⟨w.heap.size, 2, none⟩ = some (.int .i64 r.to) ∧ V.cell? ⟨w.heap.size, 3, none⟩ = some (v1) ∧ V.cell? ⟨w.heap.size, 4, none⟩ = some (v2) ∧ V.cell? ⟨w.heap.size, 5, none⟩ = some (v3) ∧ V.cell? ⟨w.heap.size, 6, none⟩ = some (.int .i64 r.rule) ∧ V.cell? ⟨w.heap.size + 1, 0, none⟩ = some (.int .i64 k) ∧ V.cell? ⟨w.heap.size + 1, 1, none⟩ = some (.int .i64 m) ∧ V.cell? ⟨w.heap.size + 1, 2, none⟩ = some (.int .i64 d) ∧ V.cell? ⟨w.heap.size + 1, 3, none⟩ = some (.int .i64 a) ∧ V.cell? ⟨w.heap.size + 1, 4, none⟩ = some (.int .i64 b) ∧ V.cell? ⟨w.heap.size + 1, 5, none⟩ = some (.int .i64 c) ∧ V.cell? ⟨w.heap.size + 1, 6, none⟩ = some (.bool t) ∧ V.cell? ⟨w.heap.size + 1, 7, none⟩ = some (.string f) ∧ V.cell? ⟨w.heap.size + 1, 8, none⟩ = some (.int .i64 p) ∧ V.cell? ⟨w.heap.size + 1, 9, none⟩ = some (.int .i64 y) ∧ V.cell? ⟨w.heap.size + 1, 10, none⟩ = some (.int .i64 so) ∧ V.cell? ⟨w.heap.size + 1, 11, none⟩ = some (.int .i64 ca)) := fun V hb => ⟨cr0 ⟨V, hb⟩, cr1 ⟨V, hb⟩, cr2 ⟨V, hb⟩, cr3 ⟨V, hb⟩, cr4 ⟨V, hb⟩, cr5 ⟨V, hb⟩, cr6 ⟨V, hb⟩, cs0 ⟨V, hb⟩, cs1 ⟨V, hb⟩, cs2 ⟨V, hb⟩, cs3 ⟨V, hb⟩, cs4 ⟨V, hb⟩, cs5 ⟨V, hb⟩, cs6 ⟨V, hb⟩, cs7 ⟨V, hb⟩, cs8 ⟨V, hb⟩, cs9 ⟨V, hb⟩, cs10 ⟨V, hb⟩, cs11 ⟨V, hb⟩⟩
 clear hO hY hD hR hBl hG hE hT hS ht hW0
 generalize saidB r ⟨⟨k, m, d, ⟨a, b, c, t⟩, f, p⟩, y, so, ca⟩ = sB at *
 generalize daysSaid r ⟨⟨k, m, d, ⟨a, b, c, t⟩, f, p⟩, y, so, ca⟩ = ds at *
 generalize WD r ⟨⟨k, m, d, ⟨a, b, c, t⟩, f, p⟩, y, so, ca⟩ r.segs.length 0 = wd at *
 generalize r.pats.map Pat.day = pd at *
 go_enter Tryz.func36, Tryz.ntmps36
 go_wp2_with fail
 rw [← HW0.out]
 refine latO (KO ⟨W0, Below.refl _ _⟩) fun x1 => ?_
 go_wp2_with fail
 refine lat (KY x1) fun x2 => ?_
 clear KO KY
 go_upto_region 3 with fail
 have B2 : Hid (Below W0.heap.size W0 x2.w.drew) := Below.drew x2.below
 generalize x2.w = w2 at *
 clear x2 x1 cr0 cr1 cr2 cr3 cr4 cr5 cr6 cs0 cs1 cs2 cs3 cs4 cs5 cs6 cs7 cs8 cs9 cs10 cs11
 refine wp_region_held_drew (S := (fun V => V.cell? ⟨w.heap.size, 0, none⟩ = some (.string r.name) ∧ V.cell? ⟨w.heap.size, 1, none⟩ = some (.int .i64 r.fr) ∧ V.cell? ⟨w.heap.size, 2, none⟩ = some (.int .i64 r.to) ∧ V.cell? ⟨w.heap.size, 3, none⟩ = some (v1) ∧ V.cell? ⟨w.heap.size, 4, none⟩ = some (v2) ∧ V.cell? ⟨w.heap.size, 5, none⟩ = some (v3) ∧ V.cell? ⟨w.heap.size, 6, none⟩ = some (.int .i64 r.rule) ∧ V.cell? ⟨w.heap.size + 1, 0, none⟩ = some (.int .i64 k) ∧ V.cell? ⟨w.heap.size + 1, 1, none⟩ = some (.int .i64 m) ∧ V.cell? ⟨w.heap.size + 1, 2, none⟩ = some (.int .i64 d) ∧ V.cell? ⟨w.heap.size + 1, 3, none⟩ = some (.int .i64 a) ∧ V.cell? ⟨w.heap.size + 1, 4, none⟩ = some (.int .i64 b) ∧ V.cell? ⟨w.heap.size + 1, 5, none⟩ = some (.int .i64 c) ∧ V.cell? ⟨w.heap.size + 1, 6, none⟩ = some (.bool t) ∧ V.cell? ⟨w.heap.size + 1, 7, none⟩ = some (.string f) ∧ V.cell? ⟨w.heap.size + 1, 8, none⟩ = some (.int .i64 p) ∧ V.cell? ⟨w.heap.size + 1, 9, none⟩ = some (.int .i64 y) ∧ V.cell? ⟨w.heap.size + 1, 10, none⟩ = some (.int .i64 so) ∧ V.cell? ⟨w.heap.size + 1, 11, none⟩ = some (.int .i64 ca))) (by kernel_rfl) (KE.out _ B2.out) (fun hHeld => ?_)
 refine held_take (i := 0) (d := 14) (v := ?_) rfl rfl (by kernel_rfl) (by decide +kernel) (by decide +kernel) (fun _ _ _ h => h) (by rfl) ?_ (by assumption) ?_
 rotate_left
 · intro wq hSw
   obtain ⟨q0, q1, q2, q3, q4, q5, q6, q7, q8, q9, q10, q11, q12, q13, q14, q15, q16, q17, q18⟩ := hSw
   go_simp
   (try rfl)
 simp only [Act.put, List.setIfInBounds_toArray, List.set_cons_zero, List.set_cons_succ]
 refine held_take (i := 1) (d := 15) (v := ?_) rfl rfl (by kernel_rfl) (by decide +kernel) (by decide +kernel) (fun _ _ _ h => h) (by rfl) ?_ (by assumption) ?_
 rotate_left
 · intro wq hSw
   obtain ⟨q0, q1, q2, q3, q4, q5, q6, q7, q8, q9, q10, q11, q12, q13, q14, q15, q16, q17, q18⟩ := hSw
   go_simp
   (try rfl)
 simp only [Act.put, List.setIfInBounds_toArray, List.set_cons_zero, List.set_cons_succ]
 refine held_take (i := 3) (d := 17) (v := ?_) rfl rfl (by kernel_rfl) (by decide +kernel) (by decide +kernel) (fun _ _ _ h => h) (by rfl) ?_ (by assumption) ?_
 rotate_left
 · intro wq hSw
   obtain ⟨q0, q1, q2, q3, q4, q5, q6, q7, q8, q9, q10, q11, q12, q13, q14, q15, q16, q17, q18⟩ := hSw
   go_simp
   (try rfl)
 simp only [Act.put, List.setIfInBounds_toArray, List.set_cons_zero, List.set_cons_succ]
 refine held_one (i := 2) (by decide +kernel) (op_call (args := #[.agg #[.string r.name, .int .i64 r.fr, .int .i64 r.to, v1, v2, v3, .int .i64 r.rule], .agg #[.int .i64 k, .int .i64 m, .int .i64 d, .int .i64 a, .int .i64 b, .int .i64 c, .bool t, .string f, .int .i64 p, .int .i64 y, .int .i64 so, .int .i64 ca]]) (T := fun u w' => ∃ xs, ISt w2.drew u xs w' ∧ wd xs) rfl rfl rfl (by rfl) (by simp only [List.map_toArray, List.map_cons, List.map_nil]; rfl) (enters_of Tryz.func80 (by kernel_rfl) rfl) ((KW.out _ B2.out).mono ?_) ?_)
 · rintro e V ⟨o, rfl, hx⟩
   exact ⟨o, rfl, hx⟩
 rintro u V5 ⟨xs, hS5, hwd⟩
 have S5 := hideP hS5
 have B5 : Hid (Below W0.heap.size W0 V5) := B2.out.trans (hS5.below.mono B2.out.size)
 have hS6 := KE.out V5 B5.out
 refine ⟨hS6, ?_⟩
 clear hS5 hHeld
 simp only [Act.put, List.setIfInBounds_toArray, List.set_cons_zero, List.set_cons_succ]
 refine held_one (i := 4) (by decide +kernel) (op_call (args := #[.agg #[.string r.name, .int .i64 r.fr, .int .i64 r.to, v1, v2, v3, .int .i64 r.rule]]) (T := fun u' w' => ISt V5 u' pd w') rfl rfl rfl (by rfl) (by simp only [List.map_toArray, List.map_cons, List.map_nil]; rfl) (enters_of Tryz.func81 (by kernel_rfl) rfl) ((KP.out _ B5.out).mono ?_) ?_)
 · rintro e V ⟨o, rfl, hx⟩
   exact ⟨o, rfl, hx⟩
 rintro u' V6 hS6'
 have S6 := hideP hS6'
 have B6 : Hid (Below W0.heap.size W0 V6) := B5.out.trans (hS6'.below.mono B5.out.size)
 have S56 : Hid (ISt w2.drew u xs V6) := S5.out.later hS6'.below
 obtain ⟨ad, cp, rfl, hn0, hcl⟩ := own_reads hS6'.row
 have hS7 := KE.out V6 B6.out
 refine ⟨hS7, ?_⟩
 clear hS6 hS6'
 simp only [Act.put, List.setIfInBounds_toArray, List.set_cons_zero, List.set_cons_succ]
 have hxl := HLn.out xs hwd
 refine held_one (i := 5) (by decide +kernel) (op_append rfl (by rfl) (.tmp 16) (.tmp 18) 28 rfl w2.drew.heap.size 3 i0 (.int .i64 0) 1 8 Tryz.underlying28 hi hz0 hz1 hz2 rfl (by decide) u xs.length (xs.map (Value.int .i64)) rfl S56.out.row ad pd.length cp (pd.map (Value.int .i64)) rfl (by simp) hn0 hcl (fun z hz => by obtain ⟨q, _, rfl⟩ := List.mem_map.1 hz; rfl) (by unfold maxLen; omega) (by omega) (by have := S56.out.below.size; omega) ?_)
 intro v' w9 hown hgrow
 have S9 : Hid (ISt w2.drew v' (xs ++ pd) w9) := ⟨by rw [List.length_append, List.map_append]; exact hown, S56.out.below.grown hgrow S56.out.below.size (ibase S56.out.row)⟩
 have B9 : Hid (Below W0.heap.size W0 w9) := B2.out.trans (S9.out.below.mono B2.out.size)
 have hS9 := KE.out w9 B9.out
 refine ⟨hS9, ?_⟩
 clear hS7 hcl hn0 hown hgrow S56 S6 S5
 simp only [Act.put, List.setIfInBounds_toArray, List.set_cons_zero, List.set_cons_succ]
 refine held_take (i := 6) (d := 5) (v := ?_) rfl rfl (by kernel_rfl) (by decide +kernel) (by decide +kernel) (fun _ _ _ h => h) (by rfl) ?_ (by assumption) ?_
 rotate_left
 · intro wq hSw
   obtain ⟨q0, q1, q2, q3, q4, q5, q6, q7, q8, q9, q10, q11, q12, q13, q14, q15, q16, q17, q18⟩ := hSw
   go_simp
   (try rfl)
 simp only [Act.put, List.setIfInBounds_toArray, List.set_cons_zero, List.set_cons_succ]
 refine wpAnyH_done (by kernel_rfl) ?_ _
 have hyl : (xs ++ pd).length ≤ 68 := by rw [List.length_append]; omega
 have HFx := hideP (HF.out xs hwd)
 have HIx := hideP (HIn.out xs hwd)
 have hgW : W0.heap.size ≤ w2.drew.heap.size := B2.out.size
 clear HF HIn HLn hwd hS9 KW KP B5 B6
 generalize xs ++ pd = ys at *
 rcases own_rowI S9.out.row with ⟨rfl, rfl⟩ | ⟨g, cap, rfl, hcap, hg, hRow⟩
 · have HD : Hid (ds = []) := by
    unfold Hid
    rw [← HFx.out]
    simp [Lib.compact, Lib.compactUpTo]
   clear S9 HFx
   go_wp2_with fail
   refine (delNone _ _ _).mono ?_
   rintro e w10 ⟨rfl, hw⟩
   subst hw
   go_wp2_with fail
   refine (Tryz.slices_Sort_int_none _ _ _).mono ?_
   rintro e w11 ⟨rfl, hw⟩
   subst hw
   go_wp2_with fail
   refine (Tryz.slices_Compact_int_empty _ _ _).mono ?_
   rintro e w12 ⟨rfl, hw⟩
   subst hw
   go_wp2
   go_ret
   exact ⟨_, rfl, by rw [HD.out]; exact movRow_nil _ _, HB0.out.trans (B9.out.mono HB0.out.size)⟩
 have hg0 : W0.heap.size ≤ g := Nat.le_trans hgW hg
 have KD := delSaid g cap ys (.pointer (some ⟨w.heap.size, 0, none⟩)) (.pointer (some ⟨w.heap.size + 1, 0, none⟩)) sB W0 w9 hg0 B9.out hRow (by omega) hcap (fun V x hb hx => KC.out V x hb (HIx.out x hx).1 (HIx.out x hx).2)
 have hfl : (ys.filter sB).length ≤ ys.length := List.length_filter_le ..
 clear S9 hRow KC HIx KE
 generalize ys.filter sB = fs at *
 go_wp2_with fail
 refine KD.mono ?_
 rintro e w10 ⟨rfl, hR10, hB10⟩
 have R10 := hideP hR10
 have B10 := hideP hB10
 have KSo := Tryz.slices_Sort_int g 0 cap fs w10 hR10.holds hR10.lt (by omega)
 clear KD hR10 hB10
 have hzl : (fs.mergeSort (fun x y => decide (x ≤ y))).length = fs.length := List.length_mergeSort ..
 generalize fs.mergeSort (fun x y => decide (x ≤ y)) = zs at *
 go_wp2_with fail
 refine KSo.mono ?_
 rintro e w11 ⟨rfl, n1, os, hw11⟩
 have R11 : Hid (RowI w11 g zs) := by unfold Hid; rw [hw11]; exact (R10.out.put hzl n1).grow os
 have B11 : Hid (Below W0.heap.size W0 w11) := by unfold Hid; rw [hw11]; exact below_grow (below_map (below_ahead B10.out n1) hg0 _) (by show _ ≤ (w10.heap.modify g _).size; rw [Array.size_modify]; exact B10.out.size) os
 clear hw11 KSo
 have KCo := Tryz.slices_Compact_int g 0 cap zs w11 R11.out.holds (by omega) (by omega)
 have hcl2 : (Lib.compact zs).length ≤ zs.length := by
  unfold Lib.compact Lib.compactUpTo
  rw [List.length_map]
  refine Nat.le_trans (List.length_filter_le ..) ?_
  rw [List.length_range]
  exact Nat.le_refl _
 rw [hzl] at KCo hcl2
 have HZ := hideP hzl
 clear hzl
 generalize Lib.compact zs = cs at *
 go_wp2_with fail
 refine KCo.mono ?_
 rintro e w12 ⟨rfl, n2, hw12⟩
 have R12 : Hid (RowI w12 g cs) := by
  unfold Hid
  rw [hw12]
  have q := (R11.out.put (ys := cs ++ List.replicate (fs.length - cs.length) 0) (by rw [List.length_append, List.length_replicate, HZ.out]; omega) n2).take cs.length
  rw [List.take_left'] at q
  · exact q
  · rfl
 have B12 : Hid (Below W0.heap.size W0 w12) := by unfold Hid; rw [hw12]; exact below_map (below_ahead B11.out n2) hg0 _
 clear hw12 KCo
 go_wp2
 go_ret
 exact ⟨_, rfl, by rw [← HFx.out]; exact R12.out.mov (Nat.le_trans HB0.out.size hg0), HB0.out.trans (B12.out.mono HB0.out.size)⟩
end Go.Proofs.YtpclaceefapppaaGreatDoor.ctr
