/- Both Read: the days that a text can mean in a regime, and whether it is a saying. -/
import Derived.Test.YtpclaceefapppaaGreatDoorJnZad
import Derived.Test.YtpclaceefapppaaGreatDoorDsIZ
import Derived.Test.YtpclaceefapppaaGreatDoorJnZbs
import Derived.Test.YtpclaceefapppaaGreatDoorSayRdTZ
import Derived.Test.YtpclaceefapppaaGreatDoorJnZbn
set_option maxRecDepth 100000
set_option maxHeartbeats 8000000
namespace Go.Proofs.YtpclaceefapppaaGreatDoor.ctr
open Go.RowKit
noncomputable def readOk (r : Rgm) (s : ByteArray) : Bool := (readSay s).2 && regimeB r
noncomputable def readDays (r : Rgm) (s : ByteArray) : List Int := if readOk r s = true then daysSaid r (readSay s).1 else []
theorem readDays_len (r : Rgm) (s : ByteArray) : (readDays r s).length ≤ 1090000 := by
 unfold readDays
 split
 · exact said_len _ _
 · simp
theorem MovRow.mono1 {w w0 w' : World} {v : Value} {xs : List Int} (h : MovRow w w' v xs) (hb : w0.heap.size ≤ w.heap.size) : MovRow w0 w' v xs := by
 obtain ⟨ad, cap, rfl, h | ⟨g, t, rs, rfl, hg, hB⟩⟩ := h
 · exact ⟨ad, cap, rfl, .inl h⟩
 · exact ⟨_, cap, rfl, .inr ⟨g, t, rs, rfl, Nat.le_trans hb hg, hB⟩⟩
theorem specReadDays (v : Value) (r : Rgm) (s : ByteArray) (w : World) (hs : s.size ≤ 1048576) (h : GRow w v r) (hf : -9223372036854775808 ≤ r.fr) (ht : r.to ≤ 9223372036854775807) : Calls Tryz.prog 8 #[v, .string s] w fun e w' => ∃ o, e = .returned (.tuple #[o, .bool (readOk r s)]) ∧ MovRow w w' o (readDays r s) ∧ Below w.heap.size w w' := by
 have hG := h
 obtain ⟨v1, v2, v3, rfl, _⟩ := h
 obtain ⟨W0, hW0, hD, hBl⟩ := box_any w #[.string r.name, .int .i64 r.fr, .int .i64 r.to, v1, v2, v3, .int .i64 r.rule] 35
 obtain ⟨cr0, cr1, cr2, cr3, cr4, cr5, cr6⟩ := cells7 hD
 have KR0 : ∀ W, CR 28 #[.string s] W (saidV (readSay s)) := fun W => specReadSaying s W hs
 have KO : ∀ x : Later W0, CR 29 #[.agg #[.string r.name, .int .i64 r.fr, .int .i64 r.to, v1, v2, v3, .int .i64 r.rule]] x.w (.bool (regimeB r)) := fun x => specRegimeOk _ r x.w (hG.below (hBl x)) hf ht
 have KD0 : ∀ (sy : Say) (x : Later W0), Calls Tryz.prog 30 #[.agg #[.string r.name, .int .i64 r.fr, .int .i64 r.to, v1, v2, v3, .int .i64 r.rule], sayV sy] x.w fun e w' => ∃ o, e = .returned o ∧ MovRow x.w w' o (daysSaid r sy) ∧ Below x.w.heap.size x.w w' := fun sy x => specDaysSaid _ r sy x.w (hG.below (hBl x)) hf ht
 obtain ⟨ok, hok⟩ : ∃ ok, ok = readOk r s := ⟨_, rfl⟩
 obtain ⟨ds, hds⟩ : ∃ ds, ds = readDays r s := ⟨_, rfl⟩
 rw [← hok, ← hds]
 have HOK : Hid (ok = ((readSay s).2 && regimeB r)) := hok
 have HDS : Hid (ds = if ok = true then daysSaid r (readSay s).1 else []) := by rw [hok]; exact hds
 have HW0 := hideP hW0
 have HBl := hideP hBl
 have HB0 : Hid (Below w.heap.size w W0) := hBl ⟨W0, Below.refl _ _⟩
 clear hW0 hD hBl hG hok hds hs
 generalize hq : readSay s = q4 at *
 clear hq
 obtain ⟨⟨⟨k, m, d, ⟨a, b, c, t⟩, f, p⟩, y, so, ca⟩, fine⟩ := q4
 have KR : ∀ W, CR 28 #[.string s] W (.tuple #[.agg #[.int .i64 k, .int .i64 m, .int .i64 d, .int .i64 a, .int .i64 b, .int .i64 c, .bool t, .string f, .int .i64 p, .int .i64 y, .int .i64 so, .int .i64 ca], .bool fine]) := KR0
 have KD : ∀ x : Later W0, Calls Tryz.prog 30 #[.agg #[.string r.name, .int .i64 r.fr, .int .i64 r.to, v1, v2, v3, .int .i64 r.rule], .agg #[.int .i64 k, .int .i64 m, .int .i64 d, .int .i64 a, .int .i64 b, .int .i64 c, .bool t, .string f, .int .i64 p, .int .i64 y, .int .i64 so, .int .i64 ca]] x.w fun e w' => ∃ o, e = .returned o ∧ MovRow x.w w' o (daysSaid r ⟨⟨k, m, d, ⟨a, b, c, t⟩, f, p⟩, y, so, ca⟩) ∧ Below x.w.heap.size x.w w' := KD0 ⟨⟨k, m, d, ⟨a, b, c, t⟩, f, p⟩, y, so, ca⟩
 dsimp only at HDS HOK
 clear KR0 KD0
 generalize daysSaid r ⟨⟨k, m, d, ⟨a, b, c, t⟩, f, p⟩, y, so, ca⟩ = dd at *
 generalize regimeB r = O at *
 cases fine
 · obtain rfl : ok = false := HOK.out.trans rfl
   obtain rfl : ds = [] := HDS.out.trans (by simp)
   clear HOK HDS
   go_enter Tryz.func8, Tryz.ntmps8
   go_wp2_with fail
   rw [← HW0.out]
   refine latO (KR W0) fun x1 => ?_
   clear KR
   obtain ⟨x2, hx2, Z2⟩ := x1.fresh #[.int .i64 k, .int .i64 m, .int .i64 d, .int .i64 a, .int .i64 b, .int .i64 c, .bool t, .string f, .int .i64 p, .int .i64 y, .int .i64 so, .int .i64 ca] 58
   have HX2 := hideP hx2
   clear hx2
   go_upto_region 2 with fail
   rw [HX2.out]
   clear HX2
   go_wp2
   go_returns
   exact ⟨_, rfl, ((⟨iown_empty x2.w _, (Below.refl _ _).alloc (Nat.le_refl _) _⟩ : ISt x2.w (.slice (some ⟨x2.w.heap.size, 0, none⟩) 0 0) [] (x2.w.alloc (.cells #[] 3))).done (HBl.out x2)).1, (HBl.out x2).alloc (HBl.out x2).size _⟩
 cases O
 focus
   obtain rfl : ok = false := HOK.out.trans rfl
   obtain rfl : ds = [] := HDS.out.trans (by simp)
 rotate_left
 focus
   obtain rfl : ok = true := HOK.out.trans rfl
   obtain rfl : ds = dd := HDS.out.trans (by simp)
 rotate_left
 all_goals
  clear HOK HDS
  go_enter Tryz.func8, Tryz.ntmps8
  go_wp2_with fail
  rw [← HW0.out]
  refine latO (KR W0) fun x1 => ?_
  clear KR
  obtain ⟨x2, hx2, Z2⟩ := x1.fresh #[.int .i64 k, .int .i64 m, .int .i64 d, .int .i64 a, .int .i64 b, .int .i64 c, .bool t, .string f, .int .i64 p, .int .i64 y, .int .i64 so, .int .i64 ca] 58
  have HX2 := hideP hx2
  clear hx2
  go_upto_region 2 with fail
  rw [HX2.out]
  clear HX2
  go_wp2_with fail
  refine (KO x2).mono ?_
  rintro e w3 ⟨rfl, hb⟩
  have Z3 := hideP (Z2.out.below hb Z2.out.lt)
  obtain ⟨x3, rfl⟩ := x2.next hb
  clear hb KO Z2
 · go_wp2
   go_returns
   exact ⟨_, rfl, ((⟨iown_empty x3.w _, (Below.refl _ _).alloc (Nat.le_refl _) _⟩ : ISt x3.w (.slice (some ⟨x3.w.heap.size, 0, none⟩) 0 0) [] (x3.w.alloc (.cells #[] 3))).done (HBl.out x3)).1, (HBl.out x3).alloc (HBl.out x3).size _⟩
 · have z0 : x3.w.cell? ⟨x1.w.heap.size, 0, none⟩ = some (.int .i64 k) := Z3.out.cell 0 rfl
   have z1 : x3.w.cell? ⟨x1.w.heap.size, 1, none⟩ = some (.int .i64 m) := Z3.out.cell 1 rfl
   have z2 : x3.w.cell? ⟨x1.w.heap.size, 2, none⟩ = some (.int .i64 d) := Z3.out.cell 2 rfl
   have z3 : x3.w.cell? ⟨x1.w.heap.size, 3, none⟩ = some (.int .i64 a) := Z3.out.cell 3 rfl
   have z4 : x3.w.cell? ⟨x1.w.heap.size, 4, none⟩ = some (.int .i64 b) := Z3.out.cell 4 rfl
   have z5 : x3.w.cell? ⟨x1.w.heap.size, 5, none⟩ = some (.int .i64 c) := Z3.out.cell 5 rfl
   have z6 : x3.w.cell? ⟨x1.w.heap.size, 6, none⟩ = some (.bool t) := Z3.out.cell 6 rfl
   have z7 : x3.w.cell? ⟨x1.w.heap.size, 7, none⟩ = some (.string f) := Z3.out.cell 7 rfl
   have z8 : x3.w.cell? ⟨x1.w.heap.size, 8, none⟩ = some (.int .i64 p) := Z3.out.cell 8 rfl
   have z9 : x3.w.cell? ⟨x1.w.heap.size, 9, none⟩ = some (.int .i64 y) := Z3.out.cell 9 rfl
   have z10 : x3.w.cell? ⟨x1.w.heap.size, 10, none⟩ = some (.int .i64 so) := Z3.out.cell 10 rfl
   have z11 : x3.w.cell? ⟨x1.w.heap.size, 11, none⟩ = some (.int .i64 ca) := Z3.out.cell 11 rfl
   go_wp2_with fail
   refine (KD x3).mono ?_
   rintro e w4 ⟨o, rfl, m4, hb⟩
   have M4 := hideP (m4.mono1 (HBl.out x3).size)
   obtain ⟨x4, rfl⟩ := x3.next hb
   clear hb KD m4
   go_wp2
   go_returns
   exact ⟨_, rfl, M4.out, HBl.out x4⟩
theorem implReadDays (v : Value) (r : Rgm) (s : ByteArray) (w : World) (hs : s.size ≤ 1048576) (h : GRow w v r) (q : Addr) (ht : r.to ≤ 9223372036854775807) (hE : ErrT w) (hT : Tab w) (hS : Sent w q) (hSh : Shp w) (hM : Mrk w) (hN : Mon w) (hP : PowT w) : Calls Tryz.prog 10 #[v, .string s] w fun e w' => ∃ o, e = .returned (.tuple #[o, .bool (readOk r s)]) ∧ MovRow w w' o (readDays r s) ∧ Below w.heap.size w w' := by
 have hG := h
 obtain ⟨v1, v2, v3, rfl, _⟩ := h
 obtain ⟨W0, hW0, hD, hBl⟩ := box_any w #[.string r.name, .int .i64 r.fr, .int .i64 r.to, v1, v2, v3, .int .i64 r.rule] 35
 obtain ⟨cr0, cr1, cr2, cr3, cr4, cr5, cr6⟩ := cells7 hD
 have KR0 : ∀ W, Hid (Below w.heap.size w W) → CR 34 #[.string s] W (saidV (readSay s)) := fun W hb => implReadSaying s W hs (hT.later hb.out) (Shp.later hSh hb.out) (Mrk.later hM hb.out) (Mon.later hN hb.out) (PowT.later hP hb.out)
 have KO : ∀ x : Later W0, CR 35 #[.agg #[.string r.name, .int .i64 r.fr, .int .i64 r.to, v1, v2, v3, .int .i64 r.rule]] x.w (.bool (regimeB r)) := fun x => implRegimeOk _ r q x.w (hG.below (hBl x)) ht (hE.below (hBl x)) (hT.later (hBl x)) (hS.later (hBl x))
 have KD0 : ∀ (sy : Say) (x : Later W0), Calls Tryz.prog 36 #[.agg #[.string r.name, .int .i64 r.fr, .int .i64 r.to, v1, v2, v3, .int .i64 r.rule], sayV sy] x.w fun e w' => ∃ o, e = .returned o ∧ MovRow x.w w' o (daysSaid r sy) ∧ Below x.w.heap.size x.w w' := fun sy x => implDaysSaid _ r sy q x.w (hG.below (hBl x)) ht (hE.below (hBl x)) (hT.later (hBl x)) (hS.later (hBl x))
 obtain ⟨ok, hok⟩ : ∃ ok, ok = readOk r s := ⟨_, rfl⟩
 obtain ⟨ds, hds⟩ : ∃ ds, ds = readDays r s := ⟨_, rfl⟩
 rw [← hok, ← hds]
 have HOK : Hid (ok = ((readSay s).2 && regimeB r)) := hok
 have HDS : Hid (ds = if ok = true then daysSaid r (readSay s).1 else []) := by rw [hok]; exact hds
 have HW0 := hideP hW0
 have HBl := hideP hBl
 have HB0 : Hid (Below w.heap.size w W0) := hBl ⟨W0, Below.refl _ _⟩
 clear hW0 hD hBl hG hok hds hs
 generalize hq : readSay s = q4 at *
 clear hq
 obtain ⟨⟨⟨k, m, d, ⟨a, b, c, t⟩, f, p⟩, y, so, ca⟩, fine⟩ := q4
 have KR : ∀ W, Hid (Below w.heap.size w W) → CR 34 #[.string s] W (.tuple #[.agg #[.int .i64 k, .int .i64 m, .int .i64 d, .int .i64 a, .int .i64 b, .int .i64 c, .bool t, .string f, .int .i64 p, .int .i64 y, .int .i64 so, .int .i64 ca], .bool fine]) := KR0
 have KD : ∀ x : Later W0, Calls Tryz.prog 36 #[.agg #[.string r.name, .int .i64 r.fr, .int .i64 r.to, v1, v2, v3, .int .i64 r.rule], .agg #[.int .i64 k, .int .i64 m, .int .i64 d, .int .i64 a, .int .i64 b, .int .i64 c, .bool t, .string f, .int .i64 p, .int .i64 y, .int .i64 so, .int .i64 ca]] x.w fun e w' => ∃ o, e = .returned o ∧ MovRow x.w w' o (daysSaid r ⟨⟨k, m, d, ⟨a, b, c, t⟩, f, p⟩, y, so, ca⟩) ∧ Below x.w.heap.size x.w w' := KD0 ⟨⟨k, m, d, ⟨a, b, c, t⟩, f, p⟩, y, so, ca⟩
 dsimp only at HDS HOK
 clear KR0 KD0
 generalize daysSaid r ⟨⟨k, m, d, ⟨a, b, c, t⟩, f, p⟩, y, so, ca⟩ = dd at *
 generalize regimeB r = O at *
 cases fine
 · obtain rfl : ok = false := HOK.out.trans rfl
   obtain rfl : ds = [] := HDS.out.trans (by simp)
   clear HOK HDS
   go_enter Tryz.func10, Tryz.ntmps10
   go_wp2_with fail
   rw [← HW0.out]
   refine latO (KR W0 HB0) fun x1 => ?_
   clear KR
   obtain ⟨x2, hx2, Z2⟩ := x1.fresh #[.int .i64 k, .int .i64 m, .int .i64 d, .int .i64 a, .int .i64 b, .int .i64 c, .bool t, .string f, .int .i64 p, .int .i64 y, .int .i64 so, .int .i64 ca] 58
   have HX2 := hideP hx2
   clear hx2
   go_upto_region 2 with fail
   rw [HX2.out]
   clear HX2
   go_wp2
   go_returns
   exact ⟨_, rfl, movRow_nil _ _, HBl.out x2⟩
 cases O
 focus
   obtain rfl : ok = false := HOK.out.trans rfl
   obtain rfl : ds = [] := HDS.out.trans (by simp)
 rotate_left
 focus
   obtain rfl : ok = true := HOK.out.trans rfl
   obtain rfl : ds = dd := HDS.out.trans (by simp)
 rotate_left
 all_goals
  clear HOK HDS
  go_enter Tryz.func10, Tryz.ntmps10
  go_wp2_with fail
  rw [← HW0.out]
  refine latO (KR W0 HB0) fun x1 => ?_
  clear KR
  obtain ⟨x2, hx2, Z2⟩ := x1.fresh #[.int .i64 k, .int .i64 m, .int .i64 d, .int .i64 a, .int .i64 b, .int .i64 c, .bool t, .string f, .int .i64 p, .int .i64 y, .int .i64 so, .int .i64 ca] 58
  have HX2 := hideP hx2
  clear hx2
  go_upto_region 2 with fail
  rw [HX2.out]
  clear HX2
  go_wp2_with fail
  refine (KO x2).mono ?_
  rintro e w3 ⟨rfl, hb⟩
  have Z3 := hideP (Z2.out.below hb Z2.out.lt)
  obtain ⟨x3, rfl⟩ := x2.next hb
  clear hb KO Z2
 · go_wp2
   go_returns
   exact ⟨_, rfl, movRow_nil _ _, HBl.out x3⟩
 · have z0 : x3.w.cell? ⟨x1.w.heap.size, 0, none⟩ = some (.int .i64 k) := Z3.out.cell 0 rfl
   have z1 : x3.w.cell? ⟨x1.w.heap.size, 1, none⟩ = some (.int .i64 m) := Z3.out.cell 1 rfl
   have z2 : x3.w.cell? ⟨x1.w.heap.size, 2, none⟩ = some (.int .i64 d) := Z3.out.cell 2 rfl
   have z3 : x3.w.cell? ⟨x1.w.heap.size, 3, none⟩ = some (.int .i64 a) := Z3.out.cell 3 rfl
   have z4 : x3.w.cell? ⟨x1.w.heap.size, 4, none⟩ = some (.int .i64 b) := Z3.out.cell 4 rfl
   have z5 : x3.w.cell? ⟨x1.w.heap.size, 5, none⟩ = some (.int .i64 c) := Z3.out.cell 5 rfl
   have z6 : x3.w.cell? ⟨x1.w.heap.size, 6, none⟩ = some (.bool t) := Z3.out.cell 6 rfl
   have z7 : x3.w.cell? ⟨x1.w.heap.size, 7, none⟩ = some (.string f) := Z3.out.cell 7 rfl
   have z8 : x3.w.cell? ⟨x1.w.heap.size, 8, none⟩ = some (.int .i64 p) := Z3.out.cell 8 rfl
   have z9 : x3.w.cell? ⟨x1.w.heap.size, 9, none⟩ = some (.int .i64 y) := Z3.out.cell 9 rfl
   have z10 : x3.w.cell? ⟨x1.w.heap.size, 10, none⟩ = some (.int .i64 so) := Z3.out.cell 10 rfl
   have z11 : x3.w.cell? ⟨x1.w.heap.size, 11, none⟩ = some (.int .i64 ca) := Z3.out.cell 11 rfl
   go_wp2_with fail
   refine (KD x3).mono ?_
   rintro e w4 ⟨o, rfl, m4, hb⟩
   have M4 := hideP (m4.mono1 (HBl.out x3).size)
   obtain ⟨x4, rfl⟩ := x3.next hb
   clear hb KD m4
   go_wp2
   go_returns
   exact ⟨_, rfl, M4.out, HBl.out x4⟩
end Go.Proofs.YtpclaceefapppaaGreatDoor.ctr
