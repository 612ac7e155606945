/- Contract of the model's ReadDate. -/
import Derived.Test.YtioiaefjkmgmdaaDoorRdDate
namespace Go.Proofs.YtioiaefjkmgmdaaDoor.ctr
open Go.RowKit

set_option maxRecDepth 100000 in
set_option maxHeartbeats 16000000 in
theorem specReadDate (c s : ByteArray) (w : World) (hs : s.size ≤ 1048576) : Calls Tryd.prog 9 #[.string c, .string s] w fun e w' => e = .returned (rdR c s) ∧ Below w.heap.size w w' := by
  have KS : Hid (∀ W, Below w.heap.size w W → Calls Tryd.prog 20 #[.string s, .int .u8 45] W fun e W' => ∃ (L : List ByteArray) (g cp : Nat), e = .returned (.slice (some ⟨g, 0, none⟩) L.length cp) ∧ L.length ≤ cp ∧ cp ≤ maxLen ∧ (L = cut s 45 ∨ (L.length ≠ 3 ∧ (cut s 45).length ≠ 3)) ∧ (∀ i, i < L.length → W'.cell? ⟨g, i, none⟩ = some (.string (L.getD i ⟨#[]⟩))) ∧ Below W.heap.size W W') := fun W hb => by
    refine (l01Cut s 45 W hs).mono ?_
    rintro e W' ⟨v, rfl, hr, hb'⟩
    rcases hr.2 with ⟨_, h0⟩ | ⟨g, cp, cur, rfl, _, hh, h1, h2, _, ht⟩
    · have := cut_one s 45; omega
    · refine ⟨cut s 45, g, cp, rfl, h1, h2, .inl rfl, fun i hi => ?_, hb'⟩
      refine Blk.cell (t := 9) hh i ?_
      have e1 : (cur.toList.take ((cut s 45).length * 1))[i]? = ((cut s 45).map Value.string)[i]? := by rw [ht]
      rw [List.getElem?_take, if_pos (by omega)] at e1
      simpa [List.getD, hi] using e1
  have KC : ∀ W, Calls Tryd.prog 21 #[.string c] W fun e w' => e = .returned (.int .i64 (calNo c)) ∧ w' = W := fun W => specCalOf c W
  obtain ⟨R, hR⟩ : ∃ R, R = rdR c s := ⟨_, rfl⟩
  rw [← hR]
  have HR := hideP hR
  clear hR
  have hW0 : Hid (Below w.heap.size w (w.alloc (.cells #[.int .i64 0, .int .i64 0, .int .i64 0, .int .i64 0] 25))) := (Below.refl _ _).alloc (Nat.le_refl _) _
  have hZ0 : Hid (Blk (w.alloc (.cells #[.int .i64 0, .int .i64 0, .int .i64 0, .int .i64 0] 25)) w.heap.size z4 25) := Blk.new _ _ _
  go_enter Tryd.func9, Tryd.ntmps9
  go_wp2_with fail
  refine (KS.out _ hW0.out).mono ?_
  rintro e W1 ⟨L, g, cp, rfl, hl1, hl2, hL, hcell, hb⟩
  have hB1 : Below w.heap.size w W1 := hW0.out.trans (hb.mono hW0.out.size)
  have hZ1 : Blk W1 w.heap.size z4 25 := hZ0.out.below hb hZ0.out.lt
  have B1 := hideP hB1
  have Z1 := hideP hZ1
  have HL := hideP hL
  unfold maxLen at hl2
  clear hb hW0 hZ0 KS hL
  have q0 := Z1.out.cell 0 rfl
  have q1 := Z1.out.cell 1 rfl
  have q2 := Z1.out.cell 2 rfl
  have q3 := Z1.out.cell 3 rfl
  have r0 := Z1.out.thaw 0
  have r1 := Z1.out.thaw 1
  have r2 := Z1.out.thaw 2
  have r3 := Z1.out.thaw 3
  clear hB1 hZ1
  by_cases h3 : L.length = 3
  case neg =>
    have hd : ¬ (L.length : Int) = 3 := by omega
    have HE : Hid (R = .tuple #[.agg z4, .bool false]) := by
      unfold Hid
      rw [HR.out]
      rcases HL.out with h | ⟨_, h⟩
      · exact rdR_short (by rw [← h]; exact h3)
      · exact rdR_short h
    clear hcell HL HR h3
    go_wp2_with fail
    obtain ⟨W9, e9⟩ : ∃ W9, W9 = (((W1.setCell ⟨w.heap.size, 0, none⟩ (.int .i64 0)).setCell ⟨w.heap.size, 1, none⟩ (.int .i64 0)).setCell ⟨w.heap.size, 2, none⟩ (.int .i64 0)).setCell ⟨w.heap.size, 3, none⟩ (.int .i64 0) := ⟨_, rfl⟩
    rw [← e9]
    have Z9 : Blk W9 w.heap.size z4 25 := by rw [e9]; exact (((Z1.out.set 0 _).set 1 _).set 2 _).set 3 _
    have B9 : Below w.heap.size w W9 := by rw [e9]; exact below_store (below_store (below_store (below_store B1.out _ (Nat.le_refl _)) _ (Nat.le_refl _)) _ (Nat.le_refl _)) _ (Nat.le_refl _)
    clear e9
    have z0 := Z9.cell 0 rfl
    have z1 := Z9.cell 1 rfl
    have z2 := Z9.cell 2 rfl
    have z3 := Z9.cell 3 rfl
    exact bodyPost_ret (by simp [results, Tryd.results9, go_sem, z0, z1, z2, z3]; try rfl) rfl ⟨by rw [HE.out], B9⟩
  have hLc : L = cut s 45 := by
    rcases HL.out with h | ⟨h, _⟩
    · exact h
    · exact absurd h3 h
  have hd : (L.length : Int) = 3 := by omega
  have e0 := hcell 0 (by omega)
  have e1 := hcell 1 (by omega)
  have e2 := hcell 2 (by omega)
  have z0' : ((cut s 45).getD 0 ⟨#[]⟩).size ≤ s.size := cut_short s 45 0
  have z1' : ((cut s 45).getD 1 ⟨#[]⟩).size ≤ s.size := cut_short s 45 1
  have z2' : ((cut s 45).getD 2 ⟨#[]⟩).size ≤ s.size := cut_short s 45 2
  rw [rdR_three (by rw [← hLc]; exact h3)] at HR
  unfold rdN at HR
  rw [← hLc] at HR z0' z1' z2'
  clear hcell HL hLc
  generalize L.getD 0 ⟨#[]⟩ = p0 at *
  generalize L.getD 1 ⟨#[]⟩ = p1 at *
  generalize L.getD 2 ⟨#[]⟩ = p2 at *
  have hlen : L.length = 3 := h3
  rw [hlen] at hl1
  obtain ⟨St, hSt⟩ : ∃ St : World → Prop, St = fun V => Hid (Below W1.heap.size W1 V) := ⟨_, rfl⟩
  obtain ⟨Zs, hZs⟩ : ∃ Zs : World → Nat → Prop, Zs = fun V q => Hid (Blk V q z4 25 ∧ W1.heap.size ≤ q) := ⟨_, rfl⟩
  have T1 : St W1 := by rw [hSt]; exact Below.refl _ _
  have T1d : St W1.drew := by rw [hSt]; exact (Below.refl _ _).drew
  have KA : Hid (∀ V o, St V → St (V.alloc o)) := by rw [hSt]; exact fun V o h => h.out.alloc h.out.size o
  have KZ : Hid (∀ V, St V → Zs (V.alloc (.cells #[.int .i64 0, .int .i64 0, .int .i64 0, .int .i64 0] 25)) V.heap.size) := by rw [hSt, hZs]; exact fun V h => ⟨Blk.new _ _ _, h.out.size⟩
  have KE : Hid (∀ V, St V → V.cell? ⟨g, 0, none⟩ = some (.string p0) ∧ V.cell? ⟨g, 1, none⟩ = some (.string p1) ∧ V.cell? ⟨g, 2, none⟩ = some (.string p2)) := by rw [hSt]; exact fun V h => ⟨Later.at e0 ⟨V, h.out⟩, Later.at e1 ⟨V, h.out⟩, Later.at e2 ⟨V, h.out⟩⟩
  have HB : Hid (∀ V, St V → Below w.heap.size w V) := by rw [hSt]; exact fun V h => B1.out.trans (h.out.mono B1.out.size)
  have HZ : Hid (∀ V, St V → Blk V w.heap.size z4 25) := by rw [hSt]; exact fun V h => Z1.out.below h.out Z1.out.lt
  have HQ : Hid (∀ V V', St V → Below V.heap.size V V' → St V' ∧ Hid (∀ q, Zs V q → Zs V' q)) := by
    rw [hSt, hZs]
    exact fun V V' h hb => ⟨h.out.trans (hb.mono h.out.size), fun q hq => ⟨hq.out.1.below hb hq.out.1.lt, hq.out.2⟩⟩
  have hlt1 : Hid (w.heap.size < W1.heap.size) := Z1.out.lt
  have hgl : Hid (g < W1.heap.size) := World.block_lt_of_cell? W1 ⟨g, 0, none⟩ e0
  have HZs : Hid (∀ V q, Zs V q → Blk V q z4 25 ∧ W1.heap.size ≤ q) := by rw [hZs]; exact fun V q h => h.out
  have hpz0 := z0'
  have hpz1 := z1'
  have hpz2 := z2'
  have K0 : Hid (∀ V, St V → Calls Tryd.prog 22 #[.string p0] V fun e V' => e = .returned (.int .i64 (readDec p0)) ∧ Below V.heap.size V V') := fun V h => (specReadDec p0 V (by have := hpz0; unfold maxLen; omega)).mono fun e V' q => ⟨q.1, by rw [q.2]; exact Below.refl _ _⟩
  have K1 : Hid (∀ V, St V → Calls Tryd.prog 22 #[.string p1] V fun e V' => e = .returned (.int .i64 (readDec p1)) ∧ Below V.heap.size V V') := fun V h => (specReadDec p1 V (by have := hpz1; unfold maxLen; omega)).mono fun e V' q => ⟨q.1, by rw [q.2]; exact Below.refl _ _⟩
  have K2 : Hid (∀ V, St V → Calls Tryd.prog 22 #[.string p2] V fun e V' => e = .returned (.int .i64 (readDec p2)) ∧ Below V.heap.size V V') := fun V h => (specReadDec p2 V (by have := hpz2; unfold maxLen; omega)).mono fun e V' q => ⟨q.1, by rw [q.2]; exact Below.refl _ _⟩
  generalize readDec p0 = y at *
  generalize readDec p1 = m at *
  generalize readDec p2 = d at *
  generalize calNo c = cn at *
  have KO : Hid (∀ V, Below w.heap.size w V → Calls Tryd.prog 14 #[.agg #[.int .i64 cn, .int .i64 y, .int .i64 m, .int .i64 d]] V fun e w' => e = .returned (.bool (dateOk cn y m d)) ∧ Below V.heap.size V w') := fun V hb => specDateOk cn y m d V
  generalize dateOk cn y m d = ok at *
  have KF : Hid (∀ V q, St V → Zs V q → (Hid (Blk ((((V.setCell ⟨q, 0, none⟩ (.int .i64 cn)).setCell ⟨q, 1, none⟩ (.int .i64 y)).setCell ⟨q, 2, none⟩ (.int .i64 m)).setCell ⟨q, 3, none⟩ (.int .i64 d)) q #[.int .i64 cn, .int .i64 y, .int .i64 m, .int .i64 d] 25) ∧ Hid (Blk ((((V.setCell ⟨q, 0, none⟩ (.int .i64 cn)).setCell ⟨q, 1, none⟩ (.int .i64 y)).setCell ⟨q, 2, none⟩ (.int .i64 m)).setCell ⟨q, 3, none⟩ (.int .i64 d)) w.heap.size z4 25) ∧ Hid (Below w.heap.size w ((((V.setCell ⟨q, 0, none⟩ (.int .i64 cn)).setCell ⟨q, 1, none⟩ (.int .i64 y)).setCell ⟨q, 2, none⟩ (.int .i64 m)).setCell ⟨q, 3, none⟩ (.int .i64 d)))) ∧ ((((V.setCell ⟨q, 0, none⟩ (.int .i64 cn)).setCell ⟨q, 1, none⟩ (.int .i64 y)).setCell ⟨q, 2, none⟩ (.int .i64 m)).setCell ⟨q, 3, none⟩ (.int .i64 d)).cell? ⟨g, 0, none⟩ = some (.string p0) ∧ ((((V.setCell ⟨q, 0, none⟩ (.int .i64 cn)).setCell ⟨q, 1, none⟩ (.int .i64 y)).setCell ⟨q, 2, none⟩ (.int .i64 m)).setCell ⟨q, 3, none⟩ (.int .i64 d)).cell? ⟨g, 1, none⟩ = some (.string p1) ∧ ((((V.setCell ⟨q, 0, none⟩ (.int .i64 cn)).setCell ⟨q, 1, none⟩ (.int .i64 y)).setCell ⟨q, 2, none⟩ (.int .i64 m)).setCell ⟨q, 3, none⟩ (.int .i64 d)).cell? ⟨g, 2, none⟩ = some (.string p2)) := fun V q h hq => by
    obtain ⟨b1, b2⟩ := HZs.out V q hq
    obtain ⟨x0, x1, x2⟩ := KE.out V h
    have hw := hlt1.out
    have hne : q ≠ g := by
      have := hgl.out
      omega
    have far : ∀ (U : World) (j i : Nat) (v : Value), (U.setCell ⟨q, j, none⟩ v).cell? ⟨g, i, none⟩ = U.cell? ⟨g, i, none⟩ := fun U j i v => World.cell?_setCell_other U _ _ _ (by intro e; injection e with e1; exact hne e1)
    refine ⟨⟨(((b1.set 0 _).set 1 _).set 2 _).set 3 _, ((((HZ.out V h).other (by omega)).other (by omega)).other (by omega)).other (by omega), below_store (below_store (below_store (below_store (HB.out V h) _ (by omega)) _ (by omega)) _ (by omega)) _ (by omega)⟩, ?_, ?_, ?_⟩
    · rw [far, far, far, far]; exact x0
    · rw [far, far, far, far]; exact x1
    · rw [far, far, far, far]; exact x2
  have KG : Hid (∀ V, St V → Hid (Blk (V.alloc (.cells #[.int .i64 cn, .int .i64 y, .int .i64 m, .int .i64 d] 25)) V.heap.size #[.int .i64 cn, .int .i64 y, .int .i64 m, .int .i64 d] 25) ∧ Hid (Blk (V.alloc (.cells #[.int .i64 cn, .int .i64 y, .int .i64 m, .int .i64 d] 25)) w.heap.size z4 25) ∧ Hid (Below w.heap.size w (V.alloc (.cells #[.int .i64 cn, .int .i64 y, .int .i64 m, .int .i64 d] 25)))) := fun V h => ⟨Blk.new _ _ _, (HZ.out V h).alloc _, (HB.out V h).alloc (HB.out V h).size _⟩
  have T1z := KA.out _ (.cells #[.int .i64 0, .int .i64 0, .int .i64 0, .int .i64 0] 25) T1
  have T1y : St (W1.alloc (.cells #[.int .i64 0, .int .i64 0, .int .i64 0, .int .i64 0] 25)).drew := by rw [hSt] at T1z ⊢; exact T1z.drew
  have HZ1 : Zs (W1.alloc (.cells #[.int .i64 0, .int .i64 0, .int .i64 0, .int .i64 0] 25)).drew W1.heap.size := by
    have h := KZ.out W1 T1
    rw [hZs] at h ⊢
    exact h
  clear hSt hZs z0' z1' z2' hpz0 hpz1 hpz2 h3 e0 e1 e2 B1 Z1 q0 q1 q2 q3 r0 r1 r2 r3
  obtain ⟨E0, E1, E2⟩ := KE.out _ T1
  go_upto_region 4 with fail
  go_cut [7] (fun s7 wx => ∃ p : Nat, s7 = .pointer (some ⟨p, 0, none⟩) ∧ Hid (Blk wx p #[.int .i64 cn, .int .i64 y, .int .i64 m, .int .i64 d] 25) ∧ Hid (Blk wx w.heap.size z4 25) ∧ Hid (Below w.heap.size w wx))
  case first =>
    go_region_held (fun w' => w'.cell? ⟨g, 0, none⟩ = some (.string p0) ∧ w'.cell? ⟨g, 1, none⟩ = some (.string p1) ∧ w'.cell? ⟨g, 2, none⟩ = some (.string p2)) (first | exact KE.out _ (by assumption) | exact KE.out _ (KA.out _ _ (by assumption)) | exact (KF.out _ _ (by first | assumption | exact KA.out _ _ (by assumption)) (by first | assumption | exact KZ.out _ (by assumption))).2) (first | (go_at_call 21; refine (KC _).mono ?_; rintro e V ⟨rfl, rfl⟩) | (go_at_call_of 22 p0; refine Calls.mono (K0.out _ ?_) ?_; (first | assumption | exact KA.out _ _ (by assumption)); rintro e V ⟨rfl, hb⟩; obtain ⟨T, HY⟩ := HQ.out _ _ (by first | assumption | exact KA.out _ _ (by assumption)) hb; clear hb; (try (have HX := HY.out _ (KZ.out _ (by assumption)); have y0 := (HZs.out _ _ HX).1.cell 0 rfl; have y1 := (HZs.out _ _ HX).1.cell 1 rfl; have y2 := (HZs.out _ _ HX).1.cell 2 rfl; have y3 := (HZs.out _ _ HX).1.cell 3 rfl; have u0 := (HZs.out _ _ HX).1.thaw 0; have u1 := (HZs.out _ _ HX).1.thaw 1; have u2 := (HZs.out _ _ HX).1.thaw 2; have u3 := (HZs.out _ _ HX).1.thaw 3)); (try (have HX := HY.out _ (by assumption); have y0 := (HZs.out _ _ HX).1.cell 0 rfl; have y1 := (HZs.out _ _ HX).1.cell 1 rfl; have y2 := (HZs.out _ _ HX).1.cell 2 rfl; have y3 := (HZs.out _ _ HX).1.cell 3 rfl; have u0 := (HZs.out _ _ HX).1.thaw 0; have u1 := (HZs.out _ _ HX).1.thaw 1; have u2 := (HZs.out _ _ HX).1.thaw 2; have u3 := (HZs.out _ _ HX).1.thaw 3))) | (go_at_call_of 22 p1; refine Calls.mono (K1.out _ ?_) ?_; (first | assumption | exact KA.out _ _ (by assumption)); rintro e V ⟨rfl, hb⟩; obtain ⟨T, HY⟩ := HQ.out _ _ (by first | assumption | exact KA.out _ _ (by assumption)) hb; clear hb; (try (have HX := HY.out _ (KZ.out _ (by assumption)); have y0 := (HZs.out _ _ HX).1.cell 0 rfl; have y1 := (HZs.out _ _ HX).1.cell 1 rfl; have y2 := (HZs.out _ _ HX).1.cell 2 rfl; have y3 := (HZs.out _ _ HX).1.cell 3 rfl; have u0 := (HZs.out _ _ HX).1.thaw 0; have u1 := (HZs.out _ _ HX).1.thaw 1; have u2 := (HZs.out _ _ HX).1.thaw 2; have u3 := (HZs.out _ _ HX).1.thaw 3)); (try (have HX := HY.out _ (by assumption); have y0 := (HZs.out _ _ HX).1.cell 0 rfl; have y1 := (HZs.out _ _ HX).1.cell 1 rfl; have y2 := (HZs.out _ _ HX).1.cell 2 rfl; have y3 := (HZs.out _ _ HX).1.cell 3 rfl; have u0 := (HZs.out _ _ HX).1.thaw 0; have u1 := (HZs.out _ _ HX).1.thaw 1; have u2 := (HZs.out _ _ HX).1.thaw 2; have u3 := (HZs.out _ _ HX).1.thaw 3))) | (go_at_call_of 22 p2; refine Calls.mono (K2.out _ ?_) ?_; (first | assumption | exact KA.out _ _ (by assumption)); rintro e V ⟨rfl, hb⟩; obtain ⟨T, HY⟩ := HQ.out _ _ (by first | assumption | exact KA.out _ _ (by assumption)) hb; clear hb; (try (have HX := HY.out _ (KZ.out _ (by assumption)); have y0 := (HZs.out _ _ HX).1.cell 0 rfl; have y1 := (HZs.out _ _ HX).1.cell 1 rfl; have y2 := (HZs.out _ _ HX).1.cell 2 rfl; have y3 := (HZs.out _ _ HX).1.cell 3 rfl; have u0 := (HZs.out _ _ HX).1.thaw 0; have u1 := (HZs.out _ _ HX).1.thaw 1; have u2 := (HZs.out _ _ HX).1.thaw 2; have u3 := (HZs.out _ _ HX).1.thaw 3)); (try (have HX := HY.out _ (by assumption); have y0 := (HZs.out _ _ HX).1.cell 0 rfl; have y1 := (HZs.out _ _ HX).1.cell 1 rfl; have y2 := (HZs.out _ _ HX).1.cell 2 rfl; have y3 := (HZs.out _ _ HX).1.cell 3 rfl; have u0 := (HZs.out _ _ HX).1.thaw 0; have u1 := (HZs.out _ _ HX).1.thaw 1; have u2 := (HZs.out _ _ HX).1.thaw 2; have u3 := (HZs.out _ _ HX).1.thaw 3))))
    all_goals (go_wp2_with fail; go_meet)
    all_goals refine ⟨_, rfl, ?_⟩
    all_goals first | (with_reducible exact KG.out _ (by assumption)) | (with_reducible exact (KF.out _ _ (by assumption) (by assumption)).1)
  case rest =>
  obtain ⟨p, rfl, D1, Z2, B2⟩ := hcut
  clear KA KZ KE HB HZ HQ HZs KF KG K0 K1 K2 T1 T1d T1z T1y HZ1 E0 E1 E2 hlt1 hgl
  have a0 := D1.out.cell 0 rfl
  have a1 := D1.out.cell 1 rfl
  have a2 := D1.out.cell 2 rfl
  have a3 := D1.out.cell 3 rfl
  go_wp2_with fail
  refine (KO.out _ B2.out).mono ?_
  rintro e V2 ⟨rfl, hb⟩
  have D3 := hideP (D1.out.below hb D1.out.lt)
  have Z3 := hideP (Z2.out.below hb Z2.out.lt)
  have B3 := hideP (B2.out.trans (hb.mono B2.out.size))
  clear hb a0 a1 a2 a3 D1 Z2 B2 KO
  have a0 := D3.out.cell 0 rfl
  have a1 := D3.out.cell 1 rfl
  have a2 := D3.out.cell 2 rfl
  have a3 := D3.out.cell 3 rfl
  have q0 := Z3.out.cell 0 rfl
  have q1 := Z3.out.cell 1 rfl
  have q2 := Z3.out.cell 2 rfl
  have q3 := Z3.out.cell 3 rfl
  have r0 := Z3.out.thaw 0
  have r1 := Z3.out.thaw 1
  have r2 := Z3.out.thaw 2
  have r3 := Z3.out.thaw 3
  cases ok
  · have HE : Hid (R = .tuple #[.agg #[.int .i64 0, .int .i64 0, .int .i64 0, .int .i64 0], .bool false]) := HR.out
    clear HR
    go_wp2_with fail
    obtain ⟨W9, e9⟩ : ∃ W9, W9 = (((V2.setCell ⟨w.heap.size, 0, none⟩ (.int .i64 0)).setCell ⟨w.heap.size, 1, none⟩ (.int .i64 0)).setCell ⟨w.heap.size, 2, none⟩ (.int .i64 0)).setCell ⟨w.heap.size, 3, none⟩ (.int .i64 0) := ⟨_, rfl⟩
    rw [← e9]
    have Z9 : Blk W9 w.heap.size #[.int .i64 0, .int .i64 0, .int .i64 0, .int .i64 0] 25 := by rw [e9]; exact (((Z3.out.set 0 _).set 1 _).set 2 _).set 3 _
    have B9 : Below w.heap.size w W9 := by rw [e9]; exact below_store (below_store (below_store (below_store B3.out _ (Nat.le_refl _)) _ (Nat.le_refl _)) _ (Nat.le_refl _)) _ (Nat.le_refl _)
    clear e9
    have z0 := Z9.cell 0 rfl
    have z1 := Z9.cell 1 rfl
    have z2 := Z9.cell 2 rfl
    have z3 := Z9.cell 3 rfl
    exact bodyPost_ret (by simp [results, Tryd.results9, go_sem, z0, z1, z2, z3]; try rfl) rfl ⟨by rw [HE.out], B9⟩
  · have HE : Hid (R = .tuple #[.agg #[.int .i64 cn, .int .i64 y, .int .i64 m, .int .i64 d], .bool true]) := HR.out
    clear HR
    go_wp2_with fail
    obtain ⟨W9, e9⟩ : ∃ W9, W9 = (((V2.setCell ⟨w.heap.size, 0, none⟩ (.int .i64 cn)).setCell ⟨w.heap.size, 1, none⟩ (.int .i64 y)).setCell ⟨w.heap.size, 2, none⟩ (.int .i64 m)).setCell ⟨w.heap.size, 3, none⟩ (.int .i64 d) := ⟨_, rfl⟩
    rw [← e9]
    have Z9 : Blk W9 w.heap.size #[.int .i64 cn, .int .i64 y, .int .i64 m, .int .i64 d] 25 := by rw [e9]; exact (((Z3.out.set 0 _).set 1 _).set 2 _).set 3 _
    have B9 : Below w.heap.size w W9 := by rw [e9]; exact below_store (below_store (below_store (below_store B3.out _ (Nat.le_refl _)) _ (Nat.le_refl _)) _ (Nat.le_refl _)) _ (Nat.le_refl _)
    clear e9
    have z0 := Z9.cell 0 rfl
    have z1 := Z9.cell 1 rfl
    have z2 := Z9.cell 2 rfl
    have z3 := Z9.cell 3 rfl
    exact bodyPost_ret (by simp [results, Tryd.results9, go_sem, z0, z1, z2, z3]; try rfl) rfl ⟨by rw [HE.out], B9⟩
end Go.Proofs.YtioiaefjkmgmdaaDoor.ctr
