/- Contract of the model's draw of a regime that is spoilt sometimes (l09Regime). -/
import Derived.Test.YtchhdoipkimbgaaGreatDoorRgmRegAM
import Derived.Test.YtchhdoipkimbgaaGreatDoorRgmGoodM
import Derived.Deep.RegionHeldLaw
import Derived.Deep.RegionHeld3
import Derived.Deep.CutBlock
namespace Go.Proofs.YtchhdoipkimbgaaGreatDoor.ctr
open Go.RowKit

set_option maxRecDepth 100000 in
set_option maxHeartbeats 60000000 in
theorem l09Regime (n0 : Nat) (W : World) (a : Option Addr) (len cap B : Nat) (most : Int) (hm1 : 900 ≤ most) (hm2 : most ≤ 1000) (hlen : len ≤ maxLen) (hC : Cur n0 W a len cap B) :
    Calls Tryz.prog 58 #[.pointer (some ⟨B, 0, none⟩), .int .i64 most] W fun e W' => ∃ v r, e = .returned v ∧ DRegW W.heap.size W' v r ∧ DSmall r ∧ Cur n0 W' a len cap B ∧ W.grownBy W' (some B) := by
  have hBW := hC.hi
  have KG : Hid (Calls Tryz.prog 114 #[.pointer (some ⟨B, 0, none⟩), .int .i64 most] (W.alloc (.cells #[.string ⟨#[]⟩, .int .i64 0, .int .i64 0, .slice none 0 0, .slice none 0 0, .slice none 0 0, .int .i64 0] 29)) fun e W' => ∃ (nm : ByteArray) (f t ru : Int) (L : List Seg) (P : List Pat) (rg : List Rgn) (gs cs : Nat) (ap : Option Addr) (cp : Nat) (ar : Option Addr) (cr M : Nat), e = .returned (.agg #[.string nm, .int .i64 f, .int .i64 t, .slice (some ⟨gs, 0, none⟩) L.length cs, .slice ap P.length cp, .slice ar rg.length cr, .int .i64 ru]) ∧ nm.size ≤ 16 ∧ 400000 ≤ f ∧ f ≤ 700000 ∧ f ≤ t ∧ t ≤ 704000 ∧ 1 ≤ L.length ∧ L.length ≤ 3 ∧ P.length ≤ 1 ∧ W.heap.size < M ∧ (gs < M) ∧ (∀ k, (Value.slice ap P.length cp).ownBlock = some k → k < M) ∧ Hid (RMid M W'.heap.size W' (.slice ar rg.length cr) rg) ∧ Hid (GdSt W n0 a len cap B W'.heap.size #[.string nm, .int .i64 f, .int .i64 t, .slice (some ⟨gs, 0, none⟩) L.length cs, .slice ap P.length cp, .slice ar rg.length cr, .int .i64 ru] (.slice (some ⟨gs, 0, none⟩) L.length cs) (.slice ap P.length cp) L P (W'.alloc (.cells #[.string nm, .int .i64 f, .int .i64 t, .slice (some ⟨gs, 0, none⟩) L.length cs, .slice ap P.length cp, .slice ar rg.length cr, .int .i64 ru] 29)))) := by
    refine (l09Good n0 _ a len cap B most hm1 hm2 hlen (hC.alloc _)).mono ?_
    rintro e W' ⟨v, ⟨nm, f, t, L, P, rg, ru⟩, rfl, ⟨hD, hS, _, hl3, hp1, hf1, hft, ht⟩, hC', hG⟩
    obtain ⟨sv, pv, rv, M, e, hM, s1, s2, s3, s4, s5⟩ := hD
    dsimp only at *
    obtain ⟨z1, _, z3, _, _, z6, _, _⟩ := hS
    dsimp only at *
    obtain ⟨gs, cs, rfl, _, _⟩ := s1.form (by omega)
    have hpf : ∃ ap cp, pv = .slice ap P.length cp := by
      rcases s2.2 with ⟨rfl, h0⟩ | ⟨g, cp, cur, rfl, _⟩
      · exact ⟨none, 0, by rw [h0]⟩
      · exact ⟨_, _, rfl⟩
    obtain ⟨ap, cp, rfl⟩ := hpf
    obtain ⟨ar, cr, rfl, _⟩ := s3.1.1
    have hsz : (W.alloc (.cells #[.string ⟨#[]⟩, .int .i64 0, .int .i64 0, .slice none 0 0, .slice none 0 0, .slice none 0 0, .int .i64 0] 29)).heap.size = W.heap.size + 1 := size_new _ _
    rw [hsz] at hM s1 s2
    have hZ : Blk W' W.heap.size gmZero 29 := (Blk.new W gmZero _).grown hG (by omega)
    refine ⟨nm, f, t, ru, L, P, rg, gs, cs, ap, cp, ar, cr, M, by rw [e], z1, hf1, z3, hft, ht, z6, hl3, hp1, by omega, s4 gs rfl, s5, RMid.of s3, ?_⟩
    exact ⟨hC'.alloc _, grown_alloc (grown_trans (grown_alloc (grown_refl W _) _) hG) _, hBW, hZ.alloc _, Blk.new _ _ _, hZ.lt, (own_mono1 s1 (by omega)).alloc _, (own_mono1 s2 (by omega)).alloc _⟩
  clear hC hm1 hm2
  go_enter Tryz.func58, Tryz.ntmps58
  go_wp2_with fail
  refine KG.out.mono ?_
  rintro e W1 ⟨nm, f, t, ru, L, P, rg, gs, cs, ap, cp, ar, cr, M, rfl, hnm, hf1, hf2, hft, ht, hl1, hl3, hp1, hWM, hgM, hpM, HR1, S1⟩
  clear KG
  have HR2 : Hid (RMid M W1.heap.size (W1.alloc (.cells #[.string nm, .int .i64 f, .int .i64 t, .slice (some ⟨gs, 0, none⟩) L.length cs, .slice ap P.length cp, .slice ar rg.length cr, .int .i64 ru] 29)) (.slice ar rg.length cr) rg) := HR1.out.grown (r := none) (grown_alloc (grown_refl _ _) _) (fun b e => by cases e)
  have HWM := hideP hWM
  have HgM := hideP hgM
  have HpM := hideP hpM
  clear HR1 hWM hgM hpM
  go_wp2_with fail
  generalize W1.alloc (.cells #[.string nm, .int .i64 f, .int .i64 t, .slice (some ⟨gs, 0, none⟩) L.length cs, .slice ap P.length cp, .slice ar rg.length cr, .int .i64 ru] 29) = V1 at *
  generalize W1.heap.size = R at *
  refine (l01Below n0 _ a len cap B L.length hlen (by omega) S1.out.cur).mono ?_
  rintro e V2 ⟨x2, rfl, p2, q2, hC2, hG2⟩
  have S2 := GdSt.step S1 hG2 hC2
  have HR3 := hideP (HR2.out.grown hG2 (fun b e => by cases e; exact .inl (by have := HWM.out; omega)))
  obtain ⟨i, rfl⟩ := Int.eq_ofNat_of_zero_le p2
  have hi : i < L.length := by omega
  clear hC2 hG2 S1 HR2 p2 q2
  go_wp2_with fail
  refine (l01Below n0 _ a len cap B 20 hlen (by omega) S2.out.cur).mono ?_
  rintro e V ⟨yv, rfl, p3, q3, hC3, hG3⟩
  have S := GdSt.step S2 hG3 hC3
  have HR := hideP (HR3.out.grown hG3 (fun b e => by cases e; exact .inl (by have := HWM.out; omega)))
  clear hC3 hG3 S2 HR3
  go_upto_block 0 with fail
  go_cut [] (fun wx => RgSw W n0 a len cap B R M ar cr rg wx)
  case first =>
    by_cases k0 : yv = 0
    · subst k0
      as_aux_lemma =>
      obtain ⟨St, hSt⟩ : ∃ St : World → Prop, St = fun U => Hid (GdSt W n0 a len cap B R #[.string nm, .int .i64 f, .int .i64 t, .slice (some ⟨gs, 0, none⟩) L.length cs, .slice ap P.length cp, .slice ar rg.length cr, .int .i64 ru] (.slice (some ⟨gs, 0, none⟩) L.length cs) (.slice ap P.length cp) L P U) ∧ Hid (RMid M R U (.slice ar rg.length cr) rg) := ⟨_, rfl⟩
      have TV : St V := by rw [hSt]; exact ⟨S, HR⟩
      have KA : Hid (∀ U o, St U → St (U.alloc o)) := by rw [hSt]; exact fun U o h => ⟨GdSt.al h.1 o, h.2.out.grown (r := none) (grown_alloc (grown_refl _ _) _) (fun b e => by cases e)⟩
      have KD : Hid (∀ U, St U → St U.drew) := by rw [hSt]; exact fun U h => ⟨GdSt.dr h.1, h.2⟩
      have KE : Hid (∀ U, St U → GdSt W n0 a len cap B R #[.string nm, .int .i64 f, .int .i64 t, .slice (some ⟨gs, 0, none⟩) L.length cs, .slice ap P.length cp, .slice ar rg.length cr, .int .i64 ru] (.slice (some ⟨gs, 0, none⟩) L.length cs) (.slice ap P.length cp) L P U ∧ RMid M R U (.slice ar rg.length cr) rg) := by rw [hSt]; exact fun U h => ⟨h.1.out, h.2.out⟩
      have KN : Hid (∀ U U', St U → U.grownBy U' (some B) → Cur n0 U' a len cap B → St U') := by rw [hSt]; exact fun U U' h hG hC => ⟨GdSt.step h.1 hG hC, h.2.out.grown hG (fun b e => by cases e; exact .inl (by have := HWM.out; omega))⟩
      have TD := KD.out _ TV
      clear S HR
      obtain ⟨Ls, hLs⟩ : ∃ Ls : World → Nat → Prop, Ls = fun U q => Hid (q < U.heap.size ∧ q ≠ B ∧ ∀ j, j < 3 → U.cell? ⟨q, j, none⟩ = some (.int .i64 (gTo.getD j 0))) := ⟨_, rfl⟩
      have K0 : Hid (∀ U, St U → Ls (U.alloc (.cells #[.int .i64 1, .int .i64 (-1), .int .i64 (-400)] 3)) U.heap.size) := by rw [hLs]; exact fun U h => ⟨by rw [size_new]; omega, Nat.ne_of_gt (KE.out U h).1.cur.hi, fun j hj => alloc_ints U gTo _ j hj⟩
      have TZ := KD.out _ (KA.out _ (.cells #[.int .i64 1, .int .i64 (-1), .int .i64 (-400)] 3) TV)
      have HZ : Ls (V.alloc (.cells #[.int .i64 1, .int .i64 (-1), .int .i64 (-400)] 3)).drew V.heap.size := by
        have h := K0.out V TV
        rw [hLs] at h ⊢
        exact h
      have K9 : Hid (∀ U q, St U → Ls U q → Calls Tryz.prog 123 #[.pointer (some ⟨B, 0, none⟩), .slice (some ⟨q, 0, none⟩) 3 3] U fun e U' => ∃ o : Int, e = .returned (.int .i64 o) ∧ St U') := by rw [hLs]; exact fun U q h hq => (l01PickInt n0 U a len cap B q 3 3 (fun j => gTo.getD j 0) hlen (by omega) (by omega) hq.out.1 hq.out.2.1 hq.out.2.2 (KE.out U h).1.cur).mono fun e U' ⟨j, hj, e1, e4, e5⟩ => ⟨_, e1, KN.out U U' h e5 e4⟩
      have KS : Hid (∀ U, St U → U.cell? ⟨R, 3, none⟩ = some (.slice (some ⟨gs, 0, none⟩) L.length cs) ∧ U.cell? ⟨gs, i * 5 + 1, none⟩ = some (.int .i64 (atK segK L i).to) ∧ U.cell? ⟨gs, i * 5 + 4, none⟩ = some (.int .i64 (atK segK L i).off) ∧ U.frozen? ⟨gs, i * 5 + 1, none⟩ = false ∧ U.frozen? ⟨gs, i * 5 + 4, none⟩ = false) := fun U h => by
        obtain ⟨_, x1, _, _, x4, fz, _⟩ := GdSt.segAt (hideP (KE.out U h).1) hi
        exact ⟨(KE.out U h).1.box.cell 3 rfl, x1, x4, fz _, fz _⟩
      obtain ⟨_, _, _, _, _, _, hl5, hl6, hgR, _⟩ := GdSt.segAt (hideP (KE.out V TV).1) hi
      have HgR := hideP hgR
      unfold maxLen at hl6
      clear hgR hSt hLs
      obtain ⟨b3, b1, b4, fb1, fb4⟩ := KS.out _ TV
      obtain ⟨d3, d1, d4, fd1, fd4⟩ := KS.out _ TD
      obtain ⟨e3, e1, e4, fe1, fe4⟩ := KS.out _ TZ
      have KX : Hid (∀ U z, St U → ∃ L', L'.length = L.length ∧ Hid (GdSt W n0 a len cap B R #[.string nm, .int .i64 f, .int .i64 t, .slice (some ⟨gs, 0, none⟩) L.length cs, .slice ap P.length cp, .slice ar rg.length cr, .int .i64 ru] (.slice (some ⟨gs, 0, none⟩) L.length cs) (.slice ap P.length cp) L' P (U.setCell ⟨gs, i * 5 + 1, none⟩ (.int .i64 z))) ∧ Hid (RMid M R (U.setCell ⟨gs, i * 5 + 1, none⟩ (.int .i64 z)) (.slice ar rg.length cr) rg)) := fun U z h => ⟨_, by rw [List.length_set], GdSt.segSet (hideP (KE.out U h).1) hi (j := 1) (by omega) z, (KE.out U h).2.grown (grown_set U gs (i * 5 + 1) (.int .i64 z)) (fun b e => by cases e; exact .inl HgM.out)⟩
      have KY : Hid (∀ U z, St U → (U.setCell ⟨gs, i * 5 + 1, none⟩ (.int .i64 z)).cell? ⟨R, 3, none⟩ = some (.slice (some ⟨gs, 0, none⟩) L.length cs)) := fun U z h => (World.cell?_setCell_other U _ _ _ (by intro e; injection e with e1; exact HgR.out e1)).trans ((KE.out U h).1.box.cell 3 rfl)
      generalize (atK segK L i).to = zt at *
      generalize (atK segK L i).off = zo at *
      go_upto_region 5 with fail
      go_region_law ((go_simp; go_at_call 123; refine Calls.mono (K9.out _ _ ?_ ?_) ?_; (first | assumption | exact KA.out _ _ (by assumption)); (first | assumption | exact K0.out _ (by assumption)); rintro e U ⟨o, rfl, T⟩; obtain ⟨u3, u1, u4, fu1, fu4⟩ := KS.out _ T))
      all_goals go_wp2_with fail
      all_goals obtain ⟨L', hL', S9, HR9⟩ := KX.out U (IntKind.i64.wrap (zt + o)) T
      all_goals generalize U.setCell ⟨gs, i * 5 + 1, none⟩ (.int .i64 (IntKind.i64.wrap (zt + o))) = V8 at *
      all_goals clear KS KX KY K9 K0 KA KD KE KN TV TD TZ HZ T b3 b1 b4 fb1 fb4 d3 d1 d4 fd1 fd4 e3 e1 e4 fe1 fe4 u3 u1 u4 fu1 fu4
      all_goals (
        go_meet
        exact rgsw_of (by first | rfl | simp | omega) (by first | rfl | simp | omega) S9 HR9 hnm (by omega) (by omega) (by omega) (by omega) (by omega) (by omega) (by omega))
    by_cases k1 : yv = 1
    · subst k1
      as_aux_lemma =>
      obtain ⟨St, hSt⟩ : ∃ St : World → Prop, St = fun U => Hid (GdSt W n0 a len cap B R #[.string nm, .int .i64 f, .int .i64 t, .slice (some ⟨gs, 0, none⟩) L.length cs, .slice ap P.length cp, .slice ar rg.length cr, .int .i64 ru] (.slice (some ⟨gs, 0, none⟩) L.length cs) (.slice ap P.length cp) L P U) ∧ Hid (RMid M R U (.slice ar rg.length cr) rg) := ⟨_, rfl⟩
      have TV : St V := by rw [hSt]; exact ⟨S, HR⟩
      have KA : Hid (∀ U o, St U → St (U.alloc o)) := by rw [hSt]; exact fun U o h => ⟨GdSt.al h.1 o, h.2.out.grown (r := none) (grown_alloc (grown_refl _ _) _) (fun b e => by cases e)⟩
      have KD : Hid (∀ U, St U → St U.drew) := by rw [hSt]; exact fun U h => ⟨GdSt.dr h.1, h.2⟩
      have KE : Hid (∀ U, St U → GdSt W n0 a len cap B R #[.string nm, .int .i64 f, .int .i64 t, .slice (some ⟨gs, 0, none⟩) L.length cs, .slice ap P.length cp, .slice ar rg.length cr, .int .i64 ru] (.slice (some ⟨gs, 0, none⟩) L.length cs) (.slice ap P.length cp) L P U ∧ RMid M R U (.slice ar rg.length cr) rg) := by rw [hSt]; exact fun U h => ⟨h.1.out, h.2.out⟩
      have KN : Hid (∀ U U', St U → U.grownBy U' (some B) → Cur n0 U' a len cap B → St U') := by rw [hSt]; exact fun U U' h hG hC => ⟨GdSt.step h.1 hG hC, h.2.out.grown hG (fun b e => by cases e; exact .inl (by have := HWM.out; omega))⟩
      have TD := KD.out _ TV
      clear S HR
      obtain ⟨Ls, hLs⟩ : ∃ Ls : World → Nat → Prop, Ls = fun U q => Hid (q < U.heap.size ∧ q ≠ B ∧ ∀ j, j < 3 → U.cell? ⟨q, j, none⟩ = some (.int .i64 (gOff2.getD j 0))) := ⟨_, rfl⟩
      have K0 : Hid (∀ U, St U → Ls (U.alloc (.cells #[.int .i64 4, .int .i64 (-4), .int .i64 3] 3)) U.heap.size) := by rw [hLs]; exact fun U h => ⟨by rw [size_new]; omega, Nat.ne_of_gt (KE.out U h).1.cur.hi, fun j hj => alloc_ints U gOff2 _ j hj⟩
      have TZ := KD.out _ (KA.out _ (.cells #[.int .i64 4, .int .i64 (-4), .int .i64 3] 3) TV)
      have HZ : Ls (V.alloc (.cells #[.int .i64 4, .int .i64 (-4), .int .i64 3] 3)).drew V.heap.size := by
        have h := K0.out V TV
        rw [hLs] at h ⊢
        exact h
      have K9 : Hid (∀ U q, St U → Ls U q → Calls Tryz.prog 123 #[.pointer (some ⟨B, 0, none⟩), .slice (some ⟨q, 0, none⟩) 3 3] U fun e U' => ∃ o : Int, e = .returned (.int .i64 o) ∧ St U') := by rw [hLs]; exact fun U q h hq => (l01PickInt n0 U a len cap B q 3 3 (fun j => gOff2.getD j 0) hlen (by omega) (by omega) hq.out.1 hq.out.2.1 hq.out.2.2 (KE.out U h).1.cur).mono fun e U' ⟨j, hj, e1, e4, e5⟩ => ⟨_, e1, KN.out U U' h e5 e4⟩
      have KS : Hid (∀ U, St U → U.cell? ⟨R, 3, none⟩ = some (.slice (some ⟨gs, 0, none⟩) L.length cs) ∧ U.cell? ⟨gs, i * 5 + 1, none⟩ = some (.int .i64 (atK segK L i).to) ∧ U.cell? ⟨gs, i * 5 + 4, none⟩ = some (.int .i64 (atK segK L i).off) ∧ U.frozen? ⟨gs, i * 5 + 1, none⟩ = false ∧ U.frozen? ⟨gs, i * 5 + 4, none⟩ = false) := fun U h => by
        obtain ⟨_, x1, _, _, x4, fz, _⟩ := GdSt.segAt (hideP (KE.out U h).1) hi
        exact ⟨(KE.out U h).1.box.cell 3 rfl, x1, x4, fz _, fz _⟩
      obtain ⟨_, _, _, _, _, _, hl5, hl6, hgR, _⟩ := GdSt.segAt (hideP (KE.out V TV).1) hi
      have HgR := hideP hgR
      unfold maxLen at hl6
      clear hgR hSt hLs
      obtain ⟨b3, b1, b4, fb1, fb4⟩ := KS.out _ TV
      obtain ⟨d3, d1, d4, fd1, fd4⟩ := KS.out _ TD
      obtain ⟨e3, e1, e4, fe1, fe4⟩ := KS.out _ TZ
      have KX : Hid (∀ U z, St U → ∃ L', L'.length = L.length ∧ Hid (GdSt W n0 a len cap B R #[.string nm, .int .i64 f, .int .i64 t, .slice (some ⟨gs, 0, none⟩) L.length cs, .slice ap P.length cp, .slice ar rg.length cr, .int .i64 ru] (.slice (some ⟨gs, 0, none⟩) L.length cs) (.slice ap P.length cp) L' P (U.setCell ⟨gs, i * 5 + 4, none⟩ (.int .i64 z))) ∧ Hid (RMid M R (U.setCell ⟨gs, i * 5 + 4, none⟩ (.int .i64 z)) (.slice ar rg.length cr) rg)) := fun U z h => ⟨_, by rw [List.length_set], GdSt.segSet (hideP (KE.out U h).1) hi (j := 4) (by omega) z, (KE.out U h).2.grown (grown_set U gs (i * 5 + 4) (.int .i64 z)) (fun b e => by cases e; exact .inl HgM.out)⟩
      have KY : Hid (∀ U z, St U → (U.setCell ⟨gs, i * 5 + 4, none⟩ (.int .i64 z)).cell? ⟨R, 3, none⟩ = some (.slice (some ⟨gs, 0, none⟩) L.length cs)) := fun U z h => (World.cell?_setCell_other U _ _ _ (by intro e; injection e with e1; exact HgR.out e1)).trans ((KE.out U h).1.box.cell 3 rfl)
      generalize (atK segK L i).to = zt at *
      generalize (atK segK L i).off = zo at *
      go_upto_region 7 with fail
      go_region_held3 (fun w' => w'.cell? ⟨R, 3, none⟩ = some (.slice (some ⟨gs, 0, none⟩) L.length cs)) (first | exact (KS.out _ (by assumption)).1 | exact (KS.out _ (KA.out _ _ (by assumption))).1 | exact KY.out _ _ (by first | assumption | exact KA.out _ _ (by assumption))) ((go_at_call 123; refine Calls.mono (K9.out _ _ ?_ ?_) ?_; (first | assumption | exact KA.out _ _ (by assumption)); (first | assumption | exact K0.out _ (by assumption)); rintro e U ⟨o, rfl, T⟩; obtain ⟨u3, u1, u4, fu1, fu4⟩ := KS.out _ T))
      all_goals go_wp2_with fail
      all_goals obtain ⟨L', hL', S9, HR9⟩ := KX.out U (o) T
      all_goals generalize U.setCell ⟨gs, i * 5 + 4, none⟩ (.int .i64 (o)) = V8 at *
      all_goals clear KS KX KY K9 K0 KA KD KE KN TV TD TZ HZ T b3 b1 b4 fb1 fb4 d3 d1 d4 fd1 fd4 e3 e1 e4 fe1 fe4 u3 u1 u4 fu1 fu4
      all_goals (
        go_meet
        exact rgsw_of (by first | rfl | simp | omega) (by first | rfl | simp | omega) S9 HR9 hnm (by omega) (by omega) (by omega) (by omega) (by omega) (by omega) (by omega))
    by_cases k2 : yv = 2
    · subst k2
      as_aux_lemma =>
      obtain ⟨x0, x1, x2, x3, x4, fz, hl5, hl6, _, _⟩ := GdSt.segAt S hi
      have f3 := fz (i * 5 + 3)
      have c3 := S.out.box.cell 3 rfl
      unfold maxLen at hl6
      clear fz
      go_wp2_with fail
      have S9 := GdSt.segSet S hi (j := 3) (by omega) 7
      have HR9 := hideP (HR.out.grown (grown_set V gs (i * 5 + 3) (.int .i64 7)) (fun b e => by cases e; exact .inl HgM.out))
      generalize V.setCell ⟨gs, i * 5 + 3, none⟩ (.int .i64 7) = V8 at *
      clear S HR x0 x1 x2 x3 x4 f3 c3
      go_meet
      exact rgsw_of (by first | rfl | simp | omega) (by first | rfl | simp | omega) S9 HR9 hnm (by omega) (by omega) (by omega) (by omega) (by simp; omega) (by simp; omega) (by omega)
    by_cases k3 : yv = 3
    · subst k3
      as_aux_lemma =>
      have hw : wrap64 (t + 1) = t + 1 := by unfold wrap64; omega
      have c2 := S.out.box.cell 2 rfl
      have f2 := S.out.box.thaw 2
      go_wp2_with fail
      have S9 := GdSt.store S 2 (.int .i64 (t + 1))
      have HR9 := hideP (HR.out.grown (grown_set V R 2 (.int .i64 (t + 1))) (fun b e => by cases e; exact .inr (Nat.le_refl _)))
      generalize V.setCell ⟨R, 2, none⟩ (.int .i64 (t + 1)) = V8 at *
      clear S HR c2 f2
      go_meet
      exact rgsw_of (by first | rfl | simp | omega) (by first | rfl | simp | omega) S9 HR9 hnm (by omega) (by omega) (by omega) (by omega) (by omega) (by omega) (by omega)
    by_cases k4 : yv = 4
    · subst k4
      as_aux_lemma =>
      obtain ⟨St, hSt⟩ : ∃ St : World → Prop, St = fun U => Hid (GdSt W n0 a len cap B R #[.string nm, .int .i64 f, .int .i64 t, .slice (some ⟨gs, 0, none⟩) L.length cs, .slice ap P.length cp, .slice ar rg.length cr, .int .i64 ru] (.slice (some ⟨gs, 0, none⟩) L.length cs) (.slice ap P.length cp) L P U) ∧ Hid (RMid M R U (.slice ar rg.length cr) rg) := ⟨_, rfl⟩
      have TV : St V := by rw [hSt]; exact ⟨S, HR⟩
      have KA : Hid (∀ U o, St U → St (U.alloc o)) := by rw [hSt]; exact fun U o h => ⟨GdSt.al h.1 o, h.2.out.grown (r := none) (grown_alloc (grown_refl _ _) _) (fun b e => by cases e)⟩
      have KD : Hid (∀ U, St U → St U.drew) := by rw [hSt]; exact fun U h => ⟨GdSt.dr h.1, h.2⟩
      have KE : Hid (∀ U, St U → GdSt W n0 a len cap B R #[.string nm, .int .i64 f, .int .i64 t, .slice (some ⟨gs, 0, none⟩) L.length cs, .slice ap P.length cp, .slice ar rg.length cr, .int .i64 ru] (.slice (some ⟨gs, 0, none⟩) L.length cs) (.slice ap P.length cp) L P U ∧ RMid M R U (.slice ar rg.length cr) rg) := by rw [hSt]; exact fun U h => ⟨h.1.out, h.2.out⟩
      have KN : Hid (∀ U U', St U → U.grownBy U' (some B) → Cur n0 U' a len cap B → St U') := by rw [hSt]; exact fun U U' h hG hC => ⟨GdSt.step h.1 hG hC, h.2.out.grown hG (fun b e => by cases e; exact .inl (by have := HWM.out; omega))⟩
      have TD := KD.out _ TV
      clear S HR
      obtain ⟨Ls, hLs⟩ : ∃ Ls : World → Nat → Prop, Ls = fun U q => Hid (q < U.heap.size ∧ q ≠ B ∧ ∀ j, j < 3 → U.cell? ⟨q, j, none⟩ = some (.int .i64 (gDom.getD j 0))) := ⟨_, rfl⟩
      have K0 : Hid (∀ U, St U → Ls (U.alloc (.cells #[.int .i64 31, .int .i64 32, .int .i64 0] 3)) U.heap.size) := by rw [hLs]; exact fun U h => ⟨by rw [size_new]; omega, Nat.ne_of_gt (KE.out U h).1.cur.hi, fun j hj => alloc_ints U gDom _ j hj⟩
      have TZ := KD.out _ (KA.out _ (.cells #[.int .i64 31, .int .i64 32, .int .i64 0] 3) TV)
      have HZ : Ls (V.alloc (.cells #[.int .i64 31, .int .i64 32, .int .i64 0] 3)).drew V.heap.size := by
        have h := K0.out V TV
        rw [hLs] at h ⊢
        exact h
      have K9 : Hid (∀ U q, St U → Ls U q → Calls Tryz.prog 123 #[.pointer (some ⟨B, 0, none⟩), .slice (some ⟨q, 0, none⟩) 3 3] U fun e U' => ∃ o : Int, e = .returned (.int .i64 o) ∧ St U') := by rw [hLs]; exact fun U q h hq => (l01PickInt n0 U a len cap B q 3 3 (fun j => gDom.getD j 0) hlen (by omega) (by omega) hq.out.1 hq.out.2.1 hq.out.2.2 (KE.out U h).1.cur).mono fun e U' ⟨j, hj, e1, e4, e5⟩ => ⟨_, e1, KN.out U U' h e5 e4⟩
      have KS : Hid (∀ U, St U → U.cell? ⟨R, 4, none⟩ = some (.slice ap P.length cp) ∧ U.cell? ⟨R, 1, none⟩ = some (.int .i64 f)) := fun U h => ⟨(KE.out U h).1.box.cell 4 rfl, (KE.out U h).1.box.cell 1 rfl⟩
      have KO : Hid (∀ U, St U → U.ownsRow W.heap.size 76 3 (.slice ap P.length cp) P.length (icells patK P) ∧ W.heap.size ≤ U.heap.size) := fun U h => ⟨(KE.out U h).1.pat, (KE.out U h).1.grown.size⟩
      have KX : Hid (∀ U U' x g c, St U → U'.ownsRow W.heap.size 76 3 (.slice (some ⟨g, 0, none⟩) (P.length + 1) c) (P.length + 1) (icells patK P ++ icell patK x) → U.grownBy U' (Value.slice ap P.length cp).ownBlock → Hid (GdSt W n0 a len cap B R #[.string nm, .int .i64 f, .int .i64 t, .slice (some ⟨gs, 0, none⟩) L.length cs, .slice ap P.length cp, .slice ar rg.length cr, .int .i64 ru] (.slice (some ⟨gs, 0, none⟩) L.length cs) (.slice (some ⟨g, 0, none⟩) (P.length + 1) c) L (P ++ [x]) U') ∧ Hid (RMid M R U' (.slice ar rg.length cr) rg)) := fun U U' x g c h hr hg => ⟨GdSt.appP (hideP (KE.out U h).1) x hr hg, (KE.out U h).2.grown hg (fun b e => .inl (HpM.out b e))⟩
      clear hSt hLs
      obtain ⟨b4, b1⟩ := KS.out _ TV
      obtain ⟨d4, d1⟩ := KS.out _ TD
      obtain ⟨e4, e1⟩ := KS.out _ TZ
      have ka := fun o => KS.out _ (KA.out _ o TV)
      go_upto_region 13 with fail
      go_region_law ((first | (refine step_pat (by rfl) (.tmp 60) (.tmp 67) (by rfl) W.heap.size (.slice ap P.length cp) P ⟨f, 2, _⟩ _ _ (by rfl) (by rfl) (KO.out _ (by first | assumption | exact KA.out _ _ (by assumption))).1 (Blk.new _ _ _) (by omega) (KO.out _ (by first | assumption | exact KA.out _ _ (by assumption))).2 ?_; intro gq cq V9 hr hg; obtain ⟨T10, R10⟩ := KX.out _ _ _ _ _ (by first | assumption | exact KA.out _ _ (by assumption)) hr hg; have y4 := T10.out.box.cell 4 rfl; have g4 := T10.out.box.thaw 4) | (go_simp; go_at_call 123; refine Calls.mono (K9.out _ _ ?_ ?_) ?_; (first | assumption | exact KA.out _ _ (by assumption)); (first | assumption | exact K0.out _ (by assumption)); rintro e U ⟨o, rfl, T⟩; obtain ⟨u4, u1⟩ := KS.out _ T; have uk := fun o => (KS.out _ (KA.out _ o T)).1; have uj := fun o => (KS.out _ (KA.out _ o T)).2)))
      all_goals go_wp2_with fail
      all_goals have S9 := GdSt.store T10 4 (.slice (some ⟨gq, 0, none⟩) (P.length + 1) cq)
      all_goals have HR9 := hideP (R10.out.grown (grown_set V9 R 4 (.slice (some ⟨gq, 0, none⟩) (P.length + 1) cq)) (fun b e => by cases e; exact .inr (Nat.le_refl _)))
      all_goals generalize V9.setCell ⟨R, 4, none⟩ (.slice (some ⟨gq, 0, none⟩) (P.length + 1) cq) = V8 at *
      all_goals clear KS KX KO K9 K0 KA KD KE KN TV TD TZ HZ T T10 R10 b4 b1 d4 d1 e4 e1 ka u4 u1 uk uj y4 g4 hr hg
      all_goals (
        go_meet
        exact rgsw_of (by first | rfl | simp | omega) (by first | rfl | simp | omega) S9 HR9 hnm (by omega) (by omega) (by omega) (by omega) (by omega) (by omega) (by simp; omega))
    by_cases k5 : yv = 5
    · subst k5
      as_aux_lemma =>
      have c0 := S.out.box.cell 0 rfl
      have f0 := S.out.box.thaw 0
      go_wp2_with fail
      have S9 := GdSt.store S 0 (.string ⟨#[65]⟩)
      have HR9 := hideP (HR.out.grown (grown_set V R 0 (.string ⟨#[65]⟩)) (fun b e => by cases e; exact .inr (Nat.le_refl _)))
      generalize V.setCell ⟨R, 0, none⟩ (.string ⟨#[65]⟩) = V8 at *
      clear S HR c0 f0
      go_meet
      exact rgsw_of (by first | rfl | simp | omega) (by first | rfl | simp | omega) S9 HR9 (by decide) (by omega) (by omega) (by omega) (by omega) (by omega) (by omega) (by omega)
    by_cases k6 : yv = 6
    · subst k6
      as_aux_lemma =>
      have c1 := S.out.box.cell 1 rfl
      have f1 := S.out.box.thaw 1
      go_wp2_with fail
      refine (l01PickInt n0 _ a len cap B V.heap.size 3 3 (fun j => gFr.getD j 0) hlen (by omega) (by omega) (by rw [size_new]; omega) (Nat.ne_of_gt S.out.cur.hi) (fun j hj => alloc_ints V gFr _ j hj) (S.out.cur.alloc _)).mono ?_
      rintro e V4 ⟨j4, hj4, rfl, hC4, hG4⟩
      have S4 := GdSt.step (GdSt.al S _) hG4 hC4
      have HR4 := hideP ((HR.out.grown (r := none) (grown_alloc (grown_refl _ _) _) (fun b e => by cases e)).grown hG4 (fun b e => by cases e; exact .inl (by have := HWM.out; omega)))
      obtain ⟨g1, g2⟩ := gFr_ok hj4
      clear hC4 hG4 S HR c1 f1
      generalize gFr.getD j4 0 = fz at *
      have c1 := S4.out.box.cell 1 rfl
      have f1 := S4.out.box.thaw 1
      go_upto_region 18 with fail
      have S5 := GdSt.store S4 1 (.int .i64 fz)
      have HR5 := hideP (HR4.out.grown (grown_set V4 R 1 (.int .i64 fz)) (fun b e => by cases e; exact .inr (Nat.le_refl _)))
      generalize V4.setCell ⟨R, 1, none⟩ (.int .i64 fz) = V5 at *
      clear S4 HR4 c1 f1
      obtain ⟨x0, x1, x2, x3, x4, fr, hl5, hl6, _, _⟩ := GdSt.segAt S5 (i := 0) (by omega)
      have f0 := fr 0
      have c1 := S5.out.box.cell 1 rfl
      have c3 := S5.out.box.cell 3 rfl
      have hl0 : (0 : Int) < (L.length : Int) := by omega
      rw [Nat.zero_mul] at x0
      unfold maxLen at hl6
      clear fr x1 x2 x3 x4
      go_wp2_with fail
      have S9 := GdSt.segSet S5 (i := 0) (by omega) (j := 0) (by omega) fz
      rw [Nat.zero_mul, Nat.zero_add] at S9
      have HR9 := hideP (HR5.out.grown (grown_set V5 gs 0 (.int .i64 fz)) (fun b e => by cases e; exact .inl HgM.out))
      generalize V5.setCell ⟨gs, 0, none⟩ (.int .i64 fz) = V8 at *
      clear S5 HR5 x0 f0 c1 c3
      go_meet
      exact rgsw_of (by first | rfl | simp | omega) (by first | rfl | simp | omega) S9 HR9 hnm (by omega) (by omega) (by omega) (by omega) (by simp; omega) (by simp; omega) (by omega)
    by_cases k7 : yv = 7
    · subst k7
      as_aux_lemma =>
      have c6 := S.out.box.cell 6 rfl
      have f6 := S.out.box.thaw 6
      go_wp2_with fail
      have S9 := GdSt.store S 6 (.int .i64 2)
      have HR9 := hideP (HR.out.grown (grown_set V R 6 (.int .i64 2)) (fun b e => by cases e; exact .inr (Nat.le_refl _)))
      generalize V.setCell ⟨R, 6, none⟩ (.int .i64 2) = V8 at *
      clear S HR c6 f6
      go_meet
      exact rgsw_of (by first | rfl | simp | omega) (by first | rfl | simp | omega) S9 HR9 hnm (by omega) (by omega) (by omega) (by omega) (by omega) (by omega) (by omega)
    by_cases k8 : yv = 8
    · subst k8
      as_aux_lemma =>
      obtain ⟨St, hSt⟩ : ∃ St : World → Prop, St = fun U => Hid (GdSt W n0 a len cap B R #[.string nm, .int .i64 f, .int .i64 t, .slice (some ⟨gs, 0, none⟩) L.length cs, .slice ap P.length cp, .slice ar rg.length cr, .int .i64 ru] (.slice (some ⟨gs, 0, none⟩) L.length cs) (.slice ap P.length cp) L P U) ∧ Hid (RMid M R U (.slice ar rg.length cr) rg) := ⟨_, rfl⟩
      have TV : St V := by rw [hSt]; exact ⟨S, HR⟩
      have KA : Hid (∀ U o, St U → St (U.alloc o)) := by rw [hSt]; exact fun U o h => ⟨GdSt.al h.1 o, h.2.out.grown (r := none) (grown_alloc (grown_refl _ _) _) (fun b e => by cases e)⟩
      have KD : Hid (∀ U, St U → St U.drew) := by rw [hSt]; exact fun U h => ⟨GdSt.dr h.1, h.2⟩
      have KE : Hid (∀ U, St U → GdSt W n0 a len cap B R #[.string nm, .int .i64 f, .int .i64 t, .slice (some ⟨gs, 0, none⟩) L.length cs, .slice ap P.length cp, .slice ar rg.length cr, .int .i64 ru] (.slice (some ⟨gs, 0, none⟩) L.length cs) (.slice ap P.length cp) L P U ∧ RMid M R U (.slice ar rg.length cr) rg) := by rw [hSt]; exact fun U h => ⟨h.1.out, h.2.out⟩
      have KN : Hid (∀ U U', St U → U.grownBy U' (some B) → Cur n0 U' a len cap B → St U') := by rw [hSt]; exact fun U U' h hG hC => ⟨GdSt.step h.1 hG hC, h.2.out.grown hG (fun b e => by cases e; exact .inl (by have := HWM.out; omega))⟩
      have TD := KD.out _ TV
      clear S HR
      have hi0 : 0 < L.length := by omega
      have KS : Hid (∀ U, St U → U.cell? ⟨R, 3, none⟩ = some (.slice (some ⟨gs, 0, none⟩) L.length cs) ∧ U.cell? ⟨gs, 0, none⟩ = some (.int .i64 (atK segK L 0).fr) ∧ U.cell? ⟨gs, 1, none⟩ = some (.int .i64 (atK segK L 0).to) ∧ U.cell? ⟨gs, 2, none⟩ = some (.int .i64 (atK segK L 0).cal) ∧ U.cell? ⟨gs, 3, none⟩ = some (.int .i64 (atK segK L 0).sty) ∧ U.cell? ⟨gs, 4, none⟩ = some (.int .i64 (atK segK L 0).off)) := fun U h => by
        obtain ⟨x0, x1, x2, x3, x4, _⟩ := GdSt.segAt (hideP (KE.out U h).1) hi0
        rw [Nat.zero_mul] at x0 x1 x2 x3 x4
        rw [Nat.zero_add] at x1 x2 x3 x4
        exact ⟨(KE.out U h).1.box.cell 3 rfl, x0, x1, x2, x3, x4⟩
      obtain ⟨_, _, _, _, _, _, hl5, hl6, _⟩ := GdSt.segAt (hideP (KE.out V TV).1) hi0
      unfold maxLen at hl6
      have KO : Hid (∀ U, St U → U.ownsRow W.heap.size 56 5 (.slice (some ⟨gs, 0, none⟩) L.length cs) L.length (icells segK L) ∧ W.heap.size ≤ U.heap.size) := fun U h => ⟨(KE.out U h).1.seg, (KE.out U h).1.grown.size⟩
      have KX : Hid (∀ U U' x g c, St U → U'.ownsRow W.heap.size 56 5 (.slice (some ⟨g, 0, none⟩) (L.length + 1) c) (L.length + 1) (icells segK L ++ icell segK x) → U.grownBy U' (Value.slice (some ⟨gs, 0, none⟩) L.length cs).ownBlock → Hid (GdSt W n0 a len cap B R #[.string nm, .int .i64 f, .int .i64 t, .slice (some ⟨gs, 0, none⟩) L.length cs, .slice ap P.length cp, .slice ar rg.length cr, .int .i64 ru] (.slice (some ⟨g, 0, none⟩) (L.length + 1) c) (.slice ap P.length cp) (L ++ [x]) P U') ∧ Hid (RMid M R U' (.slice ar rg.length cr) rg)) := fun U U' x g c h hr hg => ⟨GdSt.appS (hideP (KE.out U h).1) x hr hg, (KE.out U h).2.grown hg (fun b e => by cases e; exact .inl HgM.out)⟩
      clear hSt
      generalize atK segK L 0 = sg at *
      have TA := KD.out _ (KA.out _ (.cells #[.int .i64 sg.fr, .int .i64 sg.to, .int .i64 sg.cal, .int .i64 sg.sty, .int .i64 sg.off] 56) TV)
      obtain ⟨b3, b0, b1, b2, bb3, b4⟩ := KS.out _ TV
      obtain ⟨d3, d0, d1, d2, dd3, d4⟩ := KS.out _ TD
      obtain ⟨e3, _⟩ := KS.out _ TA
      have hl0 : (0 : Int) < (L.length : Int) := by omega
      go_upto_region 22 with fail
      go_region_law ((refine step_seg (by rfl) (.tmp 91) (.tmp 96) (by rfl) W.heap.size (.slice (some ⟨gs, 0, none⟩) L.length cs) L sg _ _ (by rfl) (by rfl) (KO.out _ (by assumption)).1 (Blk.new _ _ _) (by omega) (KO.out _ (by assumption)).2 ?_; intro gq cq V9 hr hg; obtain ⟨T10, R10⟩ := KX.out _ _ _ _ _ (by assumption) hr hg; have y3 := T10.out.box.cell 3 rfl; have g3 := T10.out.box.thaw 3))
      all_goals go_wp2_with fail
      all_goals have S9 := GdSt.store T10 3 (.slice (some ⟨gq, 0, none⟩) (L.length + 1) cq)
      all_goals have HR9 := hideP (R10.out.grown (grown_set V9 R 3 (.slice (some ⟨gq, 0, none⟩) (L.length + 1) cq)) (fun b e => by cases e; exact .inr (Nat.le_refl _)))
      all_goals generalize V9.setCell ⟨R, 3, none⟩ (.slice (some ⟨gq, 0, none⟩) (L.length + 1) cq) = V8 at *
      all_goals clear KS KX KO KA KD KE KN TV TD TA T10 R10 b3 b0 b1 b2 bb3 b4 d3 d0 d1 d2 dd3 d4 e3 y3 g3 hr hg
      all_goals (
        go_meet
        exact rgsw_of (by first | rfl | simp | omega) (by first | rfl | simp | omega) S9 HR9 hnm (by omega) (by omega) (by omega) (by omega) (by simp) (by simp; omega) (by omega))
    go_wp2_with fail
    go_meet
    exact rgsw_of (by first | rfl | simp | omega) (by first | rfl | simp | omega) S HR hnm (by omega) (by omega) (by omega) (by omega) (by omega) (by omega) (by omega)
  case rest =>
  clear S HR HgM HpM hnm hf1 hf2 hft ht hl1 hl3 hp1 hi p3 q3
  obtain ⟨nm, f, t, ru, L, P, gs, ls, cs, ap, lp, cp, hls, hlp, HDs, S, HR⟩ := hcut
  subst hls
  subst hlp
  have FN := hideP (GdSt.finalW (nm := nm) (f := f) (t := t) (ru := ru) S HR.out HWM.out)
  have c0 := S.out.box.cell 0 rfl
  have c1 := S.out.box.cell 1 rfl
  have c2 := S.out.box.cell 2 rfl
  have c3 := S.out.box.cell 3 rfl
  have c4 := S.out.box.cell 4 rfl
  have c5 := S.out.box.cell 5 rfl
  have c6 := S.out.box.cell 6 rfl
  have q0 := S.out.zer.cell 0 rfl
  have r0 := S.out.zer.thaw 0
  have q1 := S.out.zer.cell 1 rfl
  have r1 := S.out.zer.thaw 1
  have q2 := S.out.zer.cell 2 rfl
  have r2 := S.out.zer.thaw 2
  have q3 := S.out.zer.cell 3 rfl
  have r3 := S.out.zer.thaw 3
  have q4 := S.out.zer.cell 4 rfl
  have r4 := S.out.zer.thaw 4
  have q5 := S.out.zer.cell 5 rfl
  have r5 := S.out.zer.thaw 5
  have q6 := S.out.zer.cell 6 rfl
  have r6 := S.out.zer.thaw 6
  go_wp2_with fail
  obtain ⟨V9, e9⟩ : ∃ V9, V9 = put7 wc W.heap.size (.string nm) (.int .i64 f) (.int .i64 t) (.slice (some ⟨gs, 0, none⟩) L.length cs) (.slice ap P.length cp) (.slice ar rg.length cr) (.int .i64 ru) := ⟨_, rfl⟩
  rw [← e9] at FN
  unfold put7 at e9
  rw [← e9]
  obtain ⟨D9, C9, G9, Z9⟩ := FN.out
  clear e9 S c0 c1 c2 c3 c4 c5 c6 q0 q1 q2 q3 q4 q5 q6 r0 r1 r2 r3 r4 r5 r6
  have z0 := Z9.cell 0 rfl
  have z1 := Z9.cell 1 rfl
  have z2 := Z9.cell 2 rfl
  have z3 := Z9.cell 3 rfl
  have z4 := Z9.cell 4 rfl
  have z5 := Z9.cell 5 rfl
  have z6 := Z9.cell 6 rfl
  exact bodyPost_ret (by simp [results, Tryz.results58, go_sem, z0, z1, z2, z3, z4, z5, z6]; try rfl) rfl ⟨_, _, rfl, D9, HDs.out, C9, G9⟩
theorem regimeC : RegimeC := l09Regime
end Go.Proofs.YtchhdoipkimbgaaGreatDoor.ctr
