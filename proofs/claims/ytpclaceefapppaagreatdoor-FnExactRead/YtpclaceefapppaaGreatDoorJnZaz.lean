/- What ReadRoman reads; a text cut at a byte. -/
import Derived.Test.YtpclaceefapppaaGreatDoorRomReadAZ
import Derived.Test.YtpclaceefapppaaGreatDoorJnZaq
import Derived.Test.YtpclaceefapppaaGreatDoorJnZat
import Derived.Test.YtpclaceefapppaaGreatDoorShelfZ
import Derived.Test.YtpclaceefapppaaGreatDoorJnZad
import Derived.Test.YtpclaceefapppaaGreatDoorJnZaf
import Derived.Test.YtpclaceefapppaaGreatDoorJnZan
import Derived.PlainAid
set_option maxRecDepth 100000
set_option maxHeartbeats 8000000
namespace Go.Proofs.YtpclaceefapppaaGreatDoor.ctr
open Go.RowKit
theorem partsShort (s : ByteArray) (g : Int) : ∀ k, ∀ x ∈ partsTo s g k, x.size ≤ s.size
  | 0, x, h => by simp [partsTo] at h
  | k + 1, x, h => by
   rw [partsTo] at h
   split at h
   · rcases List.mem_append.1 h with h | h
     · exact partsShort s g k x h
     · have : x = s.extract (startAt s g k) k := by simpa using h
       rw [this, ByteArray.size_extract]
       omega
   · exact partsShort s g k x h
theorem cut_mem (s : ByteArray) (g : Int) {x : ByteArray} (hm : x ∈ cut s g) : x.size ≤ s.size := by
 unfold cut at hm
 rcases List.mem_append.1 hm with h | h
 · exact partsShort s g _ _ h
 · have : x = s.extract (startAt s g s.size) s.size := by simpa using h
   rw [this, ByteArray.size_extract]
   omega
theorem rest_size (s : ByteArray) : (restOf s).size ≤ s.size := by
 unfold restOf
 split
 · rw [ByteArray.size_extract]; omega
 · exact Nat.le_refl _
theorem read_none {s : ByteArray} {xs : List ByteArray} (hx : xs = cut (restOf s) 32) (h2 : xs.length ≠ 2) (h3 : xs.length ≠ 3) : readRoman s = (⟨0, 0, 0, false⟩, false) := by
 rw [← romRead_same]
 unfold parseI
 rw [← hx]
 match xs, h2, h3 with
 | [], _, _ => rfl
 | [_], _, _ => rfl
 | [_, _], h2, _ => exact absurd rfl h2
 | [_, _, _], _, h3 => exact absurd rfl h3
 | _ :: _ :: _ :: _ :: _, _, _ => rfl
theorem read_some {s : ByteArray} {xs : List ByteArray} {r : Rom} (hx : xs = cut (restOf s) 32) (hl : 2 ≤ xs.length) (hp : wordsR markI (bisP s) xs = some r) : (romanText r = s → readRoman s = (r, true)) ∧ (romanText r ≠ s → readRoman s = (⟨0, 0, 0, false⟩, false)) := by
 rw [← romRead_same]
 have hP : parseI s = some r := by unfold parseI; rw [← hx]; exact hp
 rw [hP]
 constructor
 · intro h
   refine readBy_yes h ?_
   have h1 := cut_len (restOf s) 32
   have h2 := rest_size s
   rw [← hx] at h1
   omega
 · intro h
   exact readBy_not (.inl h)
abbrev readV (q : Rom × Bool) : Value := .tuple #[romV q.1, .bool q.2]
theorem implReadRoman (s : ByteArray) (w : World) (hs : s.size ≤ 1048576) (hT : Tab w) (hS : Shp w) (hM : Mrk w) (hN : Mon w) : CR 118 #[.string s] w (readV (readRoman s)) := by
 have KB := fun W => implCutBis s W hs
 have hrs := rest_size s
 obtain ⟨xs, hxs⟩ : ∃ xs, xs = cut (restOf s) 32 := ⟨_, rfl⟩
 have KW := fun W => implWords (restOf s) W (by omega)
 have hmem : ∀ x ∈ xs, x.size ≤ 1048576 := fun x hx => by rw [hxs] at hx; have := cut_mem _ _ hx; omega
 have hxne : xs ≠ [] := by rw [hxs]; exact cut_ne _ _
 have HN1 := hideP (read_none (s := s) hxs)
 have HS1 := hideP (fun r => read_some (s := s) (r := r) hxs)
 rw [← hxs] at KW
 clear hxs hrs
 generalize bisP s = tw at *
 generalize restOf s = rest at *
 have HT : Hid (∀ W, Below w.heap.size w W → Tab W) := fun W h => hT.later h
 have HS : Hid (∀ W, Below w.heap.size w W → Shp W) := fun W h => Shp.later hS h
 have HM : Hid (∀ W, Below w.heap.size w W → Mrk W) := fun W h => Mrk.later hM h
 have HN : Hid (∀ W, Below w.heap.size w W → Mon W) := fun W h => Mon.later hN h
 obtain ⟨R, hR⟩ : ∃ R, R = readRoman s := ⟨_, rfl⟩
 rw [← hR]
 rw [← hR] at HN1 HS1
 clear hR hT hS hM hN
 obtain ⟨W0, hW0⟩ : ∃ W0, W0 = w.alloc (.cells romZ 54) := ⟨_, rfl⟩
 have B0 : Hid (Below w.heap.size w W0) := by unfold Hid; rw [hW0]; exact (Below.refl _ _).alloc (Nat.le_refl _) _
 have R0 : Hid (Blk W0 w.heap.size romZ 54) := by unfold Hid; rw [hW0]; exact Blk.new _ _ _
 have HW0 := hideP hW0
 clear hW0
 go_enter Tryz.func118, Tryz.ntmps118
 go_wp2_with fail
 rw [← HW0.out]
 refine (KB _).mono ?_
 rintro e w1 ⟨rfl, hw1⟩
 rw [hw1]
 clear hw1 w1
 go_wp2_with fail
 refine (KW _).mono ?_
 rintro e W1 ⟨v, rfl, hrow, hb⟩
 obtain ⟨g, cap, rfl, hg, hgl, hst, _⟩ := own_row hrow hxne
 have B1 : Hid (Below w.heap.size w W1) := B0.out.trans (hb.mono B0.out.size)
 have R1 : Hid (Blk W1 w.heap.size romZ 54) := R0.out.below hb R0.out.lt
 have ST := hideP hst
 have hcap : xs.length ≤ cap := by
  rcases hrow.2 with ⟨h0, _⟩ | ⟨g', cap', cur, he, _, _, hc, _⟩
  · cases h0
  · cases he; exact hc
 clear hrow hb hst KB KW B0 R0 HW0 hxne
 by_cases h3 : xs.length = 3
 · obtain ⟨a, b, c, rfl⟩ : ∃ a b c, xs = [a, b, c] := by
    match xs, h3 with
    | [a, b, c], _ => exact ⟨a, b, c, rfl⟩
   have hcap3 : 3 ≤ cap := by simpa using hcap
   clear hcap
   have ca : W1.cell? ⟨g, 0, none⟩ = some (.string a) := ST.out 0 (by simp)
   have KC := implCountOf a W1 (hmem a (by simp)) (HS.out _ B1.out)
   obtain ⟨ct, hct⟩ : ∃ ct, ct = countOf a := ⟨_, rfl⟩
   obtain ⟨mk, hmk⟩ : ∃ mk, mk = markI b := ⟨_, rfl⟩
   obtain ⟨mo, hmo⟩ : ∃ mo, mo = monOf c := ⟨_, rfl⟩
   rw [← hct] at KC
   have HCT := hideP hct.symm
   have HMB := hideP hmk.symm
   have HMC := hideP hmo.symm
   clear hct hmk hmo h3 hmem
   go_wp2_with fail
   refine KC.mono ?_
   rintro e W2 ⟨rfl, hb⟩
   have BB : Hid (Below w.heap.size w W2) := B1.out.trans (hb.mono B1.out.size)
   have RR : Hid (Blk W2 w.heap.size romZ 54) := R1.out.below hb R1.out.lt
   have CB : Hid (W2.cell? ⟨g, 1, none⟩ = some (.string b)) := by unfold Hid; rw [hb.cell (p := ⟨g, 1, none⟩) hgl]; exact ST.out 1 (by simp)
   have CC : Hid (W2.cell? ⟨g, 2, none⟩ = some (.string c)) := by unfold Hid; rw [hb.cell (p := ⟨g, 2, none⟩) hgl]; exact ST.out 2 (by simp)
   have GL : Hid (g < W2.heap.size) := Nat.lt_of_lt_of_le hgl hb.size
   clear hb ca KC ST B1 R1 hgl
   go_wp2_with fail
   obtain ⟨WD, hWD⟩ : ∃ WD, WD = W2.drew := ⟨_, rfl⟩
   have BD : Hid (Below W2.heap.size W2 WD) := by unfold Hid; rw [hWD]; exact (Below.refl _ _).drew
   have KK : Hid (∀ X o, X = WD ∨ X = WD.alloc o → Below W2.heap.size W2 X) := by
    rintro X o (rfl | rfl)
    · exact BD.out
    · exact BD.out.alloc BD.out.size o
   refine wp_region_any (by kernel_rfl) ?_
   change wpAny _ _ _ _ (1 + (11 + 1)) _ _ W2.drew
   rw [← hWD]
   have hsz : WD.heap.size = W2.heap.size := by rw [hWD]; rfl
   have HWD := hideP hWD
   clear hWD
   refine any_alloc 11 1 8 (W1 := WD.alloc (romO 0 0 0 false)) (p := .pointer (some ⟨W2.heap.size, 0, none⟩)) (A := ?AW2) (by decide) rfl rfl rfl (by kernel_rfl) (by kernel_rfl) (by kernel_rfl) (by kernel_rfl) ?al ?q ?rest
   case q =>
    intro X hX
    have hbX := KK.out X _ hX
    have k0 : ∀ x : Only X, x.w.cell? ⟨g, 1, none⟩ = some (.string b) := Only.at (by rw [hbX.cell (p := ⟨g, 1, none⟩) GL.out]; exact CB.out)
    have k1 : ∀ x : Only X, x.w.cell? ⟨g, 1 + 1, none⟩ = some (.string c) := Only.at (by rw [hbX.cell (p := ⟨g, 1 + 1, none⟩) GL.out]; exact CC.out)
    have KA : ∀ x : Only X, CS 169 #[.string b] x.w (.int .i64 (markI b)) := fun x => implMarkOf b x.w (HM.out _ (by rw [x.eq]; exact BB.out.trans (hbX.mono BB.out.size)))
    have KO : ∀ x : Only X, CS 121 #[.string c] x.w (.int .i64 (monOf c)) := fun x => implMonthOf c x.w (HN.out _ (by rw [x.eq]; exact BB.out.trans (hbX.mono BB.out.size)))
    rw [HMB.out] at KA
    rw [HMC.out] at KO
    simp only [Nat.reduceAdd] at k1
    clear hX hbX
    simp only [List.take_succ_cons, List.take_zero]
    repeat (go_big_quiet_step (first | (go_at_call 169; exact calls_only (KA _)) | (go_at_call 121; exact calls_only (KO _))))
    refine wpQuiet_nil ?_
    rfl
   case al =>
    intro a K h
    refine wpOp_step rfl ?_
    intro K' hK
    go_simp
    exact hK _ _ h
   case rest =>
    refine wpAny_ready (rs := [12]) (by kernel_rfl) (by simp) ?_
    refine AllReady.cons rfl (fun K hK => ?_) AllReady.nil
    go_simp
    refine hK _ _ ?_
    clear hK K
    refine wpAny_done (by kernel_rfl) ?_ _
    obtain ⟨W5, hW5⟩ : ∃ W5, W5 = WD.alloc (romO ct mk mo tw) := ⟨_, rfl⟩
    have E5 : Hid (Blk W5 W2.heap.size #[.int .i64 ct, .int .i64 mk, .int .i64 mo, .bool tw] 54) := by unfold Hid; rw [hW5, ← hsz]; exact Blk.new _ _ _
    have B5 : Hid (Below W2.heap.size W2 W5) := by unfold Hid; rw [hW5]; exact BD.out.alloc BD.out.size _
    rw [← hW5]
    clear hW5 hsz BD KK HWD
    have BB5 : Hid (Below w.heap.size w W5) := BB.out.trans (B5.out.mono BB.out.size)
    have RR5 : Hid (Blk W5 w.heap.size romZ 54) := RR.out.below B5.out RR.out.lt
    have KT := implRomanText ⟨ct, mk, mo, tw⟩ W5 (HT.out _ BB5.out) (HS.out _ BB5.out) (HM.out _ BB5.out) (HN.out _ BB5.out)
    obtain ⟨Y, N⟩ := HS1.out ⟨ct, mk, mo, tw⟩ (by simp) (by show (some (⟨countOf a, markI b, monOf c, tw⟩ : Rom)) = _; rw [HCT.out, HMB.out, HMC.out])
    generalize romanText ⟨ct, mk, mo, tw⟩ = T at *
    obtain ⟨e0, e1, e2, e3⟩ := E5.out.cells4
    have HY := hideP Y
    have HNo := hideP N
    clear Y N HS1 HN1 BB RR B5 HT HS HM HN CB CC GL HMB HMC
    go_wp2_with fail
    refine KT.mono ?_
    rintro e W6 ⟨rfl, hb⟩
    have BB : Hid (Below w.heap.size w W6) := BB5.out.trans (hb.mono BB5.out.size)
    have RR : Hid (Blk W6 w.heap.size romZ 54) := RR5.out.below hb RR5.out.lt
    have E6 := hideP (E5.out.below hb E5.out.lt)
    clear hb BB5 RR5 E5 e0 e1 e2 e3 KT
    have q0 := RR.out.cell 0 rfl
    have q1 := RR.out.cell 1 rfl
    have q2 := RR.out.cell 2 rfl
    have q3 := RR.out.cell 3 rfl
    have f0 := RR.out.thaw 0
    have f1 := RR.out.thaw 1
    have f2 := RR.out.thaw 2
    have f3 := RR.out.thaw 3
    cases hq : (T.toList == s.toList)
    · have HF := hideP (HNo.out (str_ne hq))
      have hq' : (T.toList != s.toList) = true := by simp only [bne, hq]; rfl
      go_wp2_with fail
      rw [put4_eq]
      have Z := put4_blk (v0 := .int .i64 0) (v1 := .int .i64 0) (v2 := .int .i64 0) (v3 := .bool false) RR.out
      have z0 := Z.cell 0 rfl
      have z1 := Z.cell 1 rfl
      have z2 := Z.cell 2 rfl
      have z3 := Z.cell 3 rfl
      exact bodyPost_ret (by simp [results, Tryz.results118, go_sem, z0, z1, z2, z3]; try rfl) rfl ⟨by rw [HF.out], put4_below BB.out (Nat.le_refl _)⟩
    · have HF := hideP (HY.out (str_eq hq))
      have hq' : (T.toList != s.toList) = false := by simp only [bne, hq]; rfl
      obtain ⟨e0, e1, e2, e3⟩ := E6.out.cells4
      go_wp2_with fail
      rw [put4_eq]
      have Z := put4_blk (v0 := .int .i64 ct) (v1 := .int .i64 mk) (v2 := .int .i64 mo) (v3 := .bool tw) RR.out
      have z0 := Z.cell 0 rfl
      have z1 := Z.cell 1 rfl
      have z2 := Z.cell 2 rfl
      have z3 := Z.cell 3 rfl
      exact bodyPost_ret (by simp [results, Tryz.results118, go_sem, z0, z1, z2, z3]; try rfl) rfl ⟨by rw [HF.out], put4_below BB.out (Nat.le_refl _)⟩
 have h3' : ((xs.length : Int) == 3) = false := by simp; omega
 by_cases h2 : xs.length = 2
 case neg =>
  have h2' : ((xs.length : Int) != 2) = true := by simp [bne]; omega
  have HF := hideP (HN1.out h2 h3)
  have BB := hideP B1.out
  have RR := hideP R1.out
  clear h2 h3 HN1 HS1
  have q0 := RR.out.cell 0 rfl
  have q1 := RR.out.cell 1 rfl
  have q2 := RR.out.cell 2 rfl
  have q3 := RR.out.cell 3 rfl
  have f0 := RR.out.thaw 0
  have f1 := RR.out.thaw 1
  have f2 := RR.out.thaw 2
  have f3 := RR.out.thaw 3
  go_wp2_with fail
  rw [put4_eq]
  have Z := put4_blk (v0 := .int .i64 0) (v1 := .int .i64 0) (v2 := .int .i64 0) (v3 := .bool false) RR.out
  have z0 := Z.cell 0 rfl
  have z1 := Z.cell 1 rfl
  have z2 := Z.cell 2 rfl
  have z3 := Z.cell 3 rfl
  exact bodyPost_ret (by simp [results, Tryz.results118, go_sem, z0, z1, z2, z3]; try rfl) rfl ⟨by rw [HF.out], put4_below BB.out (Nat.le_refl _)⟩
 obtain ⟨b, c, rfl⟩ : ∃ b c, xs = [b, c] := by
  match xs, h2 with
  | [b, c], _ => exact ⟨b, c, rfl⟩
 obtain ⟨mk, hmk⟩ : ∃ mk, mk = markI b := ⟨_, rfl⟩
 obtain ⟨mo, hmo⟩ : ∃ mo, mo = monOf c := ⟨_, rfl⟩
 have HMB := hideP hmk.symm
 have HMC := hideP hmo.symm
 have BB := hideP B1.out
 have RR := hideP R1.out
 have CB : Hid (W1.cell? ⟨g, 0, none⟩ = some (.string b)) := ST.out 0 (by simp)
 have CC : Hid (W1.cell? ⟨g, 1, none⟩ = some (.string c)) := ST.out 1 (by simp)
 have GL := hideP hgl
 clear h2 h3 h3' hmem hmk hmo ST B1 R1 hgl
 go_wp2_with fail
 obtain ⟨WD, hWD⟩ : ∃ WD, WD = W1.drew := ⟨_, rfl⟩
 have BD : Hid (Below W1.heap.size W1 WD) := by unfold Hid; rw [hWD]; exact (Below.refl _ _).drew
 have KK : Hid (∀ X o, X = WD ∨ X = WD.alloc o → Below W1.heap.size W1 X) := by
  rintro X o (rfl | rfl)
  · exact BD.out
  · exact BD.out.alloc BD.out.size o
 refine wp_region_any (by kernel_rfl) ?_
 change wpAny _ _ _ _ (1 + (11 + 1)) _ _ W1.drew
 rw [← hWD]
 have hsz : WD.heap.size = W1.heap.size := by rw [hWD]; rfl
 have HWD := hideP hWD
 clear hWD
 refine any_alloc 11 1 8 (W1 := WD.alloc (romO 0 0 0 false)) (p := .pointer (some ⟨W1.heap.size, 0, none⟩)) (A := ?AW1) (by decide) rfl rfl rfl (by kernel_rfl) (by kernel_rfl) (by kernel_rfl) (by kernel_rfl) ?al ?q ?rest
 case q =>
  intro X hX
  have hbX := KK.out X _ hX
  have k0 : ∀ x : Only X, x.w.cell? ⟨g, 0, none⟩ = some (.string b) := Only.at (by rw [hbX.cell (p := ⟨g, 0, none⟩) GL.out]; exact CB.out)
  have k1 : ∀ x : Only X, x.w.cell? ⟨g, 0 + 1, none⟩ = some (.string c) := Only.at (by rw [hbX.cell (p := ⟨g, 0 + 1, none⟩) GL.out]; exact CC.out)
  have KA : ∀ x : Only X, CS 169 #[.string b] x.w (.int .i64 (markI b)) := fun x => implMarkOf b x.w (HM.out _ (by rw [x.eq]; exact BB.out.trans (hbX.mono BB.out.size)))
  have KO : ∀ x : Only X, CS 121 #[.string c] x.w (.int .i64 (monOf c)) := fun x => implMonthOf c x.w (HN.out _ (by rw [x.eq]; exact BB.out.trans (hbX.mono BB.out.size)))
  rw [HMB.out] at KA
  rw [HMC.out] at KO
  simp only [Nat.reduceAdd] at k1
  clear hX hbX
  simp only [List.take_succ_cons, List.take_zero]
  repeat (go_big_quiet_step (first | (go_at_call 169; exact calls_only (KA _)) | (go_at_call 121; exact calls_only (KO _))))
  refine wpQuiet_nil ?_
  rfl
 case al =>
  intro a K h
  refine wpOp_step rfl ?_
  intro K' hK
  go_simp
  exact hK _ _ h
 case rest =>
  refine wpAny_ready (rs := [12]) (by kernel_rfl) (by simp) ?_
  refine AllReady.cons rfl (fun K hK => ?_) AllReady.nil
  go_simp
  refine hK _ _ ?_
  clear hK K
  refine wpAny_done (by kernel_rfl) ?_ _
  obtain ⟨W5, hW5⟩ : ∃ W5, W5 = WD.alloc (romO 1 mk mo tw) := ⟨_, rfl⟩
  have E5 : Hid (Blk W5 W1.heap.size #[.int .i64 1, .int .i64 mk, .int .i64 mo, .bool tw] 54) := by unfold Hid; rw [hW5, ← hsz]; exact Blk.new _ _ _
  have B5 : Hid (Below W1.heap.size W1 W5) := by unfold Hid; rw [hW5]; exact BD.out.alloc BD.out.size _
  rw [← hW5]
  clear hW5 hsz BD KK HWD
  have BB5 : Hid (Below w.heap.size w W5) := BB.out.trans (B5.out.mono BB.out.size)
  have RR5 : Hid (Blk W5 w.heap.size romZ 54) := RR.out.below B5.out RR.out.lt
  have KT := implRomanText ⟨1, mk, mo, tw⟩ W5 (HT.out _ BB5.out) (HS.out _ BB5.out) (HM.out _ BB5.out) (HN.out _ BB5.out)
  obtain ⟨Y, N⟩ := HS1.out ⟨1, mk, mo, tw⟩ (by simp) (by show (some (⟨1, markI b, monOf c, tw⟩ : Rom)) = _; rw [HMB.out, HMC.out])
  generalize romanText ⟨1, mk, mo, tw⟩ = T at *
  obtain ⟨e0, e1, e2, e3⟩ := E5.out.cells4
  have HY := hideP Y
  have HNo := hideP N
  clear Y N HS1 HN1 BB RR B5 HT HS HM HN CB CC GL HMB HMC
  go_wp2_with fail
  refine KT.mono ?_
  rintro e W6 ⟨rfl, hb⟩
  have BB : Hid (Below w.heap.size w W6) := BB5.out.trans (hb.mono BB5.out.size)
  have RR : Hid (Blk W6 w.heap.size romZ 54) := RR5.out.below hb RR5.out.lt
  have E6 := hideP (E5.out.below hb E5.out.lt)
  clear hb BB5 RR5 E5 e0 e1 e2 e3 KT
  have q0 := RR.out.cell 0 rfl
  have q1 := RR.out.cell 1 rfl
  have q2 := RR.out.cell 2 rfl
  have q3 := RR.out.cell 3 rfl
  have f0 := RR.out.thaw 0
  have f1 := RR.out.thaw 1
  have f2 := RR.out.thaw 2
  have f3 := RR.out.thaw 3
  cases hq : (T.toList == s.toList)
  · have HF := hideP (HNo.out (str_ne hq))
    have hq' : (T.toList != s.toList) = true := by simp only [bne, hq]; rfl
    go_wp2_with fail
    rw [put4_eq]
    have Z := put4_blk (v0 := .int .i64 0) (v1 := .int .i64 0) (v2 := .int .i64 0) (v3 := .bool false) RR.out
    have z0 := Z.cell 0 rfl
    have z1 := Z.cell 1 rfl
    have z2 := Z.cell 2 rfl
    have z3 := Z.cell 3 rfl
    exact bodyPost_ret (by simp [results, Tryz.results118, go_sem, z0, z1, z2, z3]; try rfl) rfl ⟨by rw [HF.out], put4_below BB.out (Nat.le_refl _)⟩
  · have HF := hideP (HY.out (str_eq hq))
    have hq' : (T.toList != s.toList) = false := by simp only [bne, hq]; rfl
    obtain ⟨e0, e1, e2, e3⟩ := E6.out.cells4
    go_wp2_with fail
    rw [put4_eq]
    have Z := put4_blk (v0 := .int .i64 1) (v1 := .int .i64 mk) (v2 := .int .i64 mo) (v3 := .bool tw) RR.out
    have z0 := Z.cell 0 rfl
    have z1 := Z.cell 1 rfl
    have z2 := Z.cell 2 rfl
    have z3 := Z.cell 3 rfl
    exact bodyPost_ret (by simp [results, Tryz.results118, go_sem, z0, z1, z2, z3]; try rfl) rfl ⟨by rw [HF.out], put4_below BB.out (Nat.le_refl _)⟩
theorem run_ahead (s : ByteArray) (p : Nat) (hp : p < s.size) (w : World) : (Instr.slice 9 (.string s) none (some (.int .i64 (p : Int))) none).run Tryz.prog w = .ok (.string (s.extract 0 p)) w :=
 (run_slice_string_h (P := Tryz.prog) (w := w) (t := 9) (s := s) (ht := Tryz.underlying9) .i64 (p : Int) (by omega) (by omega)).trans (by rw [show ((p : Int)).toNat = p from by omega])
theorem run_behind (s : ByteArray) (p : Nat) (hp : p < s.size) (w : World) : (Instr.slice 9 (.string s) (some (.int .i64 ((p : Int) + 1))) none none).run Tryz.prog w = .ok (.string (s.extract (p + 1) s.size)) w :=
 (run_slice_string_l (P := Tryz.prog) (w := w) (t := 9) (s := s) (ht := Tryz.underlying9) .i64 ((p : Int) + 1) (by omega) (by omega)).trans (by rw [show ((p : Int) + 1).toNat = p + 1 from by omega])
theorem cutHit (s : ByteArray) (g : UInt8) (p : Nat) (w : World) (hs : s.size ≤ 1048576) (hp : p < s.size) (hix : Lib.indexByte s.data.toList g = p) : CR 165 #[.string s, .string ⟨#[g]⟩] w (.tuple #[.string (s.extract 0 p), .string (s.extract (p + 1) s.size), .bool true]) := by
 have KI : ∀ W, CS 232 #[.string s, .string ⟨#[g]⟩] W (.int .i64 (p : Int)) := fun W => by rw [← hix]; exact Tryz.stringslite_Index_one s g W
 have h1 := run_ahead s p hp
 have h2 := run_behind s p hp
 have hwr : IntKind.i64.wrap ((p : Int) + 1) = (p : Int) + 1 := by rw [PlainAid.i64_is]; unfold wrap64; omega
 have hle : (p : Int) < (s.size : Int) := by omega
 have hle2 : (s.size : Int) ≤ 1048576 := by omega
 clear hix
 go_enter Tryz.func165, Tryz.ntmps165
 go_wp2_with fail
 refine sameC (KI _) ?_
 go_wp2
 go_region
 all_goals go_wp2
 all_goals go_ret3
 all_goals exact ⟨rfl, (Below.refl _ _).drew⟩
theorem cutMiss (s : ByteArray) (g : UInt8) (w : World) (hix : Lib.indexByte s.data.toList g = -1) : CR 165 #[.string s, .string ⟨#[g]⟩] w (.tuple #[.string s, .string ⟨#[]⟩, .bool false]) := by
 have KI : ∀ W, CS 232 #[.string s, .string ⟨#[g]⟩] W (.int .i64 (-1)) := fun W => by rw [← hix]; exact Tryz.stringslite_Index_one s g W
 clear hix
 go_enter Tryz.func165, Tryz.ntmps165
 go_wp2_with fail
 refine sameC (KI _) ?_
 go_wp2
 go_ret3
 exact ⟨rfl, Below.refl _ _⟩
theorem cutFace (s a b : ByteArray) (g : UInt8) (f : Bool) (w : World) (h : CR 165 #[.string s, .string ⟨#[g]⟩] w (.tuple #[.string a, .string b, .bool f])) : CR 116 #[.string s, .string ⟨#[g]⟩] w (.tuple #[.string a, .string b, .bool f]) := by
 go_enter Tryz.func116, Tryz.ntmps116
 go_wp2_with fail
 refine h.mono ?_
 rintro e w1 ⟨rfl, hb⟩
 go_wp2
 go_ret3
 exact ⟨rfl, hb⟩
end Go.Proofs.YtpclaceefapppaaGreatDoor.ctr
