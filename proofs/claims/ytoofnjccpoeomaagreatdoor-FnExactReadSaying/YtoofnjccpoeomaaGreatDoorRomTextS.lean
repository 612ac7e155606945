/- Contract of the model's RomanText: it answers its plain function. -/
import Derived.Test.YtoofnjccpoeomaaGreatDoorRomTextA
import Derived.Deep.DeepCutAuto
import Derived.Deep.RegionWith
namespace Go.Proofs.YtoofnjccpoeomaaGreatDoor.ctr
open Go.RowKit

theorem join_any (a : ByteArray) (l : List UInt8) : a ++ ⟨l.toArray⟩ = ⟨(a.data.toList ++ l).toArray⟩ := by
  apply WideShapes.bytes_inj
  simp
/-- How a text is put together, by its count and by whether it is told twice. -/
theorem fin_text {T S : ByteArray} {tw : Bool} {cn : Int} {TL : List UInt8} (hT : T = ⟨(twiceL tw ++ (countL cn ++ TL)).toArray⟩) (hS : S = ⟨TL.toArray⟩) :
    (cn = 1 → tw = false → T = S) ∧ (cn = 1 → tw = true → T = ⟨#[98, 105, 115, 32]⟩ ++ S) ∧ (cn = 2 → tw = false → T = ⟨#[112, 114, 105, 100, 32]⟩ ++ S) ∧ (cn = 2 → tw = true → T = ⟨#[98, 105, 115, 32]⟩ ++ (⟨#[112, 114, 105, 100, 32]⟩ ++ S)) ∧
    (2 < cn → tw = false → T = putRoman cn ++ ⟨#[32]⟩ ++ S) ∧ (2 < cn → tw = true → T = ⟨#[98, 105, 115, 32]⟩ ++ (putRoman cn ++ ⟨#[32]⟩ ++ S)) := by
  subst hS
  refine ⟨?_, ?_, ?_, ?_, ?_, ?_⟩
  · rintro rfl rfl
    rw [hT]
    rfl
  · rintro rfl rfl
    rw [hT, join_any]
    rfl
  · rintro rfl rfl
    rw [hT, join_any]
    rfl
  · rintro rfl rfl
    rw [hT, join_any, join_any]
    rfl
  · rintro h rfl
    have hc : countL cn = (putRoman cn).data.toList ++ [32] := by unfold countL; rw [if_neg (by omega), if_neg (by omega)]
    rw [hT, hc]
    apply WideShapes.bytes_inj
    simp [twiceL]
  · rintro h rfl
    have hc : countL cn = (putRoman cn).data.toList ++ [32] := by unfold countL; rw [if_neg (by omega), if_neg (by omega)]
    rw [hT, hc]
    apply WideShapes.bytes_inj
    simp [twiceL]

set_option maxRecDepth 100000 in
set_option maxHeartbeats 8000000 in
theorem specRomanText (r : Rom) (w : World) : Calls Tryz.prog 20 #[romV r] w fun e w' => e = .returned (.string (romanText r)) ∧ Below w.heap.size w w' := by
  have KI := specIs r
  have hT := text_no (r := r)
  have hP := text_parts (r := r)
  have hF := romB_facts (r := r)
  obtain ⟨cn, mk, mo, tw⟩ := r
  obtain ⟨W0, hW0, c0, c1, c2, c3, hBl⟩ := rom_box w cn mk mo tw
  have HW0 := hideP hW0
  have HBl := hideP hBl
  clear hW0 hBl
  generalize romanText ⟨cn, mk, mo, tw⟩ = T at *
  generalize romB ⟨cn, mk, mo, tw⟩ = B at *
  cases B
  · have HT := hideP (hT rfl)
    clear hT hP hF
    go_enter Tryz.func20, Tryz.ntmps20
    go_wp2_with fail
    rw [← HW0.out]
    refine (KI _).mono ?_
    rintro e w1 ⟨rfl, hb⟩
    obtain ⟨x1, rfl⟩ := Later.of hb
    clear hb
    go_wp2
    go_ret
    exact ⟨ret_str HT.out.symm, HBl.out x1⟩
  have HP := hideP (hP rfl)
  obtain ⟨hc1, hc2, hm1, hm2, hmk⟩ := hF rfl
  dsimp only at hc1 hc2 hm1 hm2 hmk
  obtain ⟨k, rfl⟩ := Int.eq_ofNat_of_zero_le (show 0 ≤ mk by omega)
  have hk : k < 3 := by omega
  have hrow : (#[Value.string ⟨#[107, 97, 108]⟩, .string ⟨#[110, 111, 110]⟩, .string ⟨#[105, 100]⟩] : Array Value)[k]? = some (.string ⟨(markL k).toArray⟩) := by
    have : k = 0 ∨ k = 1 ∨ k = 2 := by omega
    rcases this with rfl | rfl | rfl <;> rfl
  have hrow2 : ([Value.string ⟨#[107, 97, 108]⟩, .string ⟨#[110, 111, 110]⟩, .string ⟨#[105, 100]⟩] : List Value)[k]'(by simpa using hk) = .string ⟨(markL k).toArray⟩ := by
    have : k = 0 ∨ k = 1 ∨ k = 2 := by omega
    rcases this with rfl | rfl | rfl <;> rfl
  have hks : (⟨(markL k).toArray⟩ : ByteArray).size ≤ 3 := by
    have : k = 0 ∨ k = 1 ∨ k = 2 := by omega
    rcases this with rfl | rfl | rfl <;> decide
  generalize hmb : (⟨(markL k).toArray⟩ : ByteArray) = KB at *
  have HMB := hideP hmb
  clear hmk hmb
  have KM := fun W => specMonth mo W hm1 hm2
  have hms := month_size hm1 hm2
  clear hT hP hF
  generalize hmt : monthText mo = M at *
  have HMT := hideP hmt
  clear hmt
  go_enter Tryz.func20, Tryz.ntmps20
  go_wp2_with fail
  rw [← HW0.out]
  refine (KI _).mono ?_
  rintro e w1 ⟨rfl, hb⟩
  obtain ⟨x1, rfl⟩ := Later.of hb
  clear hb
  go_upto_region 3 with fail
  obtain ⟨S, hS⟩ : ∃ S : ByteArray, S = KB ++ ⟨#[32]⟩ ++ M := ⟨_, rfl⟩
  go_cut [3] (fun s wx => s = .string S ∧ ∃ x : Later W0, wx = x.w)
  case first =>
    have L1 : ∀ o, ∃ y : Later W0, x1.w.alloc o = y.w := fun o => ⟨⟨_, x1.below.alloc x1.below.size o⟩, rfl⟩
    have L2 : ∀ o o', ∃ y : Later W0, (x1.w.alloc o).alloc o' = y.w := fun o o' => ⟨⟨_, (x1.below.alloc x1.below.size o).alloc (x1.below.alloc x1.below.size o).size o'⟩, rfl⟩
    have s1 := c1 x1
    have s2 := c2 x1
    have s11 : ∀ o, (x1.w.alloc o).cell? ⟨w.heap.size, 1, none⟩ = some (.int .i64 (k : Int)) := fun o => by obtain ⟨y, hy⟩ := L1 o; rw [hy]; exact c1 y
    have s12 : ∀ o, (x1.w.alloc o).cell? ⟨w.heap.size, 2, none⟩ = some (.int .i64 mo) := fun o => by obtain ⟨y, hy⟩ := L1 o; rw [hy]; exact c2 y
    have s21 : ∀ o o', ((x1.w.alloc o).alloc o').cell? ⟨w.heap.size, 1, none⟩ = some (.int .i64 (k : Int)) := fun o o' => by obtain ⟨y, hy⟩ := L2 o o'; rw [hy]; exact c1 y
    have HL1 := hideP L1
    have HL2 := hideP L2
    have HS := hideP hS
    clear L1 L2 c0 c1 c2 c3 hS
    go_region_with (go_at_call 19; refine (KM _).mono ?_; rintro e w' ⟨rfl, hw'⟩; subst hw')
    all_goals go_wp2_with fail
    all_goals go_meet
    all_goals exact ⟨by rw [HS.out], by first | (obtain ⟨y, hy⟩ := HL2.out _ _; exact ⟨⟨_, (hy ▸ y.below : Below W0.heap.size W0 _).drew⟩, rfl⟩) | exact ⟨⟨_, (Below.drew (by obtain ⟨y, hy⟩ := HL2.out _ _; rw [hy]; exact y.below))⟩, rfl⟩⟩
  case rest =>
    obtain ⟨rfl, x2, rfl⟩ := hcut
    have hSs : S.size ≤ 7 := by rw [hS, ByteArray.size_append, ByteArray.size_append]; show KB.size + 1 + M.size ≤ 7; omega
    have hSL : S = ⟨(markL k ++ (32 :: M.data.toList)).toArray⟩ := by
      rw [hS, ← HMB.out]
      apply WideShapes.bytes_inj
      simp
    obtain ⟨F1, F2, F3, F4, F5, F6⟩ := fin_text HP.out hSL
    have G1 := hideP F1
    have G2 := hideP F2
    have G3 := hideP F3
    have G4 := hideP F4
    have G5 := hideP F5
    have G6 := hideP F6
    have s0 := c0 x2
    have s3 := c3 x2
    have KP := specPutRoman cn
    have hps := (roman_good cn).2
    clear hS hSL F1 F2 F3 F4 F5 F6 HP HMB HMT hrow hrow2 c0 c1 c2 c3 KM KI hks hms
    generalize putRoman cn = PR at *
    by_cases e1 : cn = 1
    · have g2 : (cn == 2) = false := by simp [e1]
      have g3 : decide (2 < cn) = false := by simp [e1]
      cases tw
      · have HF := hideP (G1.out e1 rfl)
        clear e1 G1 G2 G3 G4 G5 G6 KP
        go_wp2
        go_ret
        exact ⟨ret_str HF.out.symm, HBl.out x2⟩
      · have HF := hideP (G2.out e1 rfl)
        clear e1 G1 G2 G3 G4 G5 G6 KP
        go_wp2
        go_ret
        exact ⟨ret_str HF.out.symm, HBl.out x2⟩
    by_cases e2 : cn = 2
    · have g2 : (cn == 2) = true := by simp [e2]
      have hs5 : ((⟨#[112, 114, 105, 100, 32]⟩ : ByteArray) ++ S).size ≤ 12 := by rw [ByteArray.size_append]; show 5 + S.size ≤ 12; omega
      cases tw
      · have HF := hideP (G3.out e2 rfl)
        clear e1 e2 G1 G2 G3 G4 G5 G6 KP
        go_wp2
        go_ret
        exact ⟨ret_str HF.out.symm, HBl.out x2⟩
      · have HF := hideP (G4.out e2 rfl)
        clear e1 e2 G1 G2 G3 G4 G5 G6 KP
        go_wp2
        go_ret
        exact ⟨ret_str HF.out.symm, HBl.out x2⟩
    have g2 : (cn == 2) = false := by simp [e2]
    have e3 : 2 < cn := by omega
    have g3 : decide (2 < cn) = true := decide_eq_true e3
    have hs5 : (PR ++ (⟨#[32]⟩ : ByteArray)).size ≤ 16 := by rw [ByteArray.size_append]; show PR.size + 1 ≤ 16; omega
    have hs6 : (PR ++ (⟨#[32]⟩ : ByteArray) ++ S).size ≤ 23 := by rw [ByteArray.size_append]; omega
    cases tw
    · have HF := hideP (G5.out e3 rfl)
      clear e1 e2 G1 G2 G3 G4 G5 G6
      go_wp2_with fail
      refine (KP _).mono ?_
      rintro e w3 ⟨rfl, hw3⟩
      rw [hw3]
      clear hw3 w3
      go_wp2
      go_ret
      exact ⟨ret_str HF.out.symm, HBl.out x2⟩
    · have HF := hideP (G6.out e3 rfl)
      clear e1 e2 G1 G2 G3 G4 G5 G6
      go_wp2_with fail
      refine (KP _).mono ?_
      rintro e w3 ⟨rfl, hw3⟩
      rw [hw3]
      clear hw3 w3
      go_wp2
      go_ret
      exact ⟨ret_str HF.out.symm, HBl.out x2⟩
end Go.Proofs.YtoofnjccpoeomaaGreatDoor.ctr
