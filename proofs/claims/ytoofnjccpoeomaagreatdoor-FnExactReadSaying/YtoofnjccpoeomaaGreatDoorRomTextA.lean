/- Contract of the model's l05Is and of its MonthName, and plain laws of the texts. -/
import Derived.Test.YtoofnjccpoeomaaGreatDoorRomDayS
import Derived.Test.YtoofnjccpoeomaaGreatDoorRomText
namespace Go.Proofs.YtoofnjccpoeomaaGreatDoor.ctr
open Go.RowKit

theorem day_ok (c y : Int) (r : Rom) : dateOk (dayOfRoman c y r).1 (dayOfRoman c y r).2.1 (dayOfRoman c y r).2.2.1 (dayOfRoman c y r).2.2.2 = dayR c y r := by
  cases h : dayR c y r
  · have e : dayOfRoman c y r = (0, 0, 0, 0) := by unfold dayOfRoman; rw [h]; rfl
    rw [e]
    decide
  · have e : dayOfRoman c y r = (c, y, invM r, invD c y r) := by unfold dayOfRoman; rw [if_pos h]
    rw [e]
    exact dateOk_true (dayR_is h).1
theorem dayR_one {r : Rom} (h : dayR 0 1 r = true) : romB r = true := romB_of (dayR_is h)
/-- What is told of a date is of this kind. -/
theorem romB_facts {r : Rom} (h : romB r = true) : 1 ≤ r.count ∧ r.count ≤ 19 ∧ 1 ≤ r.month ∧ r.month ≤ 12 ∧ (r.mark = 0 ∨ r.mark = 1 ∨ r.mark = 2) := by
  have hd := dayR_is (show dayR 0 4 r = true from h)
  obtain ⟨h1, h2, h3, h4, _⟩ := cand_is hd
  refine ⟨h1, h2, h3, h4, ?_⟩
  rw [← hd.2]
  unfold romanOf
  rw [if_pos hd.1]
  unfold romanIn
  split
  · exact .inl rfl
  · split
    · exact .inr (.inl rfl)
    · split
      · exact .inr (.inr rfl)
      · exact .inl rfl

set_option maxRecDepth 100000 in
set_option maxHeartbeats 2000000 in
theorem specIs (r : Rom) (w : World) : Calls Tryz.prog 41 #[romV r] w fun e w' => e = .returned (.bool (romB r)) ∧ Below w.heap.size w w' := by
  obtain ⟨cn, mk, mo, tw⟩ := r
  obtain ⟨W0, hW0, c0, c1, c2, c3, hBl⟩ := rom_box w cn mk mo tw
  have K1 : ∀ W, Calls Tryz.prog 67 #[.int .i64 0, .int .i64 1, .agg #[.int .i64 cn, .int .i64 mk, .int .i64 mo, .bool tw]] W fun e w' => e = .returned (dayV (dayOfRoman 0 1 ⟨cn, mk, mo, tw⟩)) ∧ Below W.heap.size W w' := specDayOfRoman 0 1 ⟨cn, mk, mo, tw⟩
  have K4 : ∀ W, Calls Tryz.prog 67 #[.int .i64 0, .int .i64 4, .agg #[.int .i64 cn, .int .i64 mk, .int .i64 mo, .bool tw]] W fun e w' => e = .returned (dayV (dayOfRoman 0 4 ⟨cn, mk, mo, tw⟩)) ∧ Below W.heap.size W w' := specDayOfRoman 0 4 ⟨cn, mk, mo, tw⟩
  have o1 := day_ok 0 1 ⟨cn, mk, mo, tw⟩
  have o4 := day_ok 0 4 ⟨cn, mk, mo, tw⟩
  have h14 := dayR_one (r := ⟨cn, mk, mo, tw⟩)
  obtain ⟨B, hB⟩ : ∃ B, B = romB ⟨cn, mk, mo, tw⟩ := ⟨_, rfl⟩
  rw [show dayR 0 4 ⟨cn, mk, mo, tw⟩ = B from hB.symm] at o4
  rw [← hB] at h14 ⊢
  have HW0 := hideP hW0
  have HBl := hideP hBl
  clear hB hW0 hBl
  generalize dayR 0 1 ⟨cn, mk, mo, tw⟩ = b1 at *
  generalize dayOfRoman 0 1 ⟨cn, mk, mo, tw⟩ = q1 at *
  generalize dayOfRoman 0 4 ⟨cn, mk, mo, tw⟩ = q4 at *
  obtain ⟨p0, p1, p2, p3⟩ := q1
  obtain ⟨s0, s1, s2, s3⟩ := q4
  have D1 : ∀ W, Calls Tryz.prog 66 #[.agg #[.int .i64 p0, .int .i64 p1, .int .i64 p2, .int .i64 p3]] W fun e w' => e = .returned (.bool b1) ∧ Below W.heap.size W w' := fun W => by rw [← o1]; exact specDateOk p0 p1 p2 p3 W
  have D4 : ∀ W, Calls Tryz.prog 66 #[.agg #[.int .i64 s0, .int .i64 s1, .int .i64 s2, .int .i64 s3]] W fun e w' => e = .returned (.bool B) ∧ Below W.heap.size W w' := fun W => by rw [← o4]; exact specDateOk s0 s1 s2 s3 W
  clear o1 o4
  go_enter Tryz.func41, Tryz.ntmps41
  go_wp2_with fail
  rw [← HW0.out]
  refine (K1 _).mono ?_
  rintro e w1 ⟨rfl, hb⟩
  obtain ⟨x1, rfl⟩ := Later.of hb
  clear hb
  go_wp2_with fail
  refine (D1 _).mono ?_
  rintro e w2 ⟨rfl, hb⟩
  obtain ⟨x2, rfl⟩ := x1.next hb
  clear hb
  cases b1
  · go_wp2_with fail
    refine (K4 _).mono ?_
    rintro e w3 ⟨rfl, hb⟩
    obtain ⟨x3, rfl⟩ := x2.next hb
    clear hb
    go_wp2_with fail
    refine (D4 _).mono ?_
    rintro e w4 ⟨rfl, hb⟩
    obtain ⟨x4, rfl⟩ := x3.next hb
    clear hb
    go_wp2
    go_ret
    exact ⟨rfl, HBl.out x4⟩
  · have HT := hideP (h14 rfl)
    clear h14
    go_wp2
    go_ret
    exact ⟨ret_bool HT.out.symm, HBl.out x2⟩

def monO : Obj := .cells #[.string ⟨#[106, 97, 110]⟩, .string ⟨#[102, 101, 98]⟩, .string ⟨#[109, 97, 114]⟩, .string ⟨#[97, 112, 114]⟩, .string ⟨#[109, 97, 121]⟩, .string ⟨#[106, 117, 110]⟩, .string ⟨#[106, 117, 108]⟩, .string ⟨#[97, 117, 103]⟩, .string ⟨#[115, 101, 112]⟩, .string ⟨#[111, 99, 116]⟩, .string ⟨#[110, 111, 118]⟩, .string ⟨#[100, 101, 99]⟩] 9
set_option maxHeartbeats 400000 in
theorem specMonth (m : Int) (w : World) (h1 : 1 ≤ m) (h2 : m ≤ 12) : Calls Tryz.prog 19 #[.int .i64 m] w fun e w' => e = .returned (.string (monthText m)) ∧ w' = w.alloc monO := by
  rcases mon_cases h1 h2 with rfl | rfl | rfl | rfl | rfl | rfl | rfl | rfl | rfl | rfl | rfl | rfl
  all_goals
    go_enter Tryz.func19, Tryz.ntmps19
    go_wp2
    go_ret
    exact ⟨rfl, rfl⟩
theorem month_size {m : Int} (h1 : 1 ≤ m) (h2 : m ≤ 12) : (monthText m).size = 3 := by
  rcases mon_cases h1 h2 with rfl | rfl | rfl | rfl | rfl | rfl | rfl | rfl | rfl | rfl | rfl | rfl <;> rfl
def blankB : ByteArray := ⟨#[32]⟩
/-- A text put together: mark, blank, month; the count ahead of it; bis ahead of all. -/
theorem text_parts {r : Rom} (h : romB r = true) : romanText r = ⟨(twiceL r.twice ++ (countL r.count ++ (markL r.mark ++ (32 :: (monthText r.month).data.toList)))).toArray⟩ := by
  rw [text_yes h]
  unfold romL
  simp

end Go.Proofs.YtoofnjccpoeomaaGreatDoor.ctr
