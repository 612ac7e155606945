/- Plain laws on package-level variables, of no program: what a later world keeps of them; a table of texts that is listed holds just its texts. Small plain laws, and the contract of the model's l01In (a ≤ x ≤ b), at every three ints. Contracts of FloorDiv and FloorMod, the model's and the program's: each answers the plain functions floorDiv and floorMod at every two ints; what is divided is put together again. Plain laws of the two calendars, of no program: leap years, a month's days, a year's first day, the year and the month that hold a day. Plain laws of days counted back, of no program: nones and ides, a date's count, the one date of a year that has a count. Worlds that come behind a world W: nothing of W's own blocks has turned, new ones may have come ('Later W'). A region that draws its order, each of whose operations yields one value in every such world and leaves such a world, is walked once, in the order of the text. Contracts of both Nones and Ides, and of the program's markDay, monthBehind, monthAhead: each answers its plain function and writes nothing. Contracts of the model's l02Cal, Leap and of the program's calendarOf, Leap: each answers its plain function at every argument. Contracts of the program's MonthDays: it answers its plain function at every argument, where its table holds its numbers. -/
import Derived.Test.YtjojgfdfbkmlkaaGreatDoorRows
import Derived.WalkKit
import Derived.ProofKit
import Derived.OpenShut
import Derived.ChangeOld
import Derived.Below
import Derived.WalkSmall
import Derived.Lib.LaidTab
import Derived.Stop.LaidErr
import Derived.WalkLawsBesides
import Derived.WalkSpells
import Derived.Sort.Grow
import Derived.Deep.QuietTactic
import Derived.BigQuiet
import Derived.Handy
namespace Go.Proofs.YtjojgfdfbkmlkaaGreatDoor.kit
open Go.RowKit
theorem trodVars_kept {H : Type} {enc : TypeId × Value → H} {P : Program} {W W' : World} (hl : laidOutB P = true) (hb : Below W.heap.size W W') :
    ∀ {ns : List String} {gs : List (DataW H)} {ps : List MemPlace}, (∀ n ∈ ns, ∀ g t, P.globalNamed n = some g → (P.globals[g]?).map (·.type) = some t → P.readableRec t = true ∧ t < P.types.size) →
    DataW.TrodVars enc P W (fun _ => true) ns gs ps → (∀ x ∈ ps, x.block < W.heap.size) → DataW.TrodVars enc P W' (fun b => decide (b < W.heap.size)) ns gs ps
  | [], [], ps, _, h, _ => h
  | [], _ :: _, _, _, h, _ => h.elim
  | _ :: _, [], _, _, h, _ => h.elim
  | n :: ns, d :: ds, ps, hr, h, hlt => by
    obtain ⟨g, t, cs, fuel, p, q, h1, h2, h3, h4, h5, e⟩ := h
    subst e
    obtain ⟨hr1, hr2⟩ := hr n (by simp) g t h1 h2
    have hg : g < W.heap.size := by
      unfold World.var? at h3
      simp only [h1, Option.bind_some] at h3
      by_cases hg : g < W.heap.size
      · exact hg
      · rw [Array.getElem?_eq_none (by omega)] at h3
        simp at h3
    have hcs : (Value.agg cs).cells.toList = cs.toList := rfl
    have ht : DataW.Trod enc P W 0 (fun _ => true) true t (.agg cs) d p := ⟨fuel, by rw [hcs]; exact h4⟩
    obtain ⟨fuel', h4'⟩ := Below.trod hl hr1 hr2 ht hb (fun x hx => hlt x (by simp [hx]))
    rw [hcs] at h4'
    exact ⟨g, t, cs, fuel', p, q, h1, h2, var?_below hb h1 hg h3, h4', trodVars_kept hl hb (fun n hn => hr n (by simp [hn])) h5 (fun x hx => hlt x (by simp [hx])), rfl⟩
def StrIs (P : Program) (w : World) (name : String) (ss : List (List UInt8)) : Prop := w.var? P name = some (ss.map fun s => Value.string ⟨s.toArray⟩).toArray
theorem StrIs.cell {P : Program} {W : World} {name : String} {ss : List (List UInt8)} {g : Nat} (h : StrIs P W name ss) (hg : P.globalNamed name = some g) (i : Nat) (hi : i < ss.length) :
    W.cell? ⟨g, i, none⟩ = some (.string ⟨(ss.getD i []).toArray⟩) := by
  have := World.var?_cell hg h i
  simpa [List.getD, hi] using this
theorem StrIs.heap {P : Program} {W : World} {name : String} {ss : List (List UInt8)} {g : Nat} (h : StrIs P W name ss) (hg : P.globalNamed name = some g) :
    ∃ t fr, W.heap[g]? = some (.cells (ss.map fun s => Value.string ⟨s.toArray⟩).toArray t fr) := by
  unfold StrIs World.var? at h
  simp only [hg, Option.bind_some] at h
  cases hh : W.heap[g]? with
  | none => simp [hh] at h
  | some o =>
    cases o with
    | cells c t fr =>
      simp only [hh, Option.some.injEq] at h
      exact ⟨t, fr, by rw [h]⟩
    | _ => simp [hh] at h
theorem var_lt {P : Program} {W : World} {name : String} {g : Nat} {cs : Array Value} (h : W.var? P name = some cs) (hg : P.globalNamed name = some g) : g < W.heap.size := by
  unfold World.var? at h
  simp only [hg, Option.bind_some] at h
  by_cases hl : g < W.heap.size
  · exact hl
  · rw [Array.getElem?_eq_none (by omega)] at h
    simp at h
theorem StrIs.below {P : Program} {W W' : World} {name : String} {ss : List (List UInt8)} {g : Nat} (h : StrIs P W name ss) (hb : Below W.heap.size W W') (hg : P.globalNamed name = some g) : StrIs P W' name ss :=
  var?_below hb hg (var_lt h hg) h
theorem tab_below {P : Program} {W W' : World} {name : String} {k : IntKind} {zs : List Int} {g : Nat} (h : Lib.TabIs P W name k zs) (hb : Below W.heap.size W W') (hg : P.globalNamed name = some g) : Lib.TabIs P W' name k zs :=
  var?_below hb hg (var_lt h hg) h
end Go.Proofs.YtjojgfdfbkmlkaaGreatDoor.kit
namespace Go.Proofs.YtjojgfdfbkmlkaaGreatDoor.ctr
open Go.RowKit
theorem ret_bool {a b : Bool} (h : a = b) : Ending.returned (.bool a) = .returned (.bool b) := by rw [h]
theorem ret_int {k : IntKind} {a b : Int} (h : a = b) : Ending.returned (.int k a) = .returned (.int k b) := by rw [h]
theorem ret_str {a b : ByteArray} (h : a = b) : Ending.returned (.string a) = .returned (.string b) := by rw [h]
theorem str_eq {a b : ByteArray} (h : (a.toList == b.toList) = true) : a = b := by
  rw [ByteArray.toList_eq, ByteArray.toList_eq, beq_iff_eq] at h
  exact WideShapes.bytes_inj h
theorem str_ne {a b : ByteArray} (h : (a.toList == b.toList) = false) : a ≠ b := by
  rintro rfl
  simp at h
theorem byte64 (c : UInt8) : wrap64 (c.toNat : Int) = (c.toNat : Int) := by
  have := c.toNat_lt
  unfold wrap64
  omega
theorem take_snoc (s : ByteArray) (k : Nat) (h : k < s.size) : s.data.toList.take (k + 1) = s.data.toList.take k ++ [s[k]] := by
  rw [List.take_succ_eq_append_getElem (by simpa using h)]; rfl
def inB (x a b : Int) : Bool := decide (a ≤ x) && decide (x ≤ b)
theorem inB_true {x a b : Int} (h1 : a ≤ x) (h2 : x ≤ b) : inB x a b = true := by simp [inB, h1, h2]
theorem inB_false {x a b : Int} (h : x < a ∨ b < x) : inB x a b = false := by
  rcases h with h | h
  · simp [inB, show ¬ a ≤ x from by omega]
  · simp [inB, show ¬ x ≤ b from by omega]
theorem l01In (x a b : Int) (w : World) :
    Calls Tryz.prog 96 #[.int .i64 x, .int .i64 a, .int .i64 b] w fun e w' => e = .returned (.bool (inB x a b)) ∧ w' = w := by
  by_cases h1 : a ≤ x
  · by_cases h2 : x ≤ b
    · rw [inB_true h1 h2]
      go_enter Tryz.func96, Tryz.ntmps96
      go_wp2
      go_ret
      exact ⟨rfl, rfl⟩
    · rw [inB_false (.inr (by omega))]
      go_enter Tryz.func96, Tryz.ntmps96
      go_wp2
      go_ret
      exact ⟨rfl, rfl⟩
  · rw [inB_false (.inl (by omega))]
    go_enter Tryz.func96, Tryz.ntmps96
    go_wp2
    go_ret
    exact ⟨rfl, rfl⟩
end Go.Proofs.YtjojgfdfbkmlkaaGreatDoor.ctr
namespace Go.Proofs.YtjojgfdfbkmlkaaGreatDoor.ctr
open Go.RowKit
def floorDiv (a b : Int) : Int := if b ≤ 0 then 0 else if a.tmod b < 0 then wrap64 (wrap64 (a.tdiv b) - 1) else wrap64 (a.tdiv b)
def floorMod (a b : Int) : Int := if b ≤ 0 then 0 else if a.tmod b < 0 then wrap64 (a.tmod b + b) else a.tmod b
theorem in_range (n : Int) (h : -9223372036854775808 ≤ n ∧ n ≤ 9223372036854775807) : wrap64 n = n := by unfold wrap64; omega
set_option maxHeartbeats 400000 in
theorem specFloorDiv (a b : Int) (w : World) :
    Calls Tryz.prog 233 #[.int .i64 a, .int .i64 b] w fun e w' => e = .returned (.int .i64 (floorDiv a b)) ∧ w' = w := by
  by_cases c1 : b ≤ 0
  · have HF : Hid (floorDiv a b = 0) := by unfold Hid floorDiv; rw [if_pos c1]
    go_enter Tryz.func233, Tryz.ntmps233
    go_wp2
    go_ret
    exact ⟨ret_int HF.out.symm, rfl⟩
  by_cases c2 : a.tmod b < 0
  · have HF : Hid (floorDiv a b = wrap64 (wrap64 (a.tdiv b) - 1)) := by unfold Hid floorDiv; rw [if_neg c1, if_pos c2]
    go_enter Tryz.func233, Tryz.ntmps233
    go_wp2
    go_ret
    exact ⟨ret_int HF.out.symm, rfl⟩
  · have HF : Hid (floorDiv a b = wrap64 (a.tdiv b)) := by unfold Hid floorDiv; rw [if_neg c1, if_neg c2]
    go_enter Tryz.func233, Tryz.ntmps233
    go_wp2
    go_ret
    exact ⟨ret_int HF.out.symm, rfl⟩
set_option maxHeartbeats 400000 in
theorem implFloorDiv (a b : Int) (w : World) :
    Calls Tryz.prog 243 #[.int .i64 a, .int .i64 b] w fun e w' => e = .returned (.int .i64 (floorDiv a b)) ∧ w' = w := by
  by_cases c1 : b ≤ 0
  · have HF : Hid (floorDiv a b = 0) := by unfold Hid floorDiv; rw [if_pos c1]
    go_enter Tryz.func243, Tryz.ntmps243
    go_wp2
    go_ret
    exact ⟨ret_int HF.out.symm, rfl⟩
  by_cases c2 : a.tmod b < 0
  · have HF : Hid (floorDiv a b = wrap64 (wrap64 (a.tdiv b) - 1)) := by unfold Hid floorDiv; rw [if_neg c1, if_pos c2]
    go_enter Tryz.func243, Tryz.ntmps243
    go_wp2
    go_ret
    exact ⟨ret_int HF.out.symm, rfl⟩
  · have HF : Hid (floorDiv a b = wrap64 (a.tdiv b)) := by unfold Hid floorDiv; rw [if_neg c1, if_neg c2]
    go_enter Tryz.func243, Tryz.ntmps243
    go_wp2
    go_ret
    exact ⟨ret_int HF.out.symm, rfl⟩
end Go.Proofs.YtjojgfdfbkmlkaaGreatDoor.ctr
namespace Go.Proofs.YtjojgfdfbkmlkaaGreatDoor.ctr
open Go.RowKit
def calB (c : Int) : Bool := decide (c = 0) || decide (c = 1)
theorem calB_iff {c : Int} : calB c = true ↔ c = 0 ∨ c = 1 := by simp [calB]
theorem calB_no {c : Int} (h : ¬ (c = 0 ∨ c = 1)) : calB c = false := by
  simp only [not_or] at h
  simp [calB, h.1, h.2]
def leapP (c y : Int) : Prop := (c = 0 ∧ y.tmod 4 = 0) ∨ (c = 1 ∧ ((y.tmod 4 = 0 ∧ ¬ y.tmod 100 = 0) ∨ y.tmod 400 = 0))
instance (c y : Int) : Decidable (leapP c y) := by unfold leapP; infer_instance
def leapB (c y : Int) : Bool := decide (leapP c y)
theorem tmod0 (y : Int) (k : Int) : y.tmod k = 0 ↔ y % k = 0 := by
  rw [← Int.dvd_iff_tmod_eq_zero, ← Int.dvd_iff_emod_eq_zero]
theorem tmod_four {y : Int} (h : y.tmod 400 = 0) : y.tmod 4 = 0 := by
  rw [tmod0] at *
  omega
theorem leap_jul {y : Int} : leapP 0 y ↔ y % 4 = 0 := by
  unfold leapP
  rw [tmod0]
  omega
theorem leap_gre {y : Int} : leapP 1 y ↔ (y % 4 = 0 ∧ ¬ y % 100 = 0) ∨ y % 400 = 0 := by
  unfold leapP
  rw [tmod0, tmod0, tmod0]
  omega
def tab12 : List Int := [31, 28, 31, 30, 31, 30, 31, 31, 30, 31, 30, 31]
def monthDays (c y m : Int) : Int :=
  if (c = 0 ∨ c = 1) ∧ 1 ≤ m ∧ m ≤ 12 then (if m = 2 ∧ leapP c y then 29 else tab12.getD (m - 1).toNat 0) else 0
theorem monthDays_no {c y m : Int} (h : ¬ ((c = 0 ∨ c = 1) ∧ 1 ≤ m ∧ m ≤ 12)) : monthDays c y m = 0 := by unfold monthDays; rw [if_neg h]
theorem month_cases {m : Int} (h1 : 1 ≤ m) (h2 : m ≤ 12) : m = 1 ∨ m = 2 ∨ m = 3 ∨ m = 4 ∨ m = 5 ∨ m = 6 ∨ m = 7 ∨ m = 8 ∨ m = 9 ∨ m = 10 ∨ m = 11 ∨ m = 12 := by omega
theorem monthDays_le (c y m : Int) : 0 ≤ monthDays c y m ∧ monthDays c y m ≤ 31 := by
  unfold monthDays
  split
  · rename_i h
    split
    · omega
    · rcases month_cases h.2.1 h.2.2 with rfl | rfl | rfl | rfl | rfl | rfl | rfl | rfl | rfl | rfl | rfl | rfl <;> decide
  · omega
theorem monthDays_ge {c y m : Int} (hc : c = 0 ∨ c = 1) (h1 : 1 ≤ m) (h2 : m ≤ 12) : 28 ≤ monthDays c y m := by
  unfold monthDays
  rw [if_pos ⟨hc, h1, h2⟩]
  split
  · omega
  · rcases month_cases h1 h2 with rfl | rfl | rfl | rfl | rfl | rfl | rfl | rfl | rfl | rfl | rfl | rfl <;> decide
theorem monthDays_plain {c y m : Int} (hc : c = 0 ∨ c = 1) (h1 : 1 ≤ m) (h2 : m ≤ 12) (hn : ¬ (m = 2 ∧ leapP c y)) : monthDays c y m = tab12.getD (m - 1).toNat 0 := by
  unfold monthDays
  rw [if_pos ⟨hc, h1, h2⟩, if_neg hn]
theorem monthDays_leap {c y : Int} (hc : c = 0 ∨ c = 1) (hl : leapP c y) : monthDays c y 2 = 29 := by
  unfold monthDays
  rw [if_pos ⟨hc, by omega, by omega⟩, if_pos ⟨rfl, hl⟩]
def dateP (c y m d : Int) : Prop := (c = 0 ∨ c = 1) ∧ 1 ≤ y ∧ y ≤ 3000 ∧ 1 ≤ d ∧ d ≤ monthDays c y m
instance (c y m d : Int) : Decidable (dateP c y m d) := by unfold dateP; infer_instance
def dateOk (c y m d : Int) : Bool := decide (dateP c y m d)
theorem dateP_month {c y m d : Int} (h : dateP c y m d) : 1 ≤ m ∧ m ≤ 12 := by
  obtain ⟨h1, h2, h3, h4, h5⟩ := h
  by_cases hm : 1 ≤ m ∧ m ≤ 12
  · exact hm
  · rw [monthDays_no (fun h => hm h.2)] at h5
    omega
theorem dateP_day {c y m d : Int} (h : dateP c y m d) : 1 ≤ d ∧ d ≤ 31 := by
  obtain ⟨h1, h2, h3, h4, h5⟩ := h
  have := monthDays_le c y m
  omega
def before (c y : Int) : Nat → Int
  | 0 => 0
  | k + 1 => before c y k + monthDays c y (k + 1 : Nat)
theorem before_bound (c y : Int) (k : Nat) : 0 ≤ before c y k ∧ before c y k ≤ 31 * k := by
  induction k with
  | zero => simp [before]
  | succ k ih =>
    have := monthDays_le c y (k + 1 : Nat)
    simp only [before]
    omega
theorem before_mono (c y : Int) (k j : Nat) : before c y k ≤ before c y (k + j) := by
  induction j with
  | zero => simp
  | succ j ih =>
    have := monthDays_le c y (k + j + 1 : Nat)
    show _ ≤ before c y (k + j) + monthDays c y (k + j + 1 : Nat)
    omega
theorem before_12 {c y : Int} (hc : c = 0 ∨ c = 1) : before c y 12 = 365 + (if leapP c y then 1 else 0) := by
  have m1 := monthDays_plain (y := y) hc (m := 1) (by omega) (by omega) (by omega)
  have m3 := monthDays_plain (y := y) hc (m := 3) (by omega) (by omega) (by omega)
  have m4 := monthDays_plain (y := y) hc (m := 4) (by omega) (by omega) (by omega)
  have m5 := monthDays_plain (y := y) hc (m := 5) (by omega) (by omega) (by omega)
  have m6 := monthDays_plain (y := y) hc (m := 6) (by omega) (by omega) (by omega)
  have m7 := monthDays_plain (y := y) hc (m := 7) (by omega) (by omega) (by omega)
  have m8 := monthDays_plain (y := y) hc (m := 8) (by omega) (by omega) (by omega)
  have m9 := monthDays_plain (y := y) hc (m := 9) (by omega) (by omega) (by omega)
  have m10 := monthDays_plain (y := y) hc (m := 10) (by omega) (by omega) (by omega)
  have m11 := monthDays_plain (y := y) hc (m := 11) (by omega) (by omega) (by omega)
  have m12 := monthDays_plain (y := y) hc (m := 12) (by omega) (by omega) (by omega)
  by_cases hl : leapP c y
  · have m2 := monthDays_leap hc hl
    simp [before, m1, m2, m3, m4, m5, m6, m7, m8, m9, m10, m11, m12, hl, tab12]
  · have m2 := monthDays_plain (y := y) hc (m := 2) (by omega) (by omega) (fun h => hl h.2)
    simp [before, m1, m2, m3, m4, m5, m6, m7, m8, m9, m10, m11, m12, hl, tab12]
def first (c y : Int) : Int := 365 * (y - 1) + (y - 1) / 4 + (if c = 0 then -1 else (y - 1) / 400 - (y - 1) / 100 + 1)
theorem first_jul (y : Int) : first 0 y = 365 * (y - 1) + (y - 1) / 4 - 1 := by unfold first; rw [if_pos rfl]; omega
theorem first_gre (y : Int) : first 1 y = 365 * (y - 1) + (y - 1) / 4 - (y - 1) / 100 + (y - 1) / 400 + 1 := by unfold first; rw [if_neg (by omega)]; omega
theorem first_step {c : Int} (hc : c = 0 ∨ c = 1) (y : Int) : first c (y + 1) = first c y + before c y 12 := by
  rw [before_12 hc]
  rcases hc with rfl | rfl
  · rw [first_jul, first_jul]
    by_cases h : leapP 0 y
    · rw [if_pos h]; rw [leap_jul] at h; omega
    · rw [if_neg h]; rw [leap_jul] at h; omega
  · rw [first_gre, first_gre]
    by_cases h : leapP 1 y
    · rw [if_pos h]; rw [leap_gre] at h; omega
    · rw [if_neg h]; rw [leap_gre] at h; omega
theorem first_lt {c y z : Int} (hc : c = 0 ∨ c = 1) (h : y < z) : first c y < first c z := by
  rcases hc with rfl | rfl
  · rw [first_jul, first_jul]; omega
  · rw [first_gre, first_gre]; omega
theorem year_one {c y z n : Int} (hc : c = 0 ∨ c = 1) (h1 : first c y ≤ n) (h2 : n < first c (y + 1)) (h3 : first c z ≤ n) (h4 : n < first c (z + 1)) : y = z := by
  by_cases h : y < z
  · by_cases h' : y + 1 = z
    · subst h'; omega
    · have := first_lt hc (show y + 1 < z by omega); omega
  · by_cases h' : z < y
    · by_cases h'' : z + 1 = y
      · subst h''; omega
      · have := first_lt hc (show z + 1 < y by omega); omega
    · omega
noncomputable def yearOf (c n : Int) : Int := Classical.epsilon fun y => first c y ≤ n ∧ n < first c (y + 1)
theorem yearOf_eq {c y n : Int} (hc : c = 0 ∨ c = 1) (h1 : first c y ≤ n) (h2 : n < first c (y + 1)) : yearOf c n = y := by
  have h := Classical.epsilon_spec (p := fun y => first c y ≤ n ∧ n < first c (y + 1)) ⟨y, h1, h2⟩
  exact year_one hc h.1 h.2 h1 h2
theorem month_one {c y n : Int} {k j : Nat} (h1 : before c y k ≤ n) (h2 : n < before c y (k + 1)) (h3 : before c y j ≤ n) (h4 : n < before c y (j + 1)) : k = j := by
  by_cases h : k < j
  · have := before_mono c y (k + 1) (j - (k + 1))
    rw [show k + 1 + (j - (k + 1)) = j from by omega] at this
    omega
  · by_cases h' : j < k
    · have := before_mono c y (j + 1) (k - (j + 1))
      rw [show j + 1 + (k - (j + 1)) = k from by omega] at this
      omega
    · omega
noncomputable def monthOf (c y n : Int) : Nat := Classical.epsilon fun k => before c y k ≤ n ∧ n < before c y (k + 1)
theorem monthOf_eq {c y n : Int} {k : Nat} (h1 : before c y k ≤ n) (h2 : n < before c y (k + 1)) : monthOf c y n = k := by
  have h := Classical.epsilon_spec (p := fun k => before c y k ≤ n ∧ n < before c y (k + 1)) ⟨k, h1, h2⟩
  exact month_one h.1 h.2 h1 h2
def dayOf (c y m d : Int) : Int := if dateP c y m d then first c y + before c y (m - 1).toNat + d - 1 else 0
theorem first_bound {c y : Int} (hc : c = 0 ∨ c = 1) (h1 : -5 ≤ y) (h2 : y ≤ 4000) : -2800 ≤ first c y ∧ first c y ≤ 1470000 := by
  rcases hc with rfl | rfl
  · rw [first_jul]; omega
  · rw [first_gre]; omega
theorem dayOf_bound (c y m d : Int) : -2800 ≤ dayOf c y m d ∧ dayOf c y m d ≤ 1500000 := by
  unfold dayOf
  split
  · rename_i h
    have h1 := first_bound h.1 (show -5 ≤ y by have := h.2.1; omega) (show y ≤ 4000 by have := h.2.2.1; omega)
    have h2 := before_bound c y (m - 1).toNat
    have h3 := dateP_month h
    have h4 := dateP_day h
    omega
  · omega
noncomputable def dateOf (c n : Int) : Int × Int × Int × Int × Bool :=
  if (c = 0 ∨ c = 1) ∧ 1 ≤ yearOf c n ∧ yearOf c n ≤ 3000 ∧ -1000 ≤ n ∧ n ≤ 1200000 then
    (c, yearOf c n, (monthOf c (yearOf c n) (n - first c (yearOf c n)) : Int) + 1, n - first c (yearOf c n) - before c (yearOf c n) (monthOf c (yearOf c n) (n - first c (yearOf c n))) + 1, true)
  else (0, 0, 0, 0, false)
theorem floorDiv_small {a b : Int} (hb : 0 < b) (h1 : -4611686018427387904 ≤ a) (h2 : a ≤ 4611686018427387904) : floorDiv a b = a / b := by
  have hd := Int.mul_tdiv_add_tmod a b
  have he := Int.mul_ediv_add_emod a b
  have he1 := Int.emod_nonneg a (show b ≠ 0 by omega)
  have he2 := Int.emod_lt_of_pos a hb
  have hq : (a.tdiv b).natAbs ≤ a.natAbs := by rw [Int.natAbs_tdiv]; exact Nat.div_le_self _ _
  have hr : a.tmod b < b := Int.tmod_lt_of_pos a hb
  have hl : -b < a.tmod b := by
    have := Int.tmod_lt_of_pos (-a) hb
    rw [Int.neg_tmod] at this
    omega
  unfold floorDiv
  rw [if_neg (by omega), in_range (a.tdiv b) (by omega)]
  by_cases h : a.tmod b < 0
  · rw [if_pos h, in_range _ (by omega)]
    apply Int.le_antisymm
    · rw [Int.le_ediv_iff_mul_le hb, Int.sub_mul, Int.mul_comm]; omega
    · have : a / b < a.tdiv b - 1 + 1 := by
        apply Int.ediv_lt_of_lt_mul hb
        rw [show a.tdiv b - 1 + 1 = a.tdiv b by omega, Int.mul_comm]; omega
      omega
  · rw [if_neg h]
    apply Int.le_antisymm
    · rw [Int.le_ediv_iff_mul_le hb, Int.mul_comm]; omega
    · have : a / b < a.tdiv b + 1 := by
        apply Int.ediv_lt_of_lt_mul hb
        rw [Int.add_mul, Int.mul_comm]; omega
      omega
end Go.Proofs.YtjojgfdfbkmlkaaGreatDoor.ctr
namespace Go.Proofs.YtjojgfdfbkmlkaaGreatDoor.ctr
open Go.RowKit
def nones (m : Int) : Int := if 1 ≤ m ∧ m ≤ 12 then (if m = 3 ∨ m = 5 ∨ m = 7 ∨ m = 10 then 7 else 5) else 0
def ides (m : Int) : Int := if 1 ≤ m ∧ m ≤ 12 then nones m + 8 else 0
theorem nones_b (m : Int) : 0 ≤ nones m ∧ nones m ≤ 7 := by
  unfold nones
  split
  · split <;> omega
  · omega
theorem ides_b (m : Int) : 0 ≤ ides m ∧ ides m ≤ 15 := by
  have := nones_b m
  unfold ides
  split <;> omega
theorem ides_in {m : Int} (h1 : 1 ≤ m) (h2 : m ≤ 12) : ides m = nones m + 8 := by unfold ides; rw [if_pos ⟨h1, h2⟩]
theorem nones_in {m : Int} (h1 : 1 ≤ m) (h2 : m ≤ 12) : 5 ≤ nones m := by
  unfold nones
  rw [if_pos ⟨h1, h2⟩]
  split <;> omega
structure Rom where
  count : Int
  mark : Int
  month : Int
  twice : Bool
instance : DecidableEq Rom := fun a b =>
  if h : a.count = b.count ∧ a.mark = b.mark ∧ a.month = b.month ∧ a.twice = b.twice then .isTrue (by cases a; cases b; simp at h; simp [h]) else .isFalse (fun e => h (by subst e; exact ⟨rfl, rfl, rfl, rfl⟩))
def countDays (c y m d : Int) : Int := if m = 2 ∧ d ≤ 24 then 28 else monthDays c y m
def romanIn (c y m d : Int) : Rom :=
  if d = 1 then ⟨1, 0, m, false⟩
  else if d ≤ nones m then ⟨nones m - d + 1, 1, m, false⟩
  else if d ≤ ides m then ⟨ides m - d + 1, 2, m, false⟩
  else ⟨countDays c y m d - d + 2, 0, m % 12 + 1, decide (m = 2 ∧ d = 24 ∧ leapP c y)⟩
def romanOf (c y m d : Int) : Rom := if dateP c y m d then romanIn c y m d else ⟨0, 0, 0, false⟩
def monAhead (m : Int) : Int := if m = 1 then 12 else m - 1
def invM (r : Rom) : Int := if r.mark = 0 ∧ r.count ≠ 1 then monAhead r.month else r.month
def invD (c y : Int) (r : Rom) : Int :=
  if r.mark = 0 then
    if r.count = 1 then 1
    else if monAhead r.month = 2 ∧ leapP c y ∧ (6 < r.count ∨ r.twice = true) then 30 - r.count
    else monthDays c y (monAhead r.month) + 2 - r.count
  else if r.mark = 1 then nones r.month + 1 - r.count
  else ides r.month + 1 - r.count
theorem inv_back {c y m d : Int} (h : dateP c y m d) : invM (romanOf c y m d) = m ∧ invD c y (romanOf c y m d) = d := by
  have hm := dateP_month h
  have hd := dateP_day h
  have hn := nones_in hm.1 hm.2
  have hi := ides_in hm.1 hm.2
  unfold romanOf
  rw [if_pos h]
  unfold romanIn
  by_cases h1 : d = 1
  · rw [if_pos h1]
    unfold invM invD
    simp [h1]
  rw [if_neg h1]
  by_cases h2 : d ≤ nones m
  · rw [if_pos h2]
    unfold invM invD
    simp
    omega
  rw [if_neg h2]
  by_cases h3 : d ≤ ides m
  · rw [if_pos h3]
    unfold invM invD
    simp
    omega
  rw [if_neg h3]
  have hA : monAhead (m % 12 + 1) = m := by unfold monAhead; split <;> omega
  have hmd := h.2.2.2.2
  have hc := h.1
  have hcd : countDays c y m d - d + 2 ≠ 1 := by
    unfold countDays
    split <;> omega
  unfold invM invD
  simp only [hA]
  rw [if_pos ⟨trivial, hcd⟩, if_pos trivial, if_neg hcd]
  refine ⟨rfl, ?_⟩
  by_cases e2 : m = 2
  · subst e2
    by_cases hl : leapP c y
    · have h29 := monthDays_leap hc hl
      rw [h29] at hmd
      by_cases h24 : d ≤ 24
      · have hk : countDays c y 2 d = 28 := by unfold countDays; rw [if_pos ⟨rfl, h24⟩]
        rw [hk, if_pos]
        · omega
        · refine ⟨rfl, hl, ?_⟩
          by_cases e : d = 24
          · right
            simp [e, hl]
          · left
            omega
      · have hk : countDays c y 2 d = 29 := by unfold countDays; rw [if_neg (fun h => h24 h.2), h29]
        rw [hk, h29, if_neg]
        · omega
        · rintro ⟨_, _, h | h⟩
          · omega
          · simp at h
            omega
    · rw [if_neg (fun h => hl h.2.1)]
      have h28 : monthDays c y 2 = 28 := monthDays_plain hc (by omega) (by omega) (fun h => hl h.2)
      unfold countDays
      rw [h28]
      split <;> omega
  · rw [if_neg (fun h => e2 h.1)]
    unfold countDays
    rw [if_neg (fun h => e2 h.1)]
    omega
def isDay (c y : Int) (r : Rom) (m d : Int) : Prop := dateP c y m d ∧ romanOf c y m d = r
theorem isDay_inv {c y m d : Int} {r : Rom} (h : isDay c y r m d) : m = invM r ∧ d = invD c y r := by
  have := inv_back h.1
  rw [h.2] at this
  exact ⟨this.1.symm, this.2.symm⟩
def dayR (c y : Int) (r : Rom) : Bool := decide (dateP c y (invM r) (invD c y r) ∧ romanOf c y (invM r) (invD c y r) = r)
theorem dayR_of {c y m d : Int} {r : Rom} (h : isDay c y r m d) : dayR c y r = true := by
  obtain ⟨rfl, rfl⟩ := isDay_inv h
  exact decide_eq_true h
instance (c y : Int) (r : Rom) (m d : Int) : Decidable (isDay c y r m d) := by unfold isDay; infer_instance
theorem dayR_is {c y : Int} {r : Rom} (h : dayR c y r = true) : isDay c y r (invM r) (invD c y r) := by
  unfold dayR at h
  exact of_decide_eq_true h
def dayOfRoman (c y : Int) (r : Rom) : Int × Int × Int × Int := if dayR c y r = true then (c, y, invM r, invD c y r) else (0, 0, 0, 0)
theorem romDay_yes {c y m d : Int} {r : Rom} (h : isDay c y r m d) : dayOfRoman c y r = (c, y, m, d) := by
  unfold dayOfRoman
  rw [if_pos (dayR_of h)]
  obtain ⟨rfl, rfl⟩ := isDay_inv h
  rfl
theorem romDay_no {c y : Int} {r : Rom} (h : ∀ m d, ¬ isDay c y r m d) : dayOfRoman c y r = (0, 0, 0, 0) := by
  unfold dayOfRoman
  rw [if_neg (fun k => h _ _ (dayR_is k))]
def romB (r : Rom) : Bool := dayR 0 4 r
theorem leap4 : leapP 0 4 := by decide
theorem romB_any {c y m d : Int} (h : dateP c y m d) : romB (romanOf c y m d) = true := by
  have hm := dateP_month h
  have hd := dateP_day h
  have hn := nones_in hm.1 hm.2
  have hi := ides_in hm.1 hm.2
  have hc := h.1
  have hmd := h.2.2.2.2
  by_cases e2 : m = 2
  · subst e2
    by_cases hlow : d ≤ 23 ∨ leapP c y
    · have hP : dateP 0 4 2 d := ⟨.inl rfl, by omega, by omega, h.2.2.2.1, by
        rw [monthDays_leap (.inl rfl) leap4]
        by_cases hl : leapP c y
        · rw [monthDays_leap hc hl] at hmd
          exact hmd
        · rw [monthDays_plain hc (by omega) (by omega) (fun h => hl h.2)] at hmd
          have : tab12.getD ((2 : Int) - 1).toNat 0 = 28 := rfl
          omega⟩
      refine dayR_of (m := 2) (d := d) ⟨hP, ?_⟩
      unfold romanOf
      rw [if_pos h, if_pos hP]
      have hcd : countDays 0 4 2 d = countDays c y 2 d := by
        unfold countDays
        by_cases h24 : d ≤ 24
        · rw [if_pos ⟨rfl, h24⟩, if_pos ⟨rfl, h24⟩]
        · have hl : leapP c y := by
            rcases hlow with h | h
            · omega
            · exact h
          rw [if_neg (fun h => h24 h.2), if_neg (fun h => h24 h.2), monthDays_leap (.inl rfl) leap4, monthDays_leap hc hl]
      have htw : decide ((2 : Int) = 2 ∧ d = 24 ∧ leapP 0 4) = decide ((2 : Int) = 2 ∧ d = 24 ∧ leapP c y) := by
        by_cases e : d = 24
        · have hl : leapP c y := by
            rcases hlow with h | h
            · omega
            · exact h
          simp [e, hl, leap4]
        · simp [e]
      unfold romanIn
      rw [hcd, htw]
    · have hl : ¬ leapP c y := fun k => hlow (.inr k)
      have h28 : monthDays c y 2 = 28 := monthDays_plain hc (by omega) (by omega) (fun h => hl h.2)
      rw [h28] at hmd
      have hP : dateP 0 4 2 (d + 1) := ⟨.inl rfl, by omega, by omega, by omega, by rw [monthDays_leap (.inl rfl) leap4]; omega⟩
      refine dayR_of (m := 2) (d := d + 1) ⟨hP, ?_⟩
      have hn2 : nones 2 = 5 := rfl
      have hi2 : ides 2 = 13 := rfl
      unfold romanOf
      rw [if_pos h, if_pos hP]
      unfold romanIn countDays
      rw [if_neg (by omega), if_neg (by omega), if_neg (by omega), if_neg (by omega), if_neg (by omega), if_neg (by omega), if_neg (by omega), monthDays_leap (.inl rfl) leap4, h28]
      simp [hl, show ¬ d + 1 = 24 by omega]
      omega
  · have hsame : monthDays 0 4 m = monthDays c y m := by
      rw [monthDays_plain hc hm.1 hm.2 (fun h => e2 h.1), monthDays_plain (.inl rfl) hm.1 hm.2 (fun h => e2 h.1)]
    have hP : dateP 0 4 m d := ⟨.inl rfl, by omega, by omega, h.2.2.2.1, by rw [hsame]; exact hmd⟩
    refine dayR_of (m := m) (d := d) ⟨hP, ?_⟩
    unfold romanOf
    rw [if_pos h, if_pos hP]
    unfold romanIn countDays
    rw [hsame]
    simp [e2]
theorem romB_of {c y m d : Int} {r : Rom} (h : isDay c y r m d) : romB r = true := by
  have := romB_any h.1
  rw [h.2] at this
  exact this
end Go.Proofs.YtjojgfdfbkmlkaaGreatDoor.ctr
namespace Go.Proofs.YtjojgfdfbkmlkaaGreatDoor.ctr
open Go.RowKit
theorem hideP {p : Prop} (h : p) : Hid p := h
structure Later (W : World) where
  w : World
  below : Below W.heap.size W w
instance (W : World) : Nonempty (Later W) := ⟨⟨W, Below.refl _ _⟩⟩
theorem Later.of {W w' : World} (h : Below W.heap.size W w') : ∃ x : Later W, w' = x.w := ⟨⟨w', h⟩, rfl⟩
theorem Later.on {W w' : World} (x : Later W) (h : Below x.w.heap.size x.w w') : Below W.heap.size W w' := x.below.trans (h.mono x.below.size)
theorem Later.next {W w' : World} (x : Later W) (h : Below x.w.heap.size x.w w') : ∃ y : Later W, w' = y.w := ⟨⟨w', x.on h⟩, rfl⟩
theorem Later.cell {W : World} (x : Later W) {p : Addr} (hp : p.block < W.heap.size) : x.w.cell? p = W.cell? p := x.below.cell hp
theorem Later.at {W : World} {p : Addr} {v : Value} (h : W.cell? p = some v) (x : Later W) : x.w.cell? p = some v := by
  have hp : p.block < W.heap.size := by
    unfold World.cell? at h
    by_cases hp : p.block < W.heap.size
    · exact hp
    · rw [Array.getElem?_eq_none (by omega)] at h
      simp at h
  rw [x.cell hp, h]
theorem calls_later {P : Program} {f : FuncId} {args : Array Value} {W : World} {x : Later W} {v : Value}
    (h : Calls P f args x.w fun e w' => e = .returned v ∧ Below x.w.heap.size x.w w') : Calls P f args x.w fun e w'' => e = .returned v ∧ ∃ y : Later W, w'' = y.w :=
  h.mono fun _ _ ⟨he, hm⟩ => ⟨he, x.next hm⟩
theorem calls_same {P : Program} {f : FuncId} {args : Array Value} {W : World} {x : Later W} {v : Value}
    (h : Calls P f args x.w fun e w' => e = .returned v ∧ w' = x.w) : Calls P f args x.w fun e w'' => e = .returned v ∧ ∃ y : Later W, w'' = y.w :=
  h.mono fun _ _ ⟨he, hm⟩ => ⟨he, x, hm⟩
theorem wp_region_later {P : Program} {id : Nat} {Q : Exit → Act → World → Prop} {a : Act} {W w : World} {l : List Oper} (hw : Below W.heap.size W w) (hm : P.follows .mixedOrders = true) (hB : Region.lexB .any l.toArray = true)
    (h : wpQuiet P l.toArray (fun w' => ∃ x : Later W, w' = x.w) (fun a' => ∀ w', (∃ x : Later W, w' = x.w) → Q .normal a' w') l a) : (Code.region id l.toArray true).wp P Q a w :=
  wp_region_quiet (C := fun w' => ∃ x : Later W, w' = x.w) hm hB (Later.of hw.drew) (by simpa using h)
theorem Below_drewN {B : Nat} {a w : World} (h : Below B a w) (n : Nat) : Below B a (w.drewN n) := ⟨h.os, h.tape, h.output, h.size, h.block⟩
theorem below_alloc {w w1 : World} {o : Obj} (h : Below (w.alloc o).heap.size (w.alloc o) w1) : Below w.heap.size w w1 :=
  ((Below.refl w.heap.size w).alloc (Nat.le_refl _) o).trans (h.mono (by rw [World.size_alloc]; omega))
theorem below_of_alloc {w w1 W0 : World} {o : Obj} (e : W0 = w.alloc o) (h : Below W0.heap.size W0 w1) : Below w.heap.size w w1 := by
  subst e
  exact below_alloc h
theorem Later.new {w W0 : World} {cs : Array Value} {t : TypeId} (e : W0 = w.alloc (.cells cs t)) (i : Nat) {v : Value} (h : cs[i]? = some v) (x : Later W0) : x.w.cell? ⟨w.heap.size, i, none⟩ = some v :=
  Later.at (by rw [e, World.cell?_alloc_at _ _ _ _ rfl]; exact h) x
end Go.Proofs.YtjojgfdfbkmlkaaGreatDoor.ctr
namespace Go.Proofs.YtjojgfdfbkmlkaaGreatDoor.ctr
open Go.RowKit
theorem nones_no {m : Int} (h : m < 1 ∨ 12 < m) : nones m = 0 := by unfold nones; rw [if_neg (by omega)]
theorem ides_no {m : Int} (h : m < 1 ∨ 12 < m) : ides m = 0 := by unfold ides; rw [if_neg (by omega)]
set_option maxHeartbeats 1000000 in
theorem specNones (m : Int) (w : World) : Calls Tryz.prog 222 #[.int .i64 m] w fun e w' => e = .returned (.int .i64 (nones m)) ∧ w' = w := by
  have KI : ∀ W, Calls Tryz.prog 96 #[.int .i64 m, .int .i64 1, .int .i64 12] W fun e w' => e = .returned (.bool (inB m 1 12)) ∧ w' = W := l01In m 1 12
  by_cases h : 1 ≤ m ∧ m ≤ 12
  case neg =>
    rw [nones_no (by omega)]
    rw [inB_false (by omega)] at KI
    go_enter Tryz.func222, Tryz.ntmps222
    go_wp2_with fail
    refine (KI _).mono ?_
    rintro e w1 ⟨rfl, rfl⟩
    go_wp2
    go_ret
    exact ⟨rfl, rfl⟩
  obtain ⟨h1, h2⟩ := h
  rw [inB_true h1 h2] at KI
  rcases month_cases h1 h2 with rfl | rfl | rfl | rfl | rfl | rfl | rfl | rfl | rfl | rfl | rfl | rfl
  all_goals
    go_enter Tryz.func222, Tryz.ntmps222
    go_wp2_with fail
    refine (KI _).mono ?_
    rintro e w1 ⟨rfl, rfl⟩
    go_wp2
    go_ret
    exact ⟨rfl, rfl⟩
set_option maxHeartbeats 1000000 in
theorem specIdes (m : Int) (w : World) : Calls Tryz.prog 223 #[.int .i64 m] w fun e w' => e = .returned (.int .i64 (ides m)) ∧ w' = w := by
  have KI : ∀ W, Calls Tryz.prog 96 #[.int .i64 m, .int .i64 1, .int .i64 12] W fun e w' => e = .returned (.bool (inB m 1 12)) ∧ w' = W := l01In m 1 12
  have KN : ∀ W, Calls Tryz.prog 222 #[.int .i64 m] W fun e w' => e = .returned (.int .i64 (nones m)) ∧ w' = W := specNones m
  have hb := nones_b m
  by_cases h : 1 ≤ m ∧ m ≤ 12
  · rw [ides_in h.1 h.2]
    rw [inB_true h.1 h.2] at KI
    generalize nones m = n at *
    go_enter Tryz.func223, Tryz.ntmps223
    go_wp2_with fail
    refine (KI _).mono ?_
    rintro e w1 ⟨rfl, rfl⟩
    go_wp2_with fail
    refine (KN _).mono ?_
    rintro e w1 ⟨rfl, rfl⟩
    go_wp2
    go_ret
    exact ⟨rfl, rfl⟩
  · rw [ides_no (by omega)]
    rw [inB_false (by omega)] at KI
    clear KN
    go_enter Tryz.func223, Tryz.ntmps223
    go_wp2_with fail
    refine (KI _).mono ?_
    rintro e w1 ⟨rfl, rfl⟩
    go_wp2
    go_ret
    exact ⟨rfl, rfl⟩
set_option maxHeartbeats 1000000 in
theorem implNones (m : Int) (w : World) : Calls Tryz.prog 309 #[.int .i64 m] w fun e w' => e = .returned (.int .i64 (nones m)) ∧ w' = w := by
  by_cases h : 1 ≤ m ∧ m ≤ 12
  · obtain ⟨h1, h2⟩ := h
    rcases month_cases h1 h2 with rfl | rfl | rfl | rfl | rfl | rfl | rfl | rfl | rfl | rfl | rfl | rfl
    all_goals
      go_enter Tryz.func309, Tryz.ntmps309
      go_wp2
      go_ret
      exact ⟨rfl, rfl⟩
  · rw [nones_no (by omega)]
    have e1 : (m == 1) = false := by simp; omega
    have e2 : (m == 2) = false := by simp; omega
    have e3 : (m == 3) = false := by simp; omega
    have e4 : (m == 4) = false := by simp; omega
    have e5 : (m == 5) = false := by simp; omega
    have e6 : (m == 6) = false := by simp; omega
    have e7 : (m == 7) = false := by simp; omega
    have e8 : (m == 8) = false := by simp; omega
    have e9 : (m == 9) = false := by simp; omega
    have e10 : (m == 10) = false := by simp; omega
    have e11 : (m == 11) = false := by simp; omega
    have e12 : (m == 12) = false := by simp; omega
    go_enter Tryz.func309, Tryz.ntmps309
    go_wp2
    go_ret
    exact ⟨rfl, rfl⟩
set_option maxHeartbeats 1000000 in
theorem implIdes (m : Int) (w : World) : Calls Tryz.prog 310 #[.int .i64 m] w fun e w' => e = .returned (.int .i64 (ides m)) ∧ w' = w := by
  have KN : ∀ W, Calls Tryz.prog 309 #[.int .i64 m] W fun e w' => e = .returned (.int .i64 (nones m)) ∧ w' = W := implNones m
  have hb := nones_b m
  by_cases h : 1 ≤ m ∧ m ≤ 12
  · rw [ides_in h.1 h.2]
    have h5 := nones_in h.1 h.2
    generalize nones m = n at *
    have hn : (n == 0) = false := by simp; omega
    go_enter Tryz.func310, Tryz.ntmps310
    go_wp2_with fail
    refine (KN _).mono ?_
    rintro e w1 ⟨rfl, rfl⟩
    go_wp2
    go_ret
    exact ⟨rfl, rfl⟩
  · rw [ides_no (by omega)]
    rw [nones_no (by omega)] at KN
    go_enter Tryz.func310, Tryz.ntmps310
    go_wp2_with fail
    refine (KN _).mono ?_
    rintro e w1 ⟨rfl, rfl⟩
    go_wp2
    go_ret
    exact ⟨rfl, rfl⟩
def markN (m k : Int) : Int := if k = 0 then 1 else if k = 1 then nones m else if k = 2 then ides m else 0
theorem markN_b (m k : Int) : 0 ≤ markN m k ∧ markN m k ≤ 15 := by
  have := nones_b m
  have := ides_b m
  unfold markN
  repeat' split
  all_goals omega
set_option maxHeartbeats 1000000 in
theorem implMarkDay (m k : Int) (w : World) : Calls Tryz.prog 276 #[.int .i64 m, .int .i64 k] w fun e w' => e = .returned (.int .i64 (markN m k)) ∧ w' = w := by
  by_cases h0 : k = 0
  · subst h0
    rw [show markN m 0 = 1 from rfl]
    go_enter Tryz.func276, Tryz.ntmps276
    go_wp2
    go_ret
    exact ⟨rfl, rfl⟩
  have e0 : (k == 0) = false := by simp [h0]
  by_cases h1 : k = 1
  · subst h1
    rw [show markN m 1 = nones m from rfl]
    have KN := implNones m
    generalize nones m = n at *
    go_enter Tryz.func276, Tryz.ntmps276
    go_wp2_with fail
    refine (KN _).mono ?_
    rintro e w1 ⟨rfl, rfl⟩
    go_wp2
    go_ret
    exact ⟨rfl, rfl⟩
  have e1 : (k == 1) = false := by simp [h1]
  by_cases h2 : k = 2
  · subst h2
    rw [show markN m 2 = ides m from rfl]
    have KN := implIdes m
    generalize ides m = n at *
    go_enter Tryz.func276, Tryz.ntmps276
    go_wp2_with fail
    refine (KN _).mono ?_
    rintro e w1 ⟨rfl, rfl⟩
    go_wp2
    go_ret
    exact ⟨rfl, rfl⟩
  have e2 : (k == 2) = false := by simp [h2]
  rw [show markN m k = 0 from by unfold markN; rw [if_neg h0, if_neg h1, if_neg h2]]
  go_enter Tryz.func276, Tryz.ntmps276
  go_wp2
  go_ret
  exact ⟨rfl, rfl⟩
theorem implMonthBehind (m : Int) (w : World) (h1 : 1 ≤ m) (h2 : m ≤ 12) : Calls Tryz.prog 277 #[.int .i64 m] w fun e w' => e = .returned (.int .i64 (m % 12 + 1)) ∧ w' = w := by
  go_enter Tryz.func277, Tryz.ntmps277
  go_wp2
  go_ret
  exact ⟨rfl, rfl⟩
def monAheadW (m : Int) : Int := if m = 1 then 12 else wrap64 (m - 1)
theorem implMonthAhead (m : Int) (w : World) : Calls Tryz.prog 346 #[.int .i64 m] w fun e w' => e = .returned (.int .i64 (monAheadW m)) ∧ w' = w := by
  by_cases h : m = 1
  · subst h
    go_enter Tryz.func346, Tryz.ntmps346
    go_wp2
    go_ret
    exact ⟨rfl, rfl⟩
  · have e0 : (m == 1) = false := by simp [h]
    have HR : Hid (monAheadW m = wrap64 (m - 1)) := by unfold Hid monAheadW; rw [if_neg h]
    go_enter Tryz.func346, Tryz.ntmps346
    go_wp2
    go_ret
    exact ⟨ret_int HR.out.symm, rfl⟩
end Go.Proofs.YtjojgfdfbkmlkaaGreatDoor.ctr
namespace Go.Proofs.YtjojgfdfbkmlkaaGreatDoor.ctr
open Go.RowKit
theorem specCal (c : Int) (w : World) : Calls Tryz.prog 114 #[.int .i64 c] w fun e w' => e = .returned (.bool (calB c)) ∧ w' = w := by
  by_cases h0 : c = 0
  · subst h0
    go_enter Tryz.func114, Tryz.ntmps114
    go_wp2
    go_ret
    exact ⟨by first | rfl | exact ret_bool (by simp [*]), rfl⟩
  by_cases h1 : c = 1
  · subst h1
    go_enter Tryz.func114, Tryz.ntmps114
    go_wp2
    go_ret
    exact ⟨by first | rfl | exact ret_bool (by simp [*]), rfl⟩
  rw [calB_no (by omega)]
  go_enter Tryz.func114, Tryz.ntmps114
  go_wp2
  go_ret
  exact ⟨by first | rfl | exact ret_bool (by simp [*]), rfl⟩
theorem leapB_true {c y : Int} (h : leapP c y) : leapB c y = true := decide_eq_true h
theorem leapB_false {c y : Int} (h : ¬ leapP c y) : leapB c y = false := decide_eq_false h
theorem specLeap (c y : Int) (w : World) : Calls Tryz.prog 178 #[.int .i64 c, .int .i64 y] w fun e w' => e = .returned (.bool (leapB c y)) ∧ w' = w := by
  by_cases h0 : c = 0
  · subst h0
    by_cases h4 : y.tmod 4 = 0
    · rw [leapB_true (.inl ⟨rfl, h4⟩)]
      go_enter Tryz.func178, Tryz.ntmps178
      go_wp2
      go_ret
      exact ⟨by first | rfl | exact ret_bool (by simp [*]), rfl⟩
    · rw [leapB_false (by unfold leapP; omega)]
      go_enter Tryz.func178, Tryz.ntmps178
      go_wp2
      go_ret
      exact ⟨by first | rfl | exact ret_bool (by simp [*]), rfl⟩
  by_cases h1 : c = 1
  · subst h1
    by_cases h4 : y.tmod 4 = 0
    · by_cases h100 : y.tmod 100 = 0
      · by_cases h400 : y.tmod 400 = 0
        · rw [leapB_true (.inr ⟨rfl, .inr h400⟩)]
          go_enter Tryz.func178, Tryz.ntmps178
          go_wp2
          go_ret
          exact ⟨by first | rfl | exact ret_bool (by simp [*]), rfl⟩
        · rw [leapB_false (by unfold leapP; omega)]
          go_enter Tryz.func178, Tryz.ntmps178
          go_wp2
          go_ret
          exact ⟨by first | rfl | exact ret_bool (by simp [*]), rfl⟩
      · rw [leapB_true (.inr ⟨rfl, .inl ⟨h4, h100⟩⟩)]
        go_enter Tryz.func178, Tryz.ntmps178
        go_wp2
        go_ret
        exact ⟨by first | rfl | exact ret_bool (by simp [*]), rfl⟩
    · have h400 : ¬ y.tmod 400 = 0 := fun h => h4 (tmod_four h)
      rw [leapB_false (by unfold leapP; omega)]
      go_enter Tryz.func178, Tryz.ntmps178
      go_wp2
      go_ret
      exact ⟨by first | rfl | exact ret_bool (by simp [*]), rfl⟩
  rw [leapB_false (by unfold leapP; omega)]
  go_enter Tryz.func178, Tryz.ntmps178
  go_wp2
  go_ret
  exact ⟨by first | rfl | exact ret_bool (by simp [*]), rfl⟩
theorem implCal0 (w : World) : Calls Tryz.prog 144 #[.int .i64 0] w fun e w' => e = .returned (.iface 224 (.agg #[])) ∧ w' = w := by
  go_enter Tryz.func144, Tryz.ntmps144
  go_wp2
  go_ret
  exact ⟨rfl, rfl⟩
theorem implCal1 (w : World) : Calls Tryz.prog 144 #[.int .i64 1] w fun e w' => e = .returned (.iface 225 (.agg #[])) ∧ w' = w := by
  go_enter Tryz.func144, Tryz.ntmps144
  go_wp2
  go_ret
  exact ⟨rfl, rfl⟩
theorem implCalNo (c : Int) (h0 : ¬ c = 0) (h1 : ¬ c = 1) (w : World) : Calls Tryz.prog 144 #[.int .i64 c] w fun e w' => e = .returned .nilIface ∧ w' = w := by
  go_enter Tryz.func144, Tryz.ntmps144
  go_wp2
  go_ret
  exact ⟨rfl, rfl⟩
/- What a type switch asks of a calendar: closed facts over the program's tables. -/
theorem isJulJul (w : World) : (Instr.typeAssert (.iface 224 (.agg #[])) 167 224 true).run Tryz.prog w = .ok (.tuple #[.agg #[], .bool true]) w := by kernel_rfl
theorem isJulGre (w : World) : (Instr.typeAssert (.iface 225 (.agg #[])) 167 224 true).run Tryz.prog w = .ok (.tuple #[.agg #[], .bool false]) w := by kernel_rfl
theorem isGreGre (w : World) : (Instr.typeAssert (.iface 225 (.agg #[])) 167 225 true).run Tryz.prog w = .ok (.tuple #[.agg #[], .bool true]) w := by kernel_rfl
theorem leapJul (y : Int) (w : World) : Calls Tryz.prog 394 #[.agg #[], .int .i64 y] w fun e w' => e = .returned (.bool (leapB 0 y)) ∧ Below w.heap.size w w' := by
  have h : leapB 0 y = (y.tmod 4 == 0) := by
    by_cases h : y.tmod 4 = 0
    · rw [leapB_true (.inl ⟨rfl, h⟩), h]; rfl
    · rw [leapB_false (by unfold leapP; omega)]; simp [h]
  rw [h]
  clear h
  go_enter Tryz.func394, Tryz.ntmps394
  go_wp2
  go_ret
  exact ⟨rfl, (Below.refl _ _).alloc (Nat.le_refl _) _⟩
theorem leapGre (y : Int) (w : World) : Calls Tryz.prog 396 #[.agg #[], .int .i64 y] w fun e w' => e = .returned (.bool (leapB 1 y)) ∧ Below w.heap.size w w' := by
  by_cases h4 : y.tmod 4 = 0
  · by_cases h100 : y.tmod 100 = 0
    · by_cases h400 : y.tmod 400 = 0
      · rw [leapB_true (.inr ⟨rfl, .inr h400⟩)]
        go_enter Tryz.func396, Tryz.ntmps396
        go_wp2
        go_ret
        exact ⟨by first | rfl | exact ret_bool (by simp [*]), (Below.refl _ _).alloc (Nat.le_refl _) _⟩
      · rw [leapB_false (by unfold leapP; omega)]
        go_enter Tryz.func396, Tryz.ntmps396
        go_wp2
        go_ret
        exact ⟨by first | rfl | exact ret_bool (by simp [*]), (Below.refl _ _).alloc (Nat.le_refl _) _⟩
    · rw [leapB_true (.inr ⟨rfl, .inl ⟨h4, h100⟩⟩)]
      go_enter Tryz.func396, Tryz.ntmps396
      go_wp2
      go_ret
      exact ⟨by first | rfl | exact ret_bool (by simp [*]), (Below.refl _ _).alloc (Nat.le_refl _) _⟩
  · have h400 : ¬ y.tmod 400 = 0 := fun h => h4 (tmod_four h)
    rw [leapB_false (by unfold leapP; omega)]
    go_enter Tryz.func396, Tryz.ntmps396
    go_wp2
    go_ret
    exact ⟨by first | rfl | exact ret_bool (by simp [*]), (Below.refl _ _).alloc (Nat.le_refl _) _⟩
theorem implLeap (c y : Int) (w : World) : Calls Tryz.prog 244 #[.int .i64 c, .int .i64 y] w fun e w' => e = .returned (.bool (leapB c y)) ∧ Below w.heap.size w w' := by
  by_cases h0 : c = 0
  · subst h0
    go_enter Tryz.func244, Tryz.ntmps244
    go_wp2_with fail
    refine (implCal0 _).mono ?_
    rintro e w1 ⟨rfl, rfl⟩
    go_wp2_with (go_at_call 394; refine (leapJul _ _).mono ?_; rintro e w1 ⟨rfl, hb⟩)
    go_ret
    exact ⟨rfl, hb⟩
  by_cases h1 : c = 1
  · subst h1
    go_enter Tryz.func244, Tryz.ntmps244
    go_wp2_with fail
    refine (implCal1 _).mono ?_
    rintro e w1 ⟨rfl, rfl⟩
    go_wp2_with (go_at_call 396; refine (leapGre _ _).mono ?_; rintro e w1 ⟨rfl, hb⟩)
    go_ret
    exact ⟨rfl, hb⟩
  rw [leapB_false (by unfold leapP; omega)]
  go_enter Tryz.func244, Tryz.ntmps244
  go_wp2_with fail
  refine (implCalNo _ h0 h1 _).mono ?_
  rintro e w1 ⟨rfl, rfl⟩
  go_wp2
  go_ret
  exact ⟨rfl, Below.refl _ _⟩
end Go.Proofs.YtjojgfdfbkmlkaaGreatDoor.ctr
namespace Go.Proofs.YtjojgfdfbkmlkaaGreatDoor.ctr
open Go.RowKit
def calT (c : Int) : TypeId := if c = 0 then 224 else 225
theorem implCal (c : Int) (h : c = 0 ∨ c = 1) (w : World) : Calls Tryz.prog 144 #[.int .i64 c] w fun e w' => e = .returned (.iface (calT c) (.agg #[])) ∧ w' = w := by
  rcases h with rfl | rfl
  · exact implCal0 w
  · exact implCal1 w
abbrev Tab (w : World) : Prop := Lib.TabIs Tryz.prog w "loop.example/g00638/impl.monthLengths" .i64 tab12
theorem tabCell {w : World} (h : Tab w) (i : Nat) (hi : i < 12) : w.cell? ⟨1, i, none⟩ = some (.int .i64 (tab12.getD i 0)) :=
  h.cell (by kernel_rfl) i hi
theorem Tab.later {w w1 : World} (h : Tab w) (hb : Below w.heap.size w w1) : Tab w1 := kit.tab_below h hb (g := 1) (by kernel_rfl)
set_option maxHeartbeats 2000000 in
theorem implMonthDays (c y m : Int) (w : World) (hT : Tab w) : Calls Tryz.prog 191 #[.int .i64 c, .int .i64 y, .int .i64 m] w fun e w' => e = .returned (.int .i64 (monthDays c y m)) ∧ Below w.heap.size w w' := by
  by_cases hc : c = 0 ∨ c = 1
  · have KC := fun W => implCal c hc W
    by_cases h1 : m < 1
    · rw [monthDays_no (by omega)]
      clear hT hc
      go_enter Tryz.func191, Tryz.ntmps191
      go_wp2_with (go_at_call 144; refine (KC _).mono ?_; rintro e w1 ⟨rfl, rfl⟩)
      go_ret
      exact ⟨rfl, Below.refl _ _⟩
    by_cases h2 : 12 < m
    · rw [monthDays_no (by omega)]
      clear hT hc
      go_enter Tryz.func191, Tryz.ntmps191
      go_wp2_with (go_at_call 144; refine (KC _).mono ?_; rintro e w1 ⟨rfl, rfl⟩)
      go_ret
      exact ⟨rfl, Below.refl _ _⟩
    by_cases hm : m = 2
    · subst hm
      have hL : ∀ W, Calls Tryz.prog 244 #[.int .i64 c, .int .i64 y] W fun e w' => e = .returned (.bool (leapB c y)) ∧ Below W.heap.size W w' := implLeap c y
      have c1 : ∀ x : Later w, x.w.cell? ⟨1, 1, none⟩ = some (.int .i64 28) := Later.at (tabCell hT 1 (by omega))
      by_cases hl : leapP c y
      · rw [leapB_true hl] at hL
        rw [monthDays_leap hc hl]
        clear hT hc hl
        go_enter Tryz.func191, Tryz.ntmps191
        go_wp2_with (first | (go_at_call 144; refine (KC _).mono ?_; rintro e w1 ⟨rfl, rfl⟩) | (go_at_call 244; refine (hL _).mono ?_; rintro e w2 ⟨rfl, hb⟩; obtain ⟨x, rfl⟩ := Later.of hb))
        go_ret
        exact ⟨rfl, x.below⟩
      · rw [leapB_false hl] at hL
        rw [monthDays_plain hc (by omega) (by omega) (fun h => hl h.2)]
        clear hT hc hl
        go_enter Tryz.func191, Tryz.ntmps191
        go_wp2_with (first | (go_at_call 144; refine (KC _).mono ?_; rintro e w1 ⟨rfl, rfl⟩) | (go_at_call 244; refine (hL _).mono ?_; rintro e w2 ⟨rfl, hb⟩; obtain ⟨x, rfl⟩ := Later.of hb))
        go_ret
        exact ⟨rfl, x.below⟩
    rw [monthDays_plain hc (by omega) (by omega) (fun h => hm h.1)]
    clear hc
    rcases month_cases (m := m) (by omega) (by omega) with rfl | rfl | rfl | rfl | rfl | rfl | rfl | rfl | rfl | rfl | rfl | rfl
    · have c1 := tabCell hT 0 (by omega)
      clear hT h1 h2 hm
      go_enter Tryz.func191, Tryz.ntmps191
      go_wp2_with (go_at_call 144; refine (KC _).mono ?_; rintro e w1 ⟨rfl, rfl⟩)
      go_ret
      exact ⟨rfl, Below.refl _ _⟩
    · exact absurd rfl hm
    · have c1 := tabCell hT 2 (by omega)
      clear hT h1 h2 hm
      go_enter Tryz.func191, Tryz.ntmps191
      go_wp2_with (go_at_call 144; refine (KC _).mono ?_; rintro e w1 ⟨rfl, rfl⟩)
      go_ret
      exact ⟨rfl, Below.refl _ _⟩
    · have c1 := tabCell hT 3 (by omega)
      clear hT h1 h2 hm
      go_enter Tryz.func191, Tryz.ntmps191
      go_wp2_with (go_at_call 144; refine (KC _).mono ?_; rintro e w1 ⟨rfl, rfl⟩)
      go_ret
      exact ⟨rfl, Below.refl _ _⟩
    · have c1 := tabCell hT 4 (by omega)
      clear hT h1 h2 hm
      go_enter Tryz.func191, Tryz.ntmps191
      go_wp2_with (go_at_call 144; refine (KC _).mono ?_; rintro e w1 ⟨rfl, rfl⟩)
      go_ret
      exact ⟨rfl, Below.refl _ _⟩
    · have c1 := tabCell hT 5 (by omega)
      clear hT h1 h2 hm
      go_enter Tryz.func191, Tryz.ntmps191
      go_wp2_with (go_at_call 144; refine (KC _).mono ?_; rintro e w1 ⟨rfl, rfl⟩)
      go_ret
      exact ⟨rfl, Below.refl _ _⟩
    · have c1 := tabCell hT 6 (by omega)
      clear hT h1 h2 hm
      go_enter Tryz.func191, Tryz.ntmps191
      go_wp2_with (go_at_call 144; refine (KC _).mono ?_; rintro e w1 ⟨rfl, rfl⟩)
      go_ret
      exact ⟨rfl, Below.refl _ _⟩
    · have c1 := tabCell hT 7 (by omega)
      clear hT h1 h2 hm
      go_enter Tryz.func191, Tryz.ntmps191
      go_wp2_with (go_at_call 144; refine (KC _).mono ?_; rintro e w1 ⟨rfl, rfl⟩)
      go_ret
      exact ⟨rfl, Below.refl _ _⟩
    · have c1 := tabCell hT 8 (by omega)
      clear hT h1 h2 hm
      go_enter Tryz.func191, Tryz.ntmps191
      go_wp2_with (go_at_call 144; refine (KC _).mono ?_; rintro e w1 ⟨rfl, rfl⟩)
      go_ret
      exact ⟨rfl, Below.refl _ _⟩
    · have c1 := tabCell hT 9 (by omega)
      clear hT h1 h2 hm
      go_enter Tryz.func191, Tryz.ntmps191
      go_wp2_with (go_at_call 144; refine (KC _).mono ?_; rintro e w1 ⟨rfl, rfl⟩)
      go_ret
      exact ⟨rfl, Below.refl _ _⟩
    · have c1 := tabCell hT 10 (by omega)
      clear hT h1 h2 hm
      go_enter Tryz.func191, Tryz.ntmps191
      go_wp2_with (go_at_call 144; refine (KC _).mono ?_; rintro e w1 ⟨rfl, rfl⟩)
      go_ret
      exact ⟨rfl, Below.refl _ _⟩
    · have c1 := tabCell hT 11 (by omega)
      clear hT h1 h2 hm
      go_enter Tryz.func191, Tryz.ntmps191
      go_wp2_with (go_at_call 144; refine (KC _).mono ?_; rintro e w1 ⟨rfl, rfl⟩)
      go_ret
      exact ⟨rfl, Below.refl _ _⟩
  rw [monthDays_no (fun h => hc h.1)]
  clear hT
  go_enter Tryz.func191, Tryz.ntmps191
  go_wp2_with (go_at_call 144; refine (implCalNo c (by omega) (by omega) _).mono ?_; rintro e w1 ⟨rfl, rfl⟩)
  go_ret
  exact ⟨rfl, Below.refl _ _⟩
end Go.Proofs.YtjojgfdfbkmlkaaGreatDoor.ctr
