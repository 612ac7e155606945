/- Contract of the model's DayOfRoman: it answers its plain function. Contracts of the model's l01Many, l01Digit and PutRoman: PutRoman answers the plain function putRoman at every int; nothing is written. Contracts of the model's l01Worth and GetRoman: GetRoman answers the plain function getRoman at every text of at most 1048576 bytes; nothing is written. -/
import Derived.Test.YtilpencbbdpgfaaGreatDoorJnQbb
import Derived.Test.YtilpencbbdpgfaaGreatDoorJnQbc
import Derived.Test.YtilpencbbdpgfaaGreatDoorJnQaa
import Derived.Handy
namespace Go.Proofs.YtilpencbbdpgfaaGreatDoor.ctr
open Go.RowKit
def yrP (c y : Int) : Prop := (c = 0 ∨ c = 1) ∧ 1 ≤ y ∧ y ≤ 3000
instance (c y : Int) : Decidable (yrP c y) := by unfold yrP; infer_instance
structure ESt (w : World) (cn mk mo : Int) (tw : Bool) (W : World) : Prop where
  below : Below w.heap.size w W
  rom : Blk W w.heap.size #[.int .i64 cn, .int .i64 mk, .int .i64 mo, .bool tw] 55
  res : Blk W (w.heap.size + 1) #[.int .i64 0, .int .i64 0, .int .i64 0, .int .i64 0] 92
theorem ESt.later {w : World} {cn mk mo : Int} {tw : Bool} {W W' : World} (h : ESt w cn mk mo tw W) (hb : Below W.heap.size W W') : ESt w cn mk mo tw W' :=
  ⟨h.below.trans (hb.mono h.below.size), h.rom.below hb h.rom.lt, h.res.below hb h.res.lt⟩
end Go.Proofs.YtilpencbbdpgfaaGreatDoor.ctr
namespace Go.Proofs.YtilpencbbdpgfaaGreatDoor.ctr
open Go.RowKit
def digL (d : Nat) (a b c : UInt8) : List UInt8 :=
  match d with
  | 1 => [a] | 2 => [a, a] | 3 => [a, a, a] | 4 => [a, b] | 5 => [b] | 6 => [b, a] | 7 => [b, a, a] | 8 => [b, a, a, a] | 9 => [a, c] | _ => []
def manyL (c : UInt8) (n : Nat) : List UInt8 := List.replicate n c
theorem manyL_snoc (c : UInt8) (n : Nat) : manyL c n ++ [c] = manyL c (n + 1) := by simp [manyL, List.replicate_succ']
def roman (n : Nat) : List UInt8 := manyL 77 (n / 1000) ++ digL (n / 100 % 10) 67 68 77 ++ digL (n / 10 % 10) 88 76 67 ++ digL (n % 10) 73 86 88
def putRoman (n : Int) : ByteArray := ⟨(if 1 ≤ n ∧ n ≤ 3999 then roman n.toNat else []).toArray⟩
theorem join_list (a b : List UInt8) : (⟨a.toArray⟩ : ByteArray) ++ ⟨b.toArray⟩ = ⟨(a ++ b).toArray⟩ := by
  apply WideShapes.bytes_inj
  simp
theorem digit_cases {d : Int} (h0 : 0 ≤ d) (h1 : d ≤ 9) : d = 0 ∨ d = 1 ∨ d = 2 ∨ d = 3 ∨ d = 4 ∨ d = 5 ∨ d = 6 ∨ d = 7 ∨ d = 8 ∨ d = 9 := by omega
set_option maxHeartbeats 400000 in
theorem l01Many (c : UInt8) (n : Int) (w : World) (h0 : 0 ≤ n) (h3 : n ≤ 1000) :
    Calls Tryz.prog 314 #[.string ⟨#[c]⟩, .int .i64 n] w fun e w' => e = .returned (.string ⟨(manyL c n.toNat).toArray⟩) ∧ w' = w := by
  go_enter Tryz.func314, Tryz.ntmps314
  go_wp2
  go_loop [5, 6] (fun o i => ∃ k : Nat, (k : Int) ≤ n ∧ i = .int .i64 k ∧ ∃ l : List UInt8, l.length = k ∧ o = .string ⟨l.toArray⟩ ∧ Hid (l = manyL c k)) (fun _ i => n.toNat - (intOf i).toNat)
  case atStart => exact ⟨0, by omega, rfl, [], rfl, rfl, rfl⟩
  case round =>
    obtain ⟨k, hk, rfl, l, hl, rfl, HL⟩ := hrel
    have hl' : l.length ≤ 1000 := by omega
    have HK : Hid (l.length = k) := hl
    clear hl
    by_cases hlt : (k : Int) < n
    · go_wp2
      refine ⟨⟨k + 1, by omega, by go_num, l ++ [c], by simp [HK.out], ?_, by unfold Hid; rw [HL.out, manyL_snoc]⟩, by simp [intOf]; omega⟩
      exact congrArg Value.string (join_list l [c])
    · have e : n.toNat = k := by omega
      have HE : Hid (n.toNat = k) := e
      clear e
      go_wp2
      go_ret
      exact ⟨ret_str (by rw [HE.out, HL.out]), rfl⟩
set_option maxHeartbeats 1000000 in
theorem l01Digit (d : Int) (a b c : UInt8) (w : World) (h0 : 0 ≤ d) (h9 : d ≤ 9) :
    Calls Tryz.prog 315 #[.int .i64 d, .string ⟨#[a]⟩, .string ⟨#[b]⟩, .string ⟨#[c]⟩] w fun e w' => e = .returned (.string ⟨(digL d.toNat a b c).toArray⟩) ∧ w' = w := by
  rcases digit_cases h0 h9 with rfl | rfl | rfl | rfl | rfl | rfl | rfl | rfl | rfl | rfl
  all_goals
    go_enter Tryz.func315, Tryz.ntmps315
    go_wp2_with (go_at_call 314; refine (l01Many _ _ _ (by omega) (by omega)).mono ?_; rintro e w' ⟨rfl, rfl⟩)
    go_ret
    exact ⟨rfl, rfl⟩
end Go.Proofs.YtilpencbbdpgfaaGreatDoor.ctr
namespace Go.Proofs.YtilpencbbdpgfaaGreatDoor.ctr
open Go.RowKit
def worth (x : Int) : Int := if x = 73 then 1 else if x = 86 then 5 else if x = 88 then 10 else if x = 76 then 50 else if x = 67 then 100 else if x = 68 then 500 else if x = 77 then 1000 else 0
def byteAt (s : ByteArray) (k : Nat) : Int := ((s.data.toList.getD k 0).toNat : Int)
def stepAt (s : ByteArray) (k : Nat) : Int := if k + 1 < s.size ∧ worth (byteAt s k) < worth (byteAt s (k + 1)) then -worth (byteAt s k) else worth (byteAt s k)
def sumR (s : ByteArray) : Nat → Int
  | 0 => 0
  | k + 1 => sumR s k + stepAt s k
def getRoman (s : ByteArray) : Int := if putRoman (sumR s s.size) = s then sumR s s.size else 0
set_option maxHeartbeats 1000000 in
theorem l01Worth (x : Int) (w : World) : Calls Tryz.prog 302 #[.int .u8 x] w fun e w' => e = .returned (.int .i64 (worth x)) ∧ w' = w := by
  by_cases c1 : x = 73
  · subst c1; go_enter Tryz.func302, Tryz.ntmps302; go_wp2; go_ret; exact ⟨rfl, rfl⟩
  by_cases c2 : x = 86
  · subst c2; go_enter Tryz.func302, Tryz.ntmps302; go_wp2; go_ret; exact ⟨rfl, rfl⟩
  by_cases c3 : x = 88
  · subst c3; go_enter Tryz.func302, Tryz.ntmps302; go_wp2; go_ret; exact ⟨rfl, rfl⟩
  by_cases c4 : x = 76
  · subst c4; go_enter Tryz.func302, Tryz.ntmps302; go_wp2; go_ret; exact ⟨rfl, rfl⟩
  by_cases c5 : x = 67
  · subst c5; go_enter Tryz.func302, Tryz.ntmps302; go_wp2; go_ret; exact ⟨rfl, rfl⟩
  by_cases c6 : x = 68
  · subst c6; go_enter Tryz.func302, Tryz.ntmps302; go_wp2; go_ret; exact ⟨rfl, rfl⟩
  by_cases c7 : x = 77
  · subst c7; go_enter Tryz.func302, Tryz.ntmps302; go_wp2; go_ret; exact ⟨rfl, rfl⟩
  have HW : Hid (worth x = 0) := by unfold Hid worth; simp [c1, c2, c3, c4, c5, c6, c7]
  go_enter Tryz.func302, Tryz.ntmps302
  go_wp2
  go_ret
  exact ⟨ret_int HW.out.symm, rfl⟩
end Go.Proofs.YtilpencbbdpgfaaGreatDoor.ctr
