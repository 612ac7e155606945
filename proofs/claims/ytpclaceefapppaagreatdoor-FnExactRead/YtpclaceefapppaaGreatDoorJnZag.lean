/- errors.Is by its contracts, where the target is the program's errNoTable: false at nil, true at a wrongReign (; and what else the law reaches. -/
import Derived.Test.YtpclaceefapppaaGreatDoorJnZaa
import Derived.LaidEql
import Derived.Stop.Asserts
import Derived.RowKitTokens
import Derived.Deep.WholeRow
import Derived.Handy
import Derived.Laws.AppendOwn
import Derived.Laws.OwnMore
import Derived.OwnWalk
import Derived.RangeFuncBox
import Derived.Maps.AppendAt
import Derived.Lib.AppendZerosOnto
import Derived.Lib.SliceRun
import Derived.Test.YtpclaceefapppaaGreatDoorJnZab
import Derived.Lib.SmallJoins
set_option maxRecDepth 100000
set_option maxHeartbeats 4000000
namespace Go.Proofs.YtpclaceefapppaaGreatDoor.ctr
open Go.RowKit Go.Extern.Stop Go.Stop Go.Extern
theorem isTypeOf (v : Value) (w : World) : (Extern.ReflectliteType.typeOf #[.iface 358 v]).run Tryz.prog w = .ok (.iface 270 (.agg #[.pointer (some ⟨10, 358, none⟩)])) w := by kernel_rfl
def cmpEntry : Array Value → Sem Value := Extern.ReflectliteType.method fun t => do Rtype.noPackHeld "Comparable" t; pure (.bool (← typeInfo t).comparable)
theorem isComparable (w : World) : (cmpEntry #[.agg #[.pointer (some ⟨10, 358, none⟩)]]).run Tryz.prog w = .ok (.bool true) w := by kernel_rfl
theorem isMethodComparable (v : Value) (w : World) : (Go.method 389 270 v "Comparable").run Tryz.prog w = .ok (390, v) w := by kernel_rfl
theorem isComp : (Tryz.prog.info? 358).map (·.comparable) = some true := by kernel_rfl
theorem isSize : (Tryz.prog.info? 377).map (·.size) = some 1 := by kernel_rfl
theorem noIsR (v : Value) (xT : TypeId) (w : World) : (Instr.typeAssert (.iface 213 v) xT 272 true).run Tryz.prog w = .ok (.tuple #[.nilIface, .bool false]) w := run_typeAssert_lacksB Tryz.underlying272 (by kernel_rfl) (by kernel_rfl) v xT w
theorem hasUnwrapR (v : Value) (xT : TypeId) (w : World) : (Instr.typeAssert (.iface 213 v) xT 275 true).run Tryz.prog w = .ok (.tuple #[.iface 213 v, .bool true]) w := run_typeAssert_hasB Tryz.underlying275 (by kernel_rfl) v xT w
theorem methodUnwrap (v : Value) (w : World) : (Go.method 389 213 v "Unwrap").run Tryz.prog w = .ok (374, v) w := by kernel_rfl
def Sent (w : World) (a : Addr) : Prop := w.cell? ⟨0, 0, none⟩ = some (.iface 358 (.pointer (some a)))
theorem Sent.later {w w' : World} {a : Addr} (h : Sent w a) (hb : Below w.heap.size w w') : Sent w' a := Later.at h ⟨w', hb⟩
theorem implUnwrap (z : Int) (a : Addr) (w : World) (h : Sent w a) : CR 374 #[.agg #[.int .i64 z]] w (.iface 358 (.pointer (some a))) := by
 have hb : Below w.heap.size w (w.alloc (.cells #[.int .i64 z] 213)) := (Below.refl _ _).alloc (Nat.le_refl _) _
 have h1 : Sent (w.alloc (.cells #[.int .i64 z] 213)) a := h.later hb
 have HB := hideP hb
 unfold Sent at h1
 clear hb h
 go_enter Tryz.func374, Tryz.ntmps374
 go_wp2
 go_ret
 exact ⟨rfl, HB.out⟩
theorem isWrong (z : Int) (a : Addr) (w : World) (h : Sent w a) : CR 182 #[.iface 213 (.agg #[.int .i64 z]), .iface 358 (.pointer (some a)), .bool true] w (.bool true) := by
 obtain ⟨i, hi, hcmp⟩ := Option.map_eq_some_iff.1 isComp
 obtain ⟨j, hj, hjs⟩ := Option.map_eq_some_iff.1 isSize
 have nW := noIsR
 have uW := hasUnwrapR
 have mU := methodUnwrap
 have heq := fun W => run_eql_iface_ptr_same (P := Tryz.prog) W a Tryz.underlying144 Tryz.underlying358 hi hcmp hj
 have hty := fun W => run_eql_iface_types (P := Tryz.prog) 213 358 (.agg #[.int .i64 z]) (.pointer (some a)) Tryz.underlying144 (by decide) W
 go_enter Tryz.func182, Tryz.ntmps182
 go_wp2
 refine wp_loop_rounds 2 ?_
 rw [rounds_succ]
 go_wp2_with fail
 refine (implUnwrap z a _ h).mono ?_
 rintro e w1 ⟨rfl, hb⟩
 have HB := hideP hb
 clear hb
 go_wp2
 rw [rounds_succ]
 go_wp2
 go_ret
 exact ⟨rfl, HB.out⟩
theorem implIsWrong (z : Int) (a : Addr) (w : World) (h : Sent w a) : CR 128 #[.iface 213 (.agg #[.int .i64 z]), .iface 358 (.pointer (some a))] w (.bool true) := by
 have h8 := @run_callFunc_extern Tryz.prog 181 _ Extern.ReflectliteType.typeOf Tryz.func181 (by kernel_rfl) (by kernel_rfl) (by kernel_rfl) (by kernel_rfl)
 have h32 := @run_callFunc_extern Tryz.prog 390 _ cmpEntry Tryz.func390 (by kernel_rfl) (by kernel_rfl) (by kernel_rfl) (by kernel_rfl)
 have tT := isTypeOf
 have cT := isComparable
 have mR := isMethodComparable
 go_enter Tryz.func128, Tryz.ntmps128
 go_wp2_with fail
 refine (isWrong z a _ h).mono ?_
 rintro e w1 ⟨rfl, hb⟩
 have HB := hideP hb
 clear hb
 go_wp2
 go_ret
 exact ⟨rfl, HB.out⟩
theorem implIsNil (b : Addr) (w : World) : CR 128 #[.nilIface, .iface 358 (.pointer (some b))] w (.bool false) := by
 have hn := run_eql_iface_nil_left (P := Tryz.prog) w 358 (.pointer (some b)) Tryz.underlying144
 go_enter Tryz.func128, Tryz.ntmps128
 go_wp2
 go_ret
 exact ⟨rfl, Below.refl _ _⟩
end Go.Proofs.YtpclaceefapppaaGreatDoor.ctr
namespace Go.Proofs.YtpclaceefapppaaGreatDoor.kit
open Go.RowKit Go.WideShapes Go.Deep Go.ChangeShapes
end Go.Proofs.YtpclaceefapppaaGreatDoor.kit
namespace Go.Proofs.YtpclaceefapppaaGreatDoor.ctr
open Go.RowKit
def lowB (c : UInt8) : Bool := inB c.toNat 97 122
def lows (s : ByteArray) (k : Nat) : Bool := (s.data.toList.take k).all lowB
def nameOk (s : ByteArray) : Bool := inB s.size 1 16 && lows s s.size
theorem lows_succ (s : ByteArray) (k : Nat) (h : k < s.size) (h1 : lows s k = true) (h2 : lowB s[k] = true) : lows s (k + 1) = true := by
 unfold lows at *
 rw [take_snoc s k h, List.all_append, h1]
 simp [h2]
theorem lows_stop (s : ByteArray) (k : Nat) (h : k < s.size) (h2 : lowB s[k] = false) : nameOk s = false := by
 have : lows s s.size = false := by
  unfold lows
  rw [List.all_eq_false]
  refine ⟨s[k], ?_, by simp [h2]⟩
  rw [List.take_of_length_le (show s.data.toList.length ≤ s.size from Nat.le_refl _)]
  exact List.getElem_mem (l := s.data.toList) (n := k) h
 simp [nameOk, this]
theorem lows_done (s : ByteArray) (k : Nat) (h : k = s.size) (h1 : lows s k = true) : nameOk s = inB s.size 1 16 := by
 subst h
 simp [nameOk, h1]
theorem specNameOk (s : ByteArray) (w : World) (hs : s.size ≤ maxLen) :
    CS 57 #[.string s] w (.bool (nameOk s)) := by
  unfold maxLen at hs
  go_enter Tryz.func57, Tryz.ntmps57
  go_wp2
  go_loop [3] (fun i => ∃ k : Nat, k ≤ s.size ∧ i = .int .i64 k ∧ lows s k = true) (fun i => s.size - (intOf i).toNat)
  case atStart => exact ⟨0, Nat.zero_le _, rfl, by simp [lows]⟩
  case round =>
   obtain ⟨k, hk, rfl, hl⟩ := hrel
   have HL : Hid (lows s k = true) := hl
   clear hl
   by_cases hlt : k < s.size
   · cases hb : lowB s[k]
     · have HB : Hid (nameOk s = false) := lows_stop s k hlt hb
       have hb' : inB (wrap64 (s[k].toNat : Int)) 97 122 = false := by rw [byte64]; exact hb
       clear hb
       go_wp2_with (go_at_call 98; refine (l01In _ _ _ _).mono ?_; rintro e w' ⟨rfl, rfl⟩)
       go_ret
       exact ⟨ret_bool HB.out.symm, rfl⟩
     · have HN : Hid (lows s (k + 1) = true) := lows_succ s k hlt HL.out hb
       have hb' : inB (wrap64 (s[k].toNat : Int)) 97 122 = true := by rw [byte64]; exact hb
       clear hb
       go_wp2_with (go_at_call 98; refine (l01In _ _ _ _).mono ?_; rintro e w' ⟨rfl, rfl⟩)
       exact ⟨⟨k + 1, by omega, by go_num, HN.out⟩, by simp [intOf]; omega⟩
   · have HD : Hid (nameOk s = inB s.size 1 16) := lows_done s k (by omega) HL.out
     go_wp2_with (go_at_call 98; refine (l01In _ _ _ _).mono ?_; rintro e w' ⟨rfl, rfl⟩)
     go_ret
     exact ⟨ret_bool HD.out.symm, rfl⟩
theorem implNameOk (s : ByteArray) (w : World) (hs : s.size ≤ maxLen) :
    CS 73 #[.string s] w (.bool (nameOk s)) := by
  unfold maxLen at hs
  by_cases h1 : s.size < 1
  · have HB : Hid (nameOk s = false) := by unfold Hid nameOk; rw [inB_false (.inl (by omega))]; rfl
    go_enter Tryz.func73, Tryz.ntmps73
    go_wp2
    go_ret
    exact ⟨ret_bool HB.out.symm, rfl⟩
  by_cases h2 : 16 < s.size
  · have HB : Hid (nameOk s = false) := by unfold Hid nameOk; rw [inB_false (.inr (by omega))]; rfl
    go_enter Tryz.func73, Tryz.ntmps73
    go_wp2
    go_ret
    exact ⟨ret_bool HB.out.symm, rfl⟩
  go_enter Tryz.func73, Tryz.ntmps73
  go_wp2
  go_loop [14] (fun i => ∃ k : Nat, k ≤ s.size ∧ i = .int .i64 k ∧ lows s k = true) (fun i => s.size - (intOf i).toNat)
  case atStart => exact ⟨0, Nat.zero_le _, rfl, by simp [lows]⟩
  case round =>
   obtain ⟨k, hk, rfl, hl⟩ := hrel
   have HL : Hid (lows s k = true) := hl
   clear hl
   by_cases hlt : k < s.size
   · by_cases c1 : (s[k].toNat : Int) < 97
     · have HB : Hid (nameOk s = false) := lows_stop s k hlt (inB_false (.inl c1))
       go_wp2
       go_ret
       exact ⟨ret_bool HB.out.symm, rfl⟩
     · by_cases c2 : 122 < (s[k].toNat : Int)
       · have HB : Hid (nameOk s = false) := lows_stop s k hlt (inB_false (.inr c2))
         go_wp2
         go_ret
         exact ⟨ret_bool HB.out.symm, rfl⟩
       · have HN : Hid (lows s (k + 1) = true) := lows_succ s k hlt HL.out (inB_true (by omega) (by omega))
         go_wp2
         exact ⟨⟨k + 1, by omega, by go_num, HN.out⟩, by simp [intOf]; omega⟩
   · have HD : Hid (nameOk s = true) := by unfold Hid; rw [lows_done s k (by omega) HL.out, inB_true (by omega) (by omega)]
     go_wp2
     go_ret
     exact ⟨ret_bool HD.out.symm, rfl⟩
def golden (y : Int) : Int := if 1 ≤ y ∧ y ≤ 3000 then y % 19 + 1 else 0
theorem wpList_load_row {P : Program} (w : World) {ops : Array Oper} {rest : List Oper} {o : Oper} {a : Act} {Q : Exit → Act → World → Prop}
    (hg : o.guard = none) (t : TypeId) (p : Operand) (hop : o.op = .load t p) (g : Nat) (cs : Array Value) (hp : a.eval p = .pointer (some ⟨g, 0, none⟩)) (hb : Blk w g cs t)
    (d : TypeDesc) (hu : P.underlying t = some d) (hd : (match d with | .struct _ | .array _ _ => true | _ => false) = true) (hi : (P.info? t).map (·.size) = some cs.size)
    (h : wpList P ops Q rest (a.put o.dst (.agg cs)) w) : wpList P ops Q (o :: rest) a w := by
  have hrun := run_loadVar_row (P := P) w g t t cs (0, 0) d hb hu hd hi
  refine wpList_plain hg fun K hK' => ?_
  unfold Oper.wp
  simp [execOp, hop, hp, Instr.loadAt, Instr.sureAddr, hrun, Result.andThen]
  exact hK' _ _ h
theorem wpList_store_row {P : Program} (w : World) {ops : Array Oper} {rest : List Oper} {o : Oper} {a : Act} {Q : Exit → Act → World → Prop}
    (hg : o.guard = none) (t : TypeId) (p v : Operand) (hop : o.op = .store t p v) (g : Nat) (old cs : Array Value) (hp : a.eval p = .pointer (some ⟨g, 0, none⟩)) (hv : a.eval v = .agg cs) (hb : Blk w g old t)
    (hi : (P.info? t).map (·.size) = some cs.size) (ho : old.size = cs.size) (h1 : cs.all (·.oneCell') = true)
    (h : wpList P ops Q rest (a.put o.dst undef) (w.setRow g cs)) : wpList P ops Q (o :: rest) a w := by
  have hrun := run_storeVar_row (P := P) w g t t old cs hb hi ho h1
  refine wpList_plain hg fun K hK' => ?_
  unfold Oper.wp
  simp [execOp, hop, hp, hv, Instr.storeAt, Instr.sureAddr, hrun, Result.andThen]
  exact hK' _ _ h
theorem Blk.setRow {w : World} {g : Nat} {old : Array Value} {t : TypeId} (h : Blk w g old t) (cs : Array Value) : Blk (w.setRow g cs) g cs t := setRow_heap w g old cs t (0, 0) h
theorem below_setRow {V W : World} (h : Below V.heap.size V W) {g : Nat} (cs : Array Value) (hb : V.heap.size ≤ g) : Below V.heap.size V (W.setRow g cs) :=
 ⟨h.os, h.tape, h.output, by rw [setRow_size]; exact h.size, fun k hk => by rw [setRow_other W g k cs (by omega)]; exact h.block k hk⟩
structure Fea where
 name : ByteArray
 mv : Bool
 off : Int
 m : Int
 d : Int
def Fea.cs (f : Fea) : List Value := [.string f.name, .bool f.mv, .int .i64 f.off, .int .i64 f.m, .int .i64 f.d]
def fea0 : Fea := ⟨⟨#[]⟩, false, 0, 0, 0⟩
def feasts : List Fea := [
  ⟨⟨#[115, 101, 112, 116, 117, 97, 103, 101, 115, 105, 109, 97]⟩, true, -63, 0, 0⟩,
  ⟨⟨#[97, 115, 104]⟩, true, -46, 0, 0⟩,
  ⟨⟨#[112, 97, 108, 109]⟩, true, -7, 0, 0⟩,
  ⟨⟨#[101, 97, 115, 116, 101, 114]⟩, true, 0, 0, 0⟩,
  ⟨⟨#[113, 117, 97, 115, 105, 109, 111, 100, 111]⟩, true, 7, 0, 0⟩,
  ⟨⟨#[114, 111, 103, 97, 116, 105, 111, 110]⟩, true, 35, 0, 0⟩,
  ⟨⟨#[97, 115, 99, 101, 110, 115, 105, 111, 110]⟩, true, 39, 0, 0⟩,
  ⟨⟨#[112, 101, 110, 116, 101, 99, 111, 115, 116]⟩, true, 49, 0, 0⟩,
  ⟨⟨#[116, 114, 105, 110, 105, 116, 121]⟩, true, 56, 0, 0⟩,
  ⟨⟨#[99, 111, 114, 112, 117, 115]⟩, true, 60, 0, 0⟩,
  ⟨⟨#[101, 112, 105, 112, 104, 97, 110, 121]⟩, false, 0, 1, 6⟩,
  ⟨⟨#[99, 97, 110, 100, 108, 101, 109, 97, 115]⟩, false, 0, 2, 2⟩,
  ⟨⟨#[97, 110, 110, 117, 110, 99, 105, 97, 116, 105, 111, 110]⟩, false, 0, 3, 25⟩,
  ⟨⟨#[103, 101, 111, 114, 103, 101]⟩, false, 0, 4, 23⟩,
  ⟨⟨#[106, 111, 104, 110]⟩, false, 0, 6, 24⟩,
  ⟨⟨#[97, 115, 115, 117, 109, 112, 116, 105, 111, 110]⟩, false, 0, 8, 15⟩,
  ⟨⟨#[109, 105, 99, 104, 97, 101, 108]⟩, false, 0, 9, 29⟩,
  ⟨⟨#[115, 97, 105, 110, 116, 115]⟩, false, 0, 11, 1⟩,
  ⟨⟨#[109, 97, 114, 116, 105, 110]⟩, false, 0, 11, 11⟩,
  ⟨⟨#[99, 104, 114, 105, 115, 116, 109, 97, 115]⟩, false, 0, 12, 25⟩]
def feaAt (k : Nat) : Fea := feasts.getD k fea0
def feaCells : List Value := feasts.flatMap Fea.cs
theorem feaAt_size0 : ∀ i : Fin 20, (feaAt i.val).name.size ≤ 16 := by decide
theorem feasts_len : feasts.length = 20 := rfl
theorem feaCells_len : feaCells.length = 100 := rfl
theorem flat5 {j : Nat} (hj : j < 5) : ∀ (l : List Fea) (k : Nat), k < l.length → (l.flatMap Fea.cs)[k * 5 + j]? = (l.getD k fea0).cs[j]?
  | [], k, h => by simp at h
  | f :: l, 0, _ => by
   rw [List.flatMap_cons, List.getElem?_append_left (by simp [Fea.cs]; omega)]
   simp
  | f :: l, k + 1, h => by
   have ih := flat5 hj l k (by simpa using h)
   rw [List.flatMap_cons, List.getElem?_append_right (by simp [Fea.cs]; omega), show (k + 1) * 5 + j - f.cs.length = k * 5 + j from by simp [Fea.cs]; omega, ih]
   simp
theorem feaCell {k j : Nat} (hk : k < 20) (hj : j < 5) : feaCells[k * 5 + j]? = (feaAt k).cs[j]? := flat5 hj feasts k hk
def findFrom (s : ByteArray) : List Fea → Nat → Int
  | [], _ => -1
  | f :: l, k => if f.name = s then (k : Int) else findFrom s l (k + 1)
def findFeast (s : ByteArray) : Int := findFrom s feasts 0
theorem drop_at (k : Nat) (h : k < 20) : feasts.drop k = feaAt k :: feasts.drop (k + 1) := by
 rw [List.drop_eq_getElem_cons (show k < feasts.length from h)]
 unfold feaAt
 rw [List.getD, List.getElem?_eq_getElem (show k < feasts.length from h)]
 rfl
theorem find_hit {s : ByteArray} {k : Nat} (h : k < 20) (hn : (feaAt k).name = s) (hf : findFrom s (feasts.drop k) k = findFeast s) : findFeast s = k := by
 rw [← hf, drop_at k h, findFrom, if_pos hn]
theorem find_miss {s : ByteArray} {k : Nat} (h : k < 20) (hn : (feaAt k).name ≠ s) (hf : findFrom s (feasts.drop k) k = findFeast s) : findFrom s (feasts.drop (k + 1)) (k + 1) = findFeast s := by
 rw [← hf, drop_at k h, findFrom, if_neg hn]
theorem find_end {s : ByteArray} {k : Nat} (h : 20 ≤ k) (hf : findFrom s (feasts.drop k) k = findFeast s) : findFeast s = -1 := by
 rw [← hf, List.drop_eq_nil_of_le (by rw [feasts_len]; exact h), findFrom]
theorem findFrom_b (s : ByteArray) : ∀ (l : List Fea) (k : Nat), findFrom s l k = -1 ∨ ((k : Int) ≤ findFrom s l k ∧ findFrom s l k < ((k + l.length : Nat) : Int))
  | [], _ => .inl rfl
  | f :: l, k => by
   rw [findFrom]
   split
   · right; simp; omega
   · rcases findFrom_b s l (k + 1) with h | ⟨h1, h2⟩
     · exact .inl h
     · right
       simp at h1 h2 ⊢
       omega
theorem find_b (s : ByteArray) : -1 ≤ findFeast s ∧ findFeast s < 20 := by
 rcases findFrom_b s feasts 0 with h | ⟨h1, h2⟩
 · unfold findFeast; omega
 · have h2' : findFrom s feasts 0 < 20 := h2
   unfold findFeast
   omega
def FeaRow (W : World) (v : Value) : Prop := ∃ g cap, v = .slice (some ⟨g, 0, none⟩) 20 cap ∧ g < W.heap.size ∧ ∀ k, k < 20 → ∀ j, j < 5 → W.cell? ⟨g, k * 5 + j, none⟩ = (feaAt k).cs[j]?
theorem FeaRow.below {W W' : World} {v : Value} (h : FeaRow W v) (hb : Below W.heap.size W W') : FeaRow W' v := by
 obtain ⟨g, cap, rfl, hg, hc⟩ := h
 exact ⟨g, cap, rfl, Nat.lt_of_lt_of_le hg hb.size, fun k hk j hj => (hb.cell (p := ⟨g, k * 5 + j, none⟩) hg).trans (hc k hk j hj)⟩
def FeaOwn (w W : World) (v : Value) : Prop := W.ownsRow w.heap.size 126 5 v 20 feaCells
theorem FeaOwn.row {w W : World} {v : Value} (h : FeaOwn w W v) : FeaRow W v := by
 rcases h.2 with ⟨_, h0⟩ | ⟨g, cap, cur, hv, hb, hh, hcap, _, hsz, htake⟩
 · simp at h0
 · subst hv
   refine ⟨g, cap, rfl, (Array.getElem?_eq_some_iff.1 hh).1, fun k hk j hj => ?_⟩
   rw [← feaCell hk hj, ← htake, List.getElem?_take, if_pos (by omega)]
   simp [World.cell?, hh]
theorem specMoves4 (s : ByteArray) (o : Int) (w : World) : CR 149 #[.string s, .int .i64 o] w (.agg #[.string s, .bool true, .int .i64 o, .int .i64 0, .int .i64 0]) := by
 go_enter Tryz.func149, Tryz.ntmps149
 go_wp2
 go_returns
 refine ⟨rfl, ?_⟩
 go_grown
theorem specFixed4 (s : ByteArray) (m d : Int) (w : World) : CR 150 #[.string s, .int .i64 m, .int .i64 d] w (.agg #[.string s, .bool false, .int .i64 0, .int .i64 m, .int .i64 d]) := by
 go_enter Tryz.func150, Tryz.ntmps150
 go_wp2
 go_returns
 refine ⟨rfl, ?_⟩
 go_grown
theorem implOnEaster (s : ByteArray) (o : Int) (w : World) : CR 173 #[.string s, .int .i64 o] w (.agg #[.string s, .bool true, .int .i64 o, .int .i64 0, .int .i64 0]) := by
 go_enter Tryz.func173, Tryz.ntmps173
 go_wp2
 go_returns
 refine ⟨rfl, ?_⟩
 go_grown
theorem implOnDate (s : ByteArray) (m d : Int) (w : World) : CR 175 #[.string s, .int .i64 m, .int .i64 d] w (.agg #[.string s, .bool false, .int .i64 0, .int .i64 m, .int .i64 d]) := by
 go_enter Tryz.func175, Tryz.ntmps175
 go_wp2
 go_returns
 refine ⟨rfl, ?_⟩
 go_grown
theorem row_new {w W : World} {cs : Array Value} {t : TypeId} {n : Nat} {xs : List Value} (hb : w.heap.size ≤ W.heap.size) (hn : n ≤ maxLen) (hs : cs.size = n * 5) (hx : cs.toList = xs) :
    (W.alloc (.cells cs t)).ownsRow w.heap.size t 5 (.slice (some ⟨W.heap.size, 0, none⟩) n n) n xs := by
  have hl : xs.length = n * 5 := by rw [← hx, Array.length_toList, hs]
  exact ⟨hl, .inr ⟨W.heap.size, n, cs, rfl, hb, heap_alloc_new W _, Nat.le_refl _, hn, hs, by rw [hx, List.take_of_length_le (by omega)]⟩⟩
theorem specFeasts (w : World) : Calls Tryz.prog 102 #[] w fun e w' => ∃ v, e = .returned v ∧ FeaOwn w w' v ∧ Below w.heap.size w w' := by
 go_enter Tryz.func102, Tryz.ntmps102
 go_wp2_with fail
 refine latO (specMoves4 _ _ _) fun x1 => ?_
 go_wp2_with fail
 refine lat (specMoves4 _ _ _) fun x2 => ?_
 go_wp2_with fail
 refine lat (specMoves4 _ _ _) fun x3 => ?_
 go_wp2_with fail
 refine lat (specMoves4 _ _ _) fun x4 => ?_
 go_wp2_with fail
 refine lat (specMoves4 _ _ _) fun x5 => ?_
 go_wp2_with fail
 refine lat (specMoves4 _ _ _) fun x6 => ?_
 go_wp2_with fail
 refine lat (specMoves4 _ _ _) fun x7 => ?_
 go_wp2_with fail
 refine lat (specMoves4 _ _ _) fun x8 => ?_
 go_wp2_with fail
 refine lat (specMoves4 _ _ _) fun x9 => ?_
 go_wp2_with fail
 refine lat (specMoves4 _ _ _) fun x10 => ?_
 go_wp2_with fail
 refine lat (specFixed4 _ _ _ _) fun x11 => ?_
 go_wp2_with fail
 refine lat (specFixed4 _ _ _ _) fun x12 => ?_
 go_wp2_with fail
 refine lat (specFixed4 _ _ _ _) fun x13 => ?_
 go_wp2_with fail
 refine lat (specFixed4 _ _ _ _) fun x14 => ?_
 go_wp2_with fail
 refine lat (specFixed4 _ _ _ _) fun x15 => ?_
 go_wp2_with fail
 refine lat (specFixed4 _ _ _ _) fun x16 => ?_
 go_wp2_with fail
 refine lat (specFixed4 _ _ _ _) fun x17 => ?_
 go_wp2_with fail
 refine lat (specFixed4 _ _ _ _) fun x18 => ?_
 go_wp2_with fail
 refine lat (specFixed4 _ _ _ _) fun x19 => ?_
 go_wp2_with fail
 refine lat (specFixed4 _ _ _ _) fun x20 => ?_
 go_wp2
 go_ret
 exact ⟨_, rfl, row_new x20.below.size (by unfold maxLen; omega) rfl rfl, x20.below.alloc x20.below.size _⟩
theorem info_fea : (Tryz.prog.info? 126).map (fun i => (i.zero, i.size, i.bytes)) = some (some (.agg #[.string ⟨#[]⟩, .bool false, .int .i64 0, .int .i64 0, .int .i64 0]), 5, 48) := by kernel_rfl
theorem make10 (w : World) : (Instr.makeSlice 127 (.int .i64 0) (.int .i64 10)).run Tryz.prog w = .ok (.slice (some ⟨w.heap.size, 0, none⟩) 0 10) (w.alloc (.cells #[.string ⟨#[]⟩, .bool false, .int .i64 0, .int .i64 0, .int .i64 0, .string ⟨#[]⟩, .bool false, .int .i64 0, .int .i64 0, .int .i64 0, .string ⟨#[]⟩, .bool false, .int .i64 0, .int .i64 0, .int .i64 0, .string ⟨#[]⟩, .bool false, .int .i64 0, .int .i64 0, .int .i64 0, .string ⟨#[]⟩, .bool false, .int .i64 0, .int .i64 0, .int .i64 0, .string ⟨#[]⟩, .bool false, .int .i64 0, .int .i64 0, .int .i64 0, .string ⟨#[]⟩, .bool false, .int .i64 0, .int .i64 0, .int .i64 0, .string ⟨#[]⟩, .bool false, .int .i64 0, .int .i64 0, .int .i64 0, .string ⟨#[]⟩, .bool false, .int .i64 0, .int .i64 0, .int .i64 0, .string ⟨#[]⟩, .bool false, .int .i64 0, .int .i64 0, .int .i64 0] 126)) := by kernel_rfl
theorem fea_take (k : Nat) (hk : k < 20) : feaCells.take ((k + 1) * 5) = feaCells.take (k * 5) ++ (feaAt k).cs := by
 apply List.ext_getElem?
 intro i
 by_cases h1 : i < k * 5
 · rw [List.getElem?_append_left (by rw [List.length_take, feaCells_len]; omega), List.getElem?_take, List.getElem?_take, if_pos (by omega), if_pos h1]
 · rw [List.getElem?_append_right (by rw [List.length_take, feaCells_len]; omega), List.getElem?_take, List.length_take, feaCells_len, Nat.min_eq_left (by omega)]
   by_cases h2 : i < (k + 1) * 5
   · rw [if_pos h2, ← feaCell hk (show i - k * 5 < 5 by omega), show k * 5 + (i - k * 5) = i by omega]
   · rw [if_neg h2, List.getElem?_eq_none (by simp [Fea.cs]; omega)]
theorem own_base5 {w : World} {base e size : Nat} {v : Value} {n : Nat} {xs : List Value} (h : w.ownsRow base e size v n xs) : ∀ k, v.ownBlock = some k → base ≤ k := by
 obtain ⟨_, h | ⟨g, cap, cur, rfl, hb, _⟩⟩ := h
 · obtain ⟨rfl, _⟩ := h
   intro k hk
   cases hk
 · intro k hk
   cases hk
   exact hb
theorem sz_new (W : World) (o : Obj) : (W.alloc o).heap.size = W.heap.size + 1 := by simp [World.alloc, -World.alloc_eq]
theorem cells_new5 (W : World) (cs : List Value) (t : TypeId) {n : Nat} (hn : n = W.heap.size) : ∀ (j : Nat) (u : Value), cs[j]? = some u → (W.alloc (.cells cs.toArray t)).cell? ((⟨n, 0, none⟩ : Addr).add j) = some u := by
 intro j u h
 subst hn
 have ha : (⟨W.heap.size, 0, none⟩ : Addr).add j = ⟨W.heap.size, j, none⟩ := by unfold Addr.add; split <;> simp_all
 rw [ha]
 simp [World.alloc, World.cell?, h, -World.alloc_eq]
theorem cells_add {w : World} {g : Nat} {xs : List Value} (h : ∀ j u, xs[j]? = some u → w.cell? ⟨g, j, none⟩ = some u) : ∀ (j : Nat) (u : Value), xs[j]? = some u → w.cell? ((⟨g, 0, none⟩ : Addr).add j) = some u := by
 intro j u hj
 have ha : (⟨g, 0, none⟩ : Addr).add j = ⟨g, j, none⟩ := by unfold Addr.add; split <;> simp_all
 rw [ha]
 exact h j u hj
theorem fea_one : ∀ u ∈ feaCells, u.oneCell' = true := List.all_eq_true.1 (show feaCells.all Value.oneCell' = true by decide)
theorem cells_row {w : World} {base e : Nat} {v : Value} {n : Nat} {xs : List Value} (h : w.ownsRow base e 5 v n xs) (hn : n ≠ 0) : ∃ g cap, v = .slice (some ⟨g, 0, none⟩) n cap ∧ base ≤ g ∧ g < w.heap.size ∧ ∀ j u, xs[j]? = some u → w.cell? ⟨g, j, none⟩ = some u := by
 have hc := fun g => h.cells (g := g)
 rcases h.2 with ⟨_, h0⟩ | ⟨g, cap, cur, rfl, hb, hh, _⟩
 · exact absurd h0 hn
 · refine ⟨g, cap, rfl, hb, (Array.getElem?_eq_some_iff.1 hh).1, fun j u hj => ?_⟩
   have := hc g rfl j u hj
   have ha : (⟨g, 0, none⟩ : Addr).add j = ⟨g, j, none⟩ := by unfold Addr.add; split <;> simp_all
   rw [ha] at this
   exact this
theorem implMoving (g cap : Nat) (w : World) (hg : g < w.heap.size) (hc : ∀ k, k < 10 → ∀ j, j < 5 → w.cell? ⟨g, k * 5 + j, none⟩ = (feaAt k).cs[j]?) :
    Calls Tryz.prog 172 #[.slice (some ⟨g, 0, none⟩) 10 cap] w fun e w' => ∃ v, e = .returned v ∧ w'.ownsRow w.heap.size 126 5 v 10 (feaCells.take 50) ∧ Below w.heap.size w w' := by
  obtain ⟨i0, hi, hz0, hz1, hz2⟩ := info_parts info_fea
  have HC := hideP hc
  clear hc
  have hmk := make10
  go_enter Tryz.func172, Tryz.ntmps172
  go_wp2
  clear hmk
  go_loopw [3, 11] (fun o i wr => ∃ k : Nat, k ≤ 10 ∧ i = .int .i64 (k : Int) ∧ wr.ownsRow w.heap.size 126 5 o k (feaCells.take (k * 5)) ∧ Below w.heap.size w wr) (fun _ i _ => 10 - (intOf i).toNat)
  case atStart => exact ⟨0, Nat.zero_le _, rfl, World.ownsRow_made w _ 10 (Nat.le_refl _) (by unfold maxLen; omega) rfl, (Below.refl _ _).alloc (Nat.le_refl _) _⟩
  case round =>
   obtain ⟨k, hk, rfl, hrow, hB⟩ := hrel
   by_cases hlt : k < 10
   · have HT := hideP (fea_take k (by omega))
     have HR := hideP hrow
     have HB := hideP hB
     clear hrow hB
     have c0 := (HB.out.cell (p := ⟨g, k * 5 + 0, none⟩) hg).trans (HC.out k hlt 0 (by omega))
     have c1 := (HB.out.cell (p := ⟨g, k * 5 + 1, none⟩) hg).trans (HC.out k hlt 1 (by omega))
     have c2 := (HB.out.cell (p := ⟨g, k * 5 + 2, none⟩) hg).trans (HC.out k hlt 2 (by omega))
     have c3 := (HB.out.cell (p := ⟨g, k * 5 + 3, none⟩) hg).trans (HC.out k hlt 3 (by omega))
     have c4 := (HB.out.cell (p := ⟨g, k * 5 + 4, none⟩) hg).trans (HC.out k hlt 4 (by omega))
     generalize feaAt k = f at *
     obtain ⟨s, mv, o, m, d⟩ := f
     simp only [Fea.cs, List.getElem?_cons_zero, List.getElem?_cons_succ, Nat.add_zero] at c0 c1 c2 c3 c4
     go_wp2_with (at_builtin; refine wpList_append_own _ rfl _ _ 127 rfl w.heap.size 126 i0 (.agg #[.string ⟨#[]⟩, .bool false, .int .i64 0, .int .i64 0, .int .i64 0]) 5 48 Tryz.underlying127 hi hz0 hz1 hz2 rfl (by decide) _ _ _ rfl ((HR.out.alloc _).alloc _) ⟨wr.heap.size + 1, 0, none⟩ 1 1 [.string s, .bool mv, .int .i64 o, .int .i64 m, .int .i64 d] rfl rfl (cells_new5 _ _ _ (by rw [sz_new])) (by simp [Value.oneCell']) (by unfold maxLen; omega) (by omega) (by have := HB.out.size; rw [sz_new, sz_new]; omega) ?_; intro v' w1 hown' hgrow _)
     have hB1 : Below w.heap.size w w1 := ((HB.out.alloc HB.out.size _).alloc (by have := HB.out.size; rw [sz_new]; omega) _).grown hgrow (by have := HB.out.size; rw [sz_new, sz_new]; omega) (own_base5 HR.out)
     refine ⟨⟨k + 1, by omega, by go_num, ?_, hB1⟩, by simp [intOf]; omega⟩
     rw [HT.out]
     exact hown'
   · have hkn : k = 10 := by omega
     subst hkn
     go_wp2
     go_ret
     exact ⟨_, rfl, hrow, hB⟩
theorem grow0 (w : World) : ∀ ty, (Builtin.append_ #[127, 3] ty #[.slice none 0 0, .int .i64 20]).run Tryz.prog w =
    .ok (.slice (some ⟨w.heap.size, 0, none⟩) 20 (grownCap w 20 0 126)) (w.drew.alloc (.cells (#[] ++ Builtin.zeroCells (Value.cells (.agg #[.string ⟨#[]⟩, .bool false, .int .i64 0, .int .i64 0, .int .i64 0])) 20 ++ Builtin.zeroCells (Value.cells (.agg #[.string ⟨#[]⟩, .bool false, .int .i64 0, .int .i64 0, .int .i64 0])) (grownCap w 20 0 126 - 20)) 126)) := fun ty => by
  obtain ⟨i0, hi, hz0, hz1, hz2⟩ := info_parts info_fea
  have h := Lib.run_append_grow_zeros w 127 3 ty 126 i0 (.agg #[.string ⟨#[]⟩, .bool false, .int .i64 0, .int .i64 0, .int .i64 0]) .i64 .i64 Tryz.underlying127 Tryz.underlying3 hi hz0 none 0 0 [] (by rw [hz1]; exact run_firstCells_none w.drew 5 0 0 0) 20 (by omega) (by omega) (by omega) (by omega) (by rw [hz2]; omega) (growslice_fits (by omega) (by rw [hz2]; omega))
  exact h
theorem implGrow (w : World) : Calls Tryz.prog 284 #[.slice none 0 0, .int .i64 20] w fun e w' => ∃ v, e = .returned v ∧ w'.ownsRow w.heap.size 126 5 v 0 [] ∧ Below w.heap.size w w' := by
 have hrz := grow0 w
 have hge := grownCap_ge w 20 0 126
 have hle := grownCap_le_maxLen w 20 0 126 (by unfold maxLen; omega)
 generalize grownCap w 20 0 126 = G at *
 have hle' : G ≤ 9223372036854775807 := by unfold maxLen at hle; omega
 have hcs : (#[] ++ Builtin.zeroCells (Value.cells (.agg #[.string ⟨#[]⟩, .bool false, .int .i64 0, .int .i64 0, .int .i64 0])) 20 ++ Builtin.zeroCells (Value.cells (.agg #[.string ⟨#[]⟩, .bool false, .int .i64 0, .int .i64 0, .int .i64 0])) (G - 20)).size = G * 5 := by
  simp only [Array.size_append, size_zeroCells]
  show 0 + 20 * 5 + (G - 20) * 5 = G * 5
  omega
 have HCS := hideP hcs
 clear hcs
 generalize (#[] ++ Builtin.zeroCells (Value.cells (.agg #[.string ⟨#[]⟩, .bool false, .int .i64 0, .int .i64 0, .int .i64 0])) 20 ++ Builtin.zeroCells (Value.cells (.agg #[.string ⟨#[]⟩, .bool false, .int .i64 0, .int .i64 0, .int .i64 0])) (G - 20)) = cur at *
 go_enter Tryz.func284, Tryz.ntmps284
 go_wp2_with (at_builtin; refine Lib.wpList_append_run _ rfl _ _ _ _ rfl _ _ rfl rfl _ _ (hrz _) ?_)
 go_ret
 exact ⟨_, rfl, World.ownsRow_made w.drew cur G (Nat.le_refl _) hle HCS.out, (Below.refl _ _).drew.alloc (Nat.le_refl _) _⟩
theorem implConcat (p g1 c1 g2 c2 : Nat) (t : TypeId) (w : World) (hp : Blk w p #[.slice (some ⟨g1, 0, none⟩) 10 c1, .slice (some ⟨g2, 0, none⟩) 10 c2] t) (hg1 : g1 < w.heap.size) (hg2 : g2 < w.heap.size)
    (h1 : ∀ j u, (feaCells.take 50)[j]? = some u → w.cell? ⟨g1, j, none⟩ = some u) (h2 : ∀ j u, (feaCells.drop 50)[j]? = some u → w.cell? ⟨g2, j, none⟩ = some u) :
    Calls Tryz.prog 239 #[.slice (some ⟨p, 0, none⟩) 2 2] w fun e w' => ∃ v, e = .returned v ∧ FeaOwn w w' v ∧ Below w.heap.size w w' := by
  obtain ⟨i0, hi, hz0, hz1, hz2⟩ := info_parts info_fea
  have HP := hideP hp
  have H1 := hideP h1
  have H2 := hideP h2
  have c0 := hp.cell 0 rfl
  have c1' := hp.cell 1 rfl
  clear hp h1 h2
  go_enter Tryz.func239, Tryz.ntmps239
  go_wp2
  go_loopw [3, 11] (fun z i wr => ∃ k : Nat, k ≤ 2 ∧ i = .int .i64 (k : Int) ∧ z = .int .i64 (10 * k : Int) ∧ w = wr) (fun _ i _ => 2 - (intOf i).toNat)
  case atStart => exact ⟨0, Nat.zero_le _, rfl, rfl, rfl⟩
  case round =>
   obtain ⟨k, hk, rfl, rfl, rfl⟩ := hrel
   have h3 : k = 0 ∨ k = 1 ∨ k = 2 := by omega
   rcases h3 with rfl | rfl | rfl
   · go_wp2
     exact ⟨⟨1, by omega, by go_num, by go_num, by first | rfl | trivial⟩, by simp [intOf]⟩
   · go_wp2
     exact ⟨⟨2, by omega, by go_num, by go_num, by first | rfl | trivial⟩, by simp [intOf]⟩
   · clear c0 c1'
     go_wp2_with fail
     refine (implGrow _).mono ?_
     rintro e W1 ⟨v0, rfl, hrow, hb⟩
     have HR := hideP hrow
     have HB := hideP hb
     clear hrow hb
     go_wp2_with fail
     go_loopw [6, 27] (fun o i wq => ∃ k : Nat, k ≤ 2 ∧ i = .int .i64 (k : Int) ∧ wq.ownsRow w.heap.size 126 5 o (10 * k) (feaCells.take (50 * k)) ∧ Below w.heap.size w wq) (fun _ i _ => 2 - (intOf i).toNat)
     case atStart => exact ⟨0, Nat.zero_le _, rfl, HR.out, HB.out⟩
     case round =>
      obtain ⟨k, hk, rfl, hrow, hB⟩ := hrel
      have HR2 := hideP hrow
      have HB2 := hideP hB
      clear hrow hB HR
      have e0 := (HP.out.below HB2.out HP.out.lt).cell 0 rfl
      have e1 := (HP.out.below HB2.out HP.out.lt).cell 1 rfl
      have h3 : k = 0 ∨ k = 1 ∨ k = 2 := by omega
      rcases h3 with rfl | rfl | rfl
      · go_wp2_with (at_builtin; refine wpList_append_own _ rfl _ _ 127 rfl w.heap.size 126 i0 (.agg #[.string ⟨#[]⟩, .bool false, .int .i64 0, .int .i64 0, .int .i64 0]) 5 48 Tryz.underlying127 hi hz0 hz1 hz2 rfl (by decide) _ _ _ rfl HR2.out ⟨g1, 0, none⟩ 10 c1 (feaCells.take 50) rfl rfl (cells_add (fun j u hj => (HB2.out.cell (p := ⟨g1, j, none⟩) hg1).trans (H1.out j u hj))) (fun u hu => fea_one u (List.mem_of_mem_take hu)) (by unfold maxLen; omega) (by omega) HB2.out.size ?_; intro v' w1 hown' hgrow _)
        refine ⟨⟨1, by omega, by go_num, hown', HB2.out.grown hgrow HB2.out.size (own_base5 HR2.out)⟩, by simp [intOf]⟩
      · go_wp2_with (at_builtin; refine wpList_append_own _ rfl _ _ 127 rfl w.heap.size 126 i0 (.agg #[.string ⟨#[]⟩, .bool false, .int .i64 0, .int .i64 0, .int .i64 0]) 5 48 Tryz.underlying127 hi hz0 hz1 hz2 rfl (by decide) _ _ _ rfl HR2.out ⟨g2, 0, none⟩ 10 c2 (feaCells.drop 50) rfl rfl (cells_add (fun j u hj => (HB2.out.cell (p := ⟨g2, j, none⟩) hg2).trans (H2.out j u hj))) (fun u hu => fea_one u (List.mem_of_mem_drop hu)) (by unfold maxLen; omega) (by omega) HB2.out.size ?_; intro v' w1 hown' hgrow _)
        refine ⟨⟨2, by omega, by go_num, hown', HB2.out.grown hgrow HB2.out.size (own_base5 HR2.out)⟩, by simp [intOf]⟩
      · go_wp2
        go_ret
        exact ⟨_, rfl, HR2.out, HB2.out⟩
theorem own_mono5 {w : World} {b b' e size : Nat} {v : Value} {n : Nat} {xs : List Value} (h : w.ownsRow b e size v n xs) (hb : b' ≤ b) : w.ownsRow b' e size v n xs := by
 obtain ⟨h1, h | ⟨g, cap, cur, hv, hg, hr⟩⟩ := h
 · exact ⟨h1, .inl h⟩
 · exact ⟨h1, .inr ⟨g, cap, cur, hv, Nat.le_trans hb hg, hr⟩⟩
theorem implWith (g1 c1 g2 c2 : Nat) (w : World) (hg1 : g1 < w.heap.size) (hg2 : g2 < w.heap.size)
    (h1 : ∀ j u, (feaCells.take 50)[j]? = some u → w.cell? ⟨g1, j, none⟩ = some u) (h2 : ∀ j u, (feaCells.drop 50)[j]? = some u → w.cell? ⟨g2, j, none⟩ = some u) :
    Calls Tryz.prog 174 #[.slice (some ⟨g1, 0, none⟩) 10 c1, .slice (some ⟨g2, 0, none⟩) 10 c2] w fun e w' => ∃ v, e = .returned v ∧ FeaOwn w w' v ∧ Below w.heap.size w w' := by
  have K := fun t => implConcat w.heap.size g1 c1 g2 c2 t (w.alloc (.cells #[.slice (some ⟨g1, 0, none⟩) 10 c1, .slice (some ⟨g2, 0, none⟩) 10 c2] t)) (Blk.new w _ _) (by rw [sz_new]; omega) (by rw [sz_new]; omega)
    (fun j u hj => (((Below.refl w.heap.size w).alloc (Nat.le_refl _) _).cell (p := ⟨g1, j, none⟩) hg1).trans (h1 j u hj)) (fun j u hj => (((Below.refl w.heap.size w).alloc (Nat.le_refl _) _).cell (p := ⟨g2, j, none⟩) hg2).trans (h2 j u hj))
  clear h1 h2
  go_enter Tryz.func174, Tryz.ntmps174
  go_wp2_with fail
  refine (K _).mono ?_
  rintro e w1 ⟨v, rfl, hr, hb⟩
  go_wp2
  go_ret
  exact ⟨v, rfl, own_mono5 hr (by rw [sz_new]; omega), below_alloc hb⟩
theorem list_at (cs : List Value) (W : World) (t : TypeId) {k j : Nat} {f : Fea} (h : cs[k * 5 + j]? = f.cs[j]?) : (W.alloc (.cells cs.toArray t)).cell? ⟨W.heap.size, k * 5 + j, none⟩ = f.cs[j]? := by
 rw [← h]
 simp [World.alloc, World.cell?, -World.alloc_eq]
theorem implFeasts (w : World) : Calls Tryz.prog 120 #[] w fun e w' => ∃ v, e = .returned v ∧ FeaOwn w w' v ∧ Below w.heap.size w w' := by
 go_enter Tryz.func120, Tryz.ntmps120
 go_wp2_with fail
 refine latO (implOnEaster _ _ _) fun x1 => ?_
 go_wp2_with fail
 refine lat (implOnEaster _ _ _) fun x2 => ?_
 go_wp2_with fail
 refine lat (implOnEaster _ _ _) fun x3 => ?_
 go_wp2_with fail
 refine lat (implOnEaster _ _ _) fun x4 => ?_
 go_wp2_with fail
 refine lat (implOnEaster _ _ _) fun x5 => ?_
 go_wp2_with fail
 refine lat (implOnEaster _ _ _) fun x6 => ?_
 go_wp2_with fail
 refine lat (implOnEaster _ _ _) fun x7 => ?_
 go_wp2_with fail
 refine lat (implOnEaster _ _ _) fun x8 => ?_
 go_wp2_with fail
 refine lat (implOnEaster _ _ _) fun x9 => ?_
 go_wp2_with fail
 refine lat (implOnEaster _ _ _) fun x10 => ?_
 go_wp2_with fail
 refine (implMoving x10.w.heap.size 10 _ (by rw [sz_new]; omega) (fun k hk j hj => list_at (feaCells.take 50) x10.w _ (by rw [List.getElem?_take, if_pos (by omega)]; exact feaCell (by omega) hj))).mono ?_
 rintro e w11 ⟨v1, rfl, hr, hb⟩
 obtain ⟨g1, c1, rfl, hg1, hl1, hc1⟩ := cells_row hr (by omega)
 have hg1' : w.heap.size ≤ g1 := by rw [sz_new] at hg1; have := x10.below.size; omega
 obtain ⟨x11, rfl⟩ : ∃ x : Later w, w11 = x.w := ⟨⟨w11, (x10.below.alloc x10.below.size _).trans (hb.mono (by rw [sz_new]; have := x10.below.size; omega))⟩, rfl⟩
 have HC := hideP hc1
 clear hr hb hc1
 go_wp2_with fail
 refine latO (implOnDate _ _ _ _) fun y1 => ?_
 go_wp2_with fail
 refine lat (implOnDate _ _ _ _) fun y2 => ?_
 go_wp2_with fail
 refine lat (implOnDate _ _ _ _) fun y3 => ?_
 go_wp2_with fail
 refine lat (implOnDate _ _ _ _) fun y4 => ?_
 go_wp2_with fail
 refine lat (implOnDate _ _ _ _) fun y5 => ?_
 go_wp2_with fail
 refine lat (implOnDate _ _ _ _) fun y6 => ?_
 go_wp2_with fail
 refine lat (implOnDate _ _ _ _) fun y7 => ?_
 go_wp2_with fail
 refine lat (implOnDate _ _ _ _) fun y8 => ?_
 go_wp2_with fail
 refine lat (implOnDate _ _ _ _) fun y9 => ?_
 go_wp2_with fail
 refine lat (implOnDate _ _ _ _) fun y10 => ?_
 have HA : Hid (∀ t, Below x11.w.heap.size x11.w (y10.w.alloc (.cells (feaCells.drop 50).toArray t))) := fun t => y10.below.alloc y10.below.size _
 have hls : g1 < y10.w.heap.size + 1 := by have := y10.below.size; omega
 go_wp2_with fail
 refine (implWith g1 c1 y10.w.heap.size 10 _ (by rw [sz_new]; exact hls) (by rw [sz_new]; omega) (fun j u hj => ((HA.out _).cell (p := ⟨g1, j, none⟩) hl1).trans (HC.out j u hj)) (fun j u hj => ?_)).mono ?_
 · have h := cells_new5 y10.w (feaCells.drop 50) 126 rfl j u hj
   have ha : (⟨y10.w.heap.size, 0, none⟩ : Addr).add j = ⟨y10.w.heap.size, j, none⟩ := by unfold Addr.add; split <;> simp_all
   rw [ha] at h
   exact h
 rintro e w12 ⟨v, rfl, hr, hb⟩
 have hB0 : Below w.heap.size w (y10.w.alloc (.cells (feaCells.drop 50).toArray 126)) := x11.below.trans ((HA.out _).mono x11.below.size)
 have hB : Below w.heap.size w w12 := hB0.trans (hb.mono hB0.size)
 have hr' := own_mono5 hr hB0.size
 have HR := hideP hr'
 have HB := hideP hB
 clear hr hb hr' hB hB0
 go_wp2
 go_ret
 exact ⟨v, rfl, HR.out, HB.out⟩
theorem specFind (s : ByteArray) (w : World) : CR 148 #[.string s] w (.int .i64 (findFeast s)) := by
 go_enter Tryz.func148, Tryz.ntmps148
 go_wp2_with fail
 refine (specFeasts _).mono ?_
 rintro e W1 ⟨v, rfl, hr, hb⟩
 obtain ⟨g, cap, rfl, hg, hc⟩ := hr.row
 have HC := hideP hc
 have HB := hideP hb
 clear hr hc hb
 go_wp2
 go_loopw [4] (fun i wr => ∃ k : Nat, k ≤ 20 ∧ i = .int .i64 (k : Int) ∧ Hid (findFrom s (feasts.drop k) k = findFeast s) ∧ W1 = wr) (fun i _ => 20 - (intOf i).toNat)
 case atStart => exact ⟨0, Nat.zero_le _, rfl, rfl, rfl⟩
 case round =>
  obtain ⟨k, hk, rfl, HF, rfl⟩ := hrel
  by_cases hlt : k < 20
  · have c0 := HC.out k hlt 0 (by omega)
    have K1 := hideP (fun h => find_hit hlt h HF.out)
    have K2 := hideP (fun h => find_miss hlt h HF.out)
    have hsz := feaAt_size0 ⟨k, hlt⟩
    dsimp only at hsz
    generalize feaAt k = f at *
    obtain ⟨n, mv, o, m, d⟩ := f
    simp only [Fea.cs, List.getElem?_cons_zero, Nat.add_zero] at c0
    cases hq : (n.toList == s.toList)
    · have HN := hideP (K2.out (str_ne hq))
      go_wp2
      exact ⟨⟨k + 1, by omega, by go_num, HN.out, by first | rfl | trivial⟩, by simp [intOf]; omega⟩
    · have HN := hideP (K1.out (str_eq hq))
      go_wp2
      go_ret
      exact ⟨ret_int HN.out.symm, HB.out⟩
  · have HN := hideP (find_end (by omega) HF.out)
    go_wp2
    go_ret
    exact ⟨ret_int HN.out.symm, HB.out⟩
theorem implFind (s : ByteArray) (w : World) : CR 171 #[.string s] w (.int .i64 (findFeast s)) := by
 go_enter Tryz.func171, Tryz.ntmps171
 go_wp2_with fail
 refine (implFeasts _).mono ?_
 rintro e W1 ⟨v, rfl, hr, hb⟩
 obtain ⟨g, cap, rfl, hg, hc⟩ := hr.row
 have HC := hideP hc
 have HB := hideP hb
 clear hr hc hb
 go_wp2
 go_loopw [7] (fun i wr => ∃ k : Nat, k ≤ 20 ∧ i = .int .i64 (k : Int) ∧ Hid (findFrom s (feasts.drop k) k = findFeast s) ∧ Below W1.heap.size W1 wr) (fun i _ => 20 - (intOf i).toNat)
 case atStart => exact ⟨0, Nat.zero_le _, rfl, rfl, Below.refl _ _⟩
 case round =>
  obtain ⟨k, hk, rfl, HF, hBr⟩ := hrel
  have HR := hideP hBr
  clear hBr
  by_cases hlt : k < 20
  · have c0 := (HR.out.cell (p := ⟨g, k * 5 + 0, none⟩) hg).trans (HC.out k hlt 0 (by omega))
    have c1 := (HR.out.cell (p := ⟨g, k * 5 + 1, none⟩) hg).trans (HC.out k hlt 1 (by omega))
    have c2 := (HR.out.cell (p := ⟨g, k * 5 + 2, none⟩) hg).trans (HC.out k hlt 2 (by omega))
    have c3 := (HR.out.cell (p := ⟨g, k * 5 + 3, none⟩) hg).trans (HC.out k hlt 3 (by omega))
    have c4 := (HR.out.cell (p := ⟨g, k * 5 + 4, none⟩) hg).trans (HC.out k hlt 4 (by omega))
    have K1 := hideP (fun h => find_hit hlt h HF.out)
    have K2 := hideP (fun h => find_miss hlt h HF.out)
    have hsz := feaAt_size0 ⟨k, hlt⟩
    dsimp only at hsz
    generalize feaAt k = f at *
    obtain ⟨n, mv, o, m, d⟩ := f
    simp only [Fea.cs, List.getElem?_cons_zero, List.getElem?_cons_succ, Nat.add_zero] at c0 c1 c2 c3 c4
    cases hq : (n.toList == s.toList)
    · have HN := hideP (K2.out (str_ne hq))
      go_wp2
      exact ⟨⟨k + 1, by omega, by go_num, HN.out, HR.out.alloc HR.out.size _⟩, by simp [intOf]; omega⟩
    · have HN := hideP (K1.out (str_eq hq))
      go_wp2
      go_ret
      exact ⟨ret_int HN.out.symm, HB.out.trans ((HR.out.alloc HR.out.size _).mono HB.out.size)⟩
  · have HN := hideP (find_end (by omega) HF.out)
    go_wp2
    go_ret
    exact ⟨ret_int HN.out.symm, HB.out.trans (HR.out.mono HB.out.size)⟩
end Go.Proofs.YtpclaceefapppaaGreatDoor.ctr
namespace Go.Proofs.YtpclaceefapppaaGreatDoor.kit
open Go.RowKit Go.WideShapes Go.Deep
theorem five {α : Type} {cs : Array α} (h : cs.size = 5) : ∃ a b c d e, cs = #[a, b, c, d, e] := by
 obtain ⟨l⟩ := cs
 match l, h with
 | [a, b, c, d, e], _ => exact ⟨a, b, c, d, e, rfl⟩
end Go.Proofs.YtpclaceefapppaaGreatDoor.kit
namespace Go.Proofs.YtpclaceefapppaaGreatDoor.ctr
open Go.RowKit
end Go.Proofs.YtpclaceefapppaaGreatDoor.ctr
