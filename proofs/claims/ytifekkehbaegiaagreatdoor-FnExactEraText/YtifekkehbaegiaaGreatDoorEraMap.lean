/- The map of eras by name: its entries as a plain list; what a store of the next era and what a look-up of any text give. -/
import Derived.Test.YtifekkehbaegiaaGreatDoorEraSpec
import Derived.Maps.Own
import Derived.Maps.OwnOps
import Derived.Maps.OwnSet
namespace Go.Proofs.YtifekkehbaegiaaGreatDoor.ctr
open Go.RowKit Go.ChangeMaps

/-- An era with its number, as the map holds it. -/
def placed (f : Era) (k : Nat) : Value := .agg #[.string f.name, .int .i64 f.st, .int .i64 f.add, .int .i64 f.cyc, .int .i64 (k : Int)]
def entsFrom : List Era → Nat → List MapEntry
  | [], _ => []
  | f :: l, k => ⟨.string f.name, placed f k, k⟩ :: entsFrom l (k + 1)
def ents (k : Nat) : Array MapEntry := (entsFrom (eras.take k) 0).toArray
theorem ents_succ : ∀ k : Nat, k < 9 → ents (k + 1) = (ents k).push ⟨.string (eraAt k).name, placed (eraAt k) k, k⟩
  | 0, _ => rfl
  | 1, _ => rfl
  | 2, _ => rfl
  | 3, _ => rfl
  | 4, _ => rfl
  | 5, _ => rfl
  | 6, _ => rfl
  | 7, _ => rfl
  | 8, _ => rfl
  | k + 9, h => by omega
theorem beqS (a b : ByteArray) : (a == b) = decide (a = b) := by
  rw [Bool.eq_iff_iff]
  obtain ⟨a⟩ := a
  obtain ⟨b⟩ := b
  show (a == b) = true ↔ decide ((⟨a⟩ : ByteArray) = ⟨b⟩) = true
  simp
theorem sameS (a b : ByteArray) : Instr.sameNow .string (.string a) (.string b) = some (decide (a = b)) := by
  show some (a == b) = _
  rw [beqS]
theorem find_miss1 (s : ByteArray) (f : Era) (k i : Nat) (l : List MapEntry) (h : s ≠ f.name) : Instr.findNow .string (.string s) (⟨.string f.name, placed f k, k⟩ :: l) i = Instr.findNow .string (.string s) l (i + 1) := by
  rw [Instr.findNow]
  simp only [sameS, decide_eq_false h]
theorem find_hit1 (s : ByteArray) (f : Era) (k i : Nat) (l : List MapEntry) (h : s = f.name) : Instr.findNow .string (.string s) (⟨.string f.name, placed f k, k⟩ :: l) i = some (some (i, placed f k)) := by
  rw [Instr.findNow]
  simp only [sameS, decide_eq_true h]
theorem find_both (s : ByteArray) : ∀ (l : List Era) (k i : Nat), (eraFrom s l k = -1 ∧ Instr.findNow .string (.string s) (entsFrom l k) i = some none) ∨ ∃ j, j < l.length ∧ eraFrom s l k = ((k + j : Nat) : Int) ∧ (l.getD j era0).name = s ∧ Instr.findNow .string (.string s) (entsFrom l k) i = some (some (i + j, placed (l.getD j era0) (k + j)))
  | [], _, _ => .inl ⟨rfl, rfl⟩
  | f :: l, k, i => by
    rw [eraFrom, entsFrom]
    by_cases h : f.name = s
    · rw [if_pos h]
      exact .inr ⟨0, by simp, by simp, by simpa using h, find_hit1 s f k i _ h.symm⟩
    · rw [if_neg h, find_miss1 s f k i _ (fun e => h e.symm)]
      rcases find_both s l (k + 1) (i + 1) with ⟨h1, h2⟩ | ⟨j, h1, h2, h3, h4⟩
      · exact .inl ⟨h1, h2⟩
      · refine .inr ⟨j + 1, by simp; omega, by rw [h2]; congr 1; omega, by simpa using h3, ?_⟩
        rw [h4, show k + 1 + j = k + (j + 1) by omega, show i + 1 + j = i + (j + 1) by omega]
        simp
/-- The map's block, with the first k eras in it. -/
def MapAt (w : World) (M k : Nat) : Prop := w.heap[M]? = some (.map (ents k) k)
theorem MapAt.lt {w : World} {M k : Nat} (h : MapAt w M k) : M < w.heap.size := (Array.getElem?_eq_some_iff.1 h).1
theorem MapAt.below {w w' : World} {M k B : Nat} (h : MapAt w M k) (hb : Below B w w') (hM : M < B) : MapAt w' M k := (hb.block M hM).trans h
theorem MapAt.grown {w w' : World} {M k : Nat} {r : Option Nat} (h : MapAt w M k) (hb : w.grownBy w' r) (hM : r ≠ some M) : MapAt w' M k := (hb.block M h.lt (fun e => hM e.symm)).trans h
theorem run_check (P : Program) (K : TypeId) (hk : P.underlying K = some .string) (b : Bool) (s : ByteArray) (w : World) : (Instr.checkKey b 10000 K (.string s)).run P w = .ok () w := by
  rw [show (10000 : Nat) = 9999 + 1 from rfl, Instr.checkKey]
  generalize (9999 : Nat) = q
  simp [run_underlying hk, Result.andThen]
theorem run_find (P : Program) (K : TypeId) (hk : P.underlying K = some .string) (s : ByteArray) (es : List MapEntry) (r : Option (Nat × Value)) (h : Instr.findNow .string (.string s) es 0 = some r) (w : World) : (Instr.findKey K (.string s) es).run P w = .ok r w := by
  simp [Instr.findKey, run_underlying hk, h, Result.andThen]

theorem apart : ∀ k : Fin 9, ∀ j : Fin 9, j.val < k.val → (eraAt j.val).name ≠ (eraAt k.val).name := by decide
theorem find_none (s : ByteArray) : ∀ (l : List Era) (k i : Nat), (∀ f ∈ l, s ≠ f.name) → Instr.findNow .string (.string s) (entsFrom l k) i = some none
  | [], _, _, _ => rfl
  | f :: l, k, i, h => by
    rw [entsFrom, find_miss1 s f k i _ (h f (by simp))]
    exact find_none s l (k + 1) (i + 1) (fun g hg => h g (by simp [hg]))
theorem find_new (k : Nat) (hk : k < 9) : Instr.findNow .string (.string (eraAt k).name) (ents k).toList 0 = some none := by
  refine find_none _ _ _ _ (fun f hf e => ?_)
  obtain ⟨j, hj, hg⟩ := List.mem_iff_getElem.1 hf
  have hj' : j < k := by rw [List.length_take] at hj; omega
  rw [List.getElem_take] at hg
  refine apart ⟨k, hk⟩ ⟨j, by omega⟩ hj' ?_
  show (eraAt j).name = (eraAt k).name
  rw [e, ← hg]
  unfold eraAt
  rw [List.getD, List.getElem?_eq_getElem (show j < eras.length from by rw [eras_len]; omega)]
  rfl

theorem under_map : Tryz.prog.underlying 72 = some (.map 9 71) := by kernel_rfl
theorem under_str : Tryz.prog.underlying 9 = some .string := by kernel_rfl
/-- The next era is stored: one entry more, nothing else turns. -/
theorem run_put (w : World) (M k : Nat) (hk : k < 9) (h : MapAt w M k) : ∃ w', (Instr.mapUpdate 72 (.map (some M)) (.string (eraAt k).name) (placed (eraAt k) k)).run Tryz.prog w = .ok () w' ∧ MapAt w' M (k + 1) ∧ w.grownBy w' (some M) := by
  unfold MapAt at h
  refine ⟨setBlock w M (.map (ents (k + 1)) (k + 1)), ?_, ?_, ⟨rfl, rfl, rfl, by simp [setBlock], fun i _ hi => heap_setBlock_other h _ (fun e => hi (by rw [e]))⟩⟩
  · rw [ents_succ k hk]
    simp [Instr.mapUpdate, run_underlying under_map, MapKept.run_getObj_map h, run_check _ _ under_str, run_find _ _ under_str _ _ _ (find_new k hk), MapKept.run_setObj_map _ h, Result.andThen, setBlock]
  · exact heap_setBlock_same h _
/-- A look-up of any text in the whole map. -/
theorem run_look (w : World) (M : Nat) (h : MapAt w M 9) (s : ByteArray) :
    (findEra s = -1 ∧ ∀ c : Bool, (Instr.lookup 72 (.map (some M)) (.string s) c).run Tryz.prog w = .ok (if c then .tuple #[placed era0 0, .bool false] else placed era0 0) w) ∨
    ∃ k : Nat, k < 9 ∧ findEra s = (k : Int) ∧ (eraAt k).name = s ∧ ∀ c : Bool, (Instr.lookup 72 (.map (some M)) (.string s) c).run Tryz.prog w = .ok (if c then .tuple #[placed (eraAt k) k, .bool true] else placed (eraAt k) k) w := by
  unfold MapAt at h
  have he : (ents 9).toList = entsFrom eras 0 := rfl
  rcases find_both s eras 0 0 with ⟨h1, h2⟩ | ⟨j, h1, h2, h3, h4⟩
  · refine .inl ⟨h1, fun c => ?_⟩
    simp [Instr.lookup, run_underlying under_map, MapKept.run_getObj_map h, run_check _ _ under_str, he, run_find _ _ under_str _ _ _ h2, Result.andThen]
    rfl
  · refine .inr ⟨j, h1, by unfold findEra; rw [h2]; congr 1; omega, h3, fun c => ?_⟩
    rw [Nat.zero_add] at h4
    have h5 : Instr.findNow .string (.string s) (entsFrom eras 0) 0 = some (some (j, placed (eraAt j) j)) := h4
    simp [Instr.lookup, run_underlying under_map, MapKept.run_getObj_map h, run_check _ _ under_str, he, run_find _ _ under_str _ _ _ h5, Result.andThen]
/-- A store into a map at the operation, for the walk. -/
theorem wpList_put {P : Program} (w w' : World) {ops : Array Oper} {rest : List Oper} {o : Oper} {a : Act} {Q : Exit → Act → World → Prop}
    (hg : o.guard = none) (m x v : Operand) (t : TypeId) (hop : o.op = Op.mapUpdate t m x v) (mv key val : Value) (hm : a.eval m = mv) (hx : a.eval x = key) (hv : a.eval v = val)
    (hrun : (Instr.mapUpdate t mv key val).run P w = .ok () w') (hK : wpList P ops Q rest (a.put o.dst undef) w') : wpList P ops Q (o :: rest) a w := by
  refine wpList_plain hg fun K' hK' => ?_
  unfold Oper.wp
  simp [execOp, hop, hm, hx, hv, hrun, Result.andThen]
  exact hK' _ _ hK
end Go.Proofs.YtifekkehbaegiaaGreatDoor.ctr
