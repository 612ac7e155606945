/- DERIVED: THE SHELF's CONTRACTS AT THIS DUMP, IN PLAIN WORDS (tools/lay-plain.mjs out of 'TryzShelf.lean', which tools/lay-shelf.mjs wrote): THE SAME DECLARATIONS UNDER THE SAME NAMES: 'import', 'namespace', 'open', 'def', 'theorem' AND NOTHING ELSE: no command of the shelf's: FOR A HAND-IN. Each laying: the table of numbers ('.._ren') and one theorem, a field a fact of the dump's own or the kernel's comparison; each contract: ONE APPLICATION. The program's DaysSaid: the days that a saying can mean, ascending, in a row of its own. The days of a reading: what the program gathers is all of them. Plain, of no program. The program's datedDays: of each segment the day that has a date, in a row of its own. -/
import Derived.Shelf.Strings.Builder1
import Derived.Shelf.Strings.Builder2
import Derived.Shelf.Small.Bits
import Derived.Shelf.Strings.BuilderF
import Derived.Shelf.Strconv.Itoa0
import Derived.Shelf.Strconv.Itoa1
import Derived.Shelf.LaysM
import Derived.Shelf.Strconv.Itoa2
import Derived.Shelf.Strconv.Itoa3
import Derived.Shelf.Strconv.Clone
import Derived.Shelf.Strings.Search1
import Derived.Shelf.Strings.Search2
import Derived.Shelf.Strings.Cut
import Derived.Shelf.Strings.Shaped
import Derived.Shelf.Sort.Plain
import Derived.Shelf.Strings.Prefix
import Derived.Shelf.Bits.Mul64
import Derived.Shelf.Strings.Repeat
import Derived.Shelf.Slices.Equal
import Derived.Ground.Names2Prog
import Derived.Shelf.Slices.CompactI
import Derived.Shelf.Slices.Cells
import Derived.Shelf.Slices.In.SortNone
import Derived.Shelf.Slices.Empties2
import Derived.Ground.SlgnProg
import Derived.Shelf.SlicesE.Equal
import Derived.Shelf.SlicesE.Compact
import Derived.Ground.SlgfProg
import Derived.Shelf.SlicesE.IndexFunc
import Derived.Shelf.SlicesE.DeleteFunc
import Derived.Test.YtilpencbbdpgfaaGreatDoorProg
import Derived.Test.YtilpencbbdpgfaaGreatDoorJnQbn
import Derived.Test.YtilpencbbdpgfaaGreatDoorJnQbo
import Derived.Test.YtilpencbbdpgfaaGreatDoorJnQay
import Derived.Shelf.Abstract
import Derived.Sort.Row
import Derived.Test.YtilpencbbdpgfaaGreatDoorJnQbm
import Derived.Test.YtilpencbbdpgfaaGreatDoorJnQas
import Derived.Test.YtilpencbbdpgfaaGreatDoorJnQaz
import Derived.Deep.DeepCutAuto
namespace Go.Proofs
open Go.Shelf
def Tryz.lays189_ren : Go.Shelf.Ren := ⟨fun | 189 => 74 | 125 => 132 | 257 => 131 | 128 => 201 | 129 => 202 | 294 => 192 | 295 => 193 | 296 => 194 | 297 => 195 | 298 => 196 | 299 => 197 | 216 => 198 | 300 => 199 | 301 => 200 | 328 => 252 | 329 => 253 | 330 => 254 | 331 => 255 | 332 => 256 | 215 => 257 | 343 => 301 | n => n, fun | 28 => 42 | 3 => 3 | 46 => 153 | 0 => 0 | 51 => 202 | 53 => 204 | 4 => 4 | 183 => 196 | 182 => 195 | 131 => 49 | 5 => 5 | 9 => 9 | 218 => 257 | 222 => 261 | 228 => 310 | 229 => 76 | n => n, fun | n => n⟩
theorem Tryz.lays189 : Go.Proofs.Lays.n189 Tryz.prog Tryz.lays189_ren := {
  mixed := by kernel_rfl
  f125 := Tryz.func132.trans (congrArg some (by kernel_rfl))
  f128 := Tryz.func201.trans (congrArg some (by kernel_rfl))
  f129 := Tryz.func202.trans (congrArg some (by kernel_rfl))
  f189 := Tryz.func74.trans (congrArg some (by kernel_rfl))
  f215 := Tryz.func257.trans (congrArg some (by kernel_rfl))
  f216 := Tryz.func198.trans (congrArg some (by kernel_rfl))
  f257 := Tryz.func131.trans (congrArg some (by kernel_rfl))
  f294 := Tryz.func192.trans (congrArg some (by kernel_rfl))
  f295 := Tryz.func193.trans (congrArg some (by kernel_rfl))
  f296 := Tryz.func194.trans (congrArg some (by kernel_rfl))
  f297 := Tryz.func195.trans (congrArg some (by kernel_rfl))
  f298 := Tryz.func196.trans (congrArg some (by kernel_rfl))
  f299 := Tryz.func197.trans (congrArg some (by kernel_rfl))
  f300 := Tryz.func199.trans (congrArg some (by kernel_rfl))
  f301 := Tryz.func200.trans (congrArg some (by kernel_rfl))
  f328 := Tryz.func252.trans (congrArg some (by kernel_rfl))
  f329 := Tryz.func253.trans (congrArg some (by kernel_rfl))
  f330 := Tryz.func254.trans (congrArg some (by kernel_rfl))
  f331 := Tryz.func255.trans (congrArg some (by kernel_rfl))
  f332 := Tryz.func256.trans (congrArg some (by kernel_rfl))
  f343 := Tryz.func301.trans (congrArg some (by kernel_rfl))
  t0 := Tryz.underlying0
  a0 := Tryz.isAgg0
  z0 := Tryz.sizeOf0
  v0 := Tryz.zeroValue0
  t3 := Tryz.underlying3
  a3 := Tryz.isAgg3
  z3 := Tryz.sizeOf3
  v3 := Tryz.zeroValue3
  t4 := Tryz.underlying4
  a4 := Tryz.isAgg4
  z4 := Tryz.sizeOf4
  v4 := Tryz.zeroValue4
  t5 := Tryz.underlying5
  a5 := Tryz.isAgg5
  z5 := Tryz.sizeOf5
  v5 := Tryz.zeroValue5
  t9 := Tryz.underlying9
  a9 := Tryz.isAgg9
  z9 := Tryz.sizeOf9
  v9 := Tryz.zeroValue9
  t28 := Tryz.underlying42
  a28 := Tryz.isAgg42
  z28 := Tryz.sizeOf42
  v28 := Tryz.zeroValue42
  t46 := Tryz.underlying153
  a46 := Tryz.isAgg153
  z46 := Tryz.sizeOf153
  v46 := Tryz.zeroValue153
  t51 := Tryz.underlying202
  a51 := Tryz.isAgg202
  z51 := Tryz.sizeOf202
  v51 := Tryz.zeroValue202
  t53 := Tryz.underlying204
  a53 := Tryz.isAgg204
  z53 := Tryz.sizeOf204
  v53 := Tryz.zeroValue204
  t131 := Tryz.underlying49
  a131 := Tryz.isAgg49
  z131 := Tryz.sizeOf49
  v131 := Tryz.zeroValue49
  t182 := Tryz.underlying195
  a182 := Tryz.isAgg195
  z182 := Tryz.sizeOf195
  v182 := Tryz.zeroValue195
  t183 := Tryz.underlying196
  a183 := Tryz.isAgg196
  z183 := Tryz.sizeOf196
  v183 := Tryz.zeroValue196
  t218 := Tryz.underlying257
  a218 := Tryz.isAgg257
  z218 := Tryz.sizeOf257
  v218 := Tryz.zeroValue257
  t222 := Tryz.underlying261
  a222 := Tryz.isAgg261
  z222 := Tryz.sizeOf261
  v222 := Tryz.zeroValue261
  t228 := Tryz.underlying310
  a228 := Tryz.isAgg310
  z228 := Tryz.sizeOf310
  v228 := Tryz.zeroValue310
  t229 := Tryz.underlying76
  a229 := Tryz.isAgg76
  z229 := Tryz.sizeOf76
  v229 := Tryz.zeroValue76 }
open Go.Sort Go.RowKit in
theorem Tryz.slices_Sort_int (blk off cap : Nat) (zs : List Int) (w : World) (hH : Holds (Value.int .i64) w blk off zs.toArray) (hblk : blk < w.heap.size) (hsz : zs.length < 4611686018427387904) :
    Calls Tryz.prog 74 #[.slice (some ⟨blk, off, none⟩) zs.length cap] w fun e w' =>
      e = .returned (.tuple #[]) ∧ ∃ n os, w' = grow (putRow (Value.int .i64) (Sort.ahead w n) blk off (zs.mergeSort fun x y => decide (x ≤ y)).toArray) os := Any.slices_Sort_int Tryz.lays189 blk off cap zs w hH hblk hsz
def Tryz.laysNm220_ren : Go.Shelf.Ren := ⟨fun | 20 => 75 | n => n, fun | 22 => 42 | 3 => 3 | 4 => 4 | 0 => 0 | n => n, fun | n => n⟩
theorem Tryz.laysNm220 : Go.Proofs.Lays2.n20 Tryz.prog Tryz.laysNm220_ren := {
  mixed := by kernel_rfl
  f20 := Tryz.func75.trans (congrArg some (by kernel_rfl))
  t0 := Tryz.underlying0
  a0 := Tryz.isAgg0
  z0 := Tryz.sizeOf0
  v0 := Tryz.zeroValue0
  t3 := Tryz.underlying3
  a3 := Tryz.isAgg3
  z3 := Tryz.sizeOf3
  v3 := Tryz.zeroValue3
  t4 := Tryz.underlying4
  a4 := Tryz.isAgg4
  z4 := Tryz.sizeOf4
  v4 := Tryz.zeroValue4
  t22 := Tryz.underlying42
  a22 := Tryz.isAgg42
  z22 := Tryz.sizeOf42
  v22 := Tryz.zeroValue42
  i3 := by kernel_rfl }
open Go.RowKit Go.Lib Go.Sort in
theorem Tryz.slices_Compact_int (blk off cap : Nat) (zs : List Int) (w : World) (hH : Holds (Value.int .i64) w blk off zs.toArray) (hsz : zs.length ≤ 9223372036854775807) (hcap : zs.length ≤ cap) :
    Calls Tryz.prog 75 #[.slice (some ⟨blk, off, none⟩) zs.length cap] w fun e w' => e = .returned (.slice (some ⟨blk, off, none⟩) (Lib.compact zs).length cap) ∧ ∃ q, w' = putRow (Value.int .i64) (Sort.ahead w q) blk off (Lib.compact zs ++ List.replicate (zs.length - (Lib.compact zs).length) 0).toArray := Any.slices_Compact_int Tryz.laysNm220 blk off cap zs w hH hsz hcap
open Go.RowKit Go.Lib Go.Sort in
theorem Tryz.slices_Compact_int_empty (a : Option Addr) (cap : Nat) (w : World) :
    Calls Tryz.prog 75 #[.slice a 0 cap] w fun e w' => e = .returned (.slice a 0 cap) ∧ w' = w := Any.slices_Compact_int_empty Tryz.laysNm220 a cap w
open Go.RowKit Go.Sort in
theorem Tryz.slices_Sort_int_none (p : Option Addr) (cap : Nat) (w : World) :
    Calls Tryz.prog 74 #[.slice p 0 cap] w fun e w' => e = .returned (.tuple #[]) ∧ w' = w := Any.slices_Sort_int_none Tryz.lays189 p cap w
end Go.Proofs
namespace Go.Proofs.YtilpencbbdpgfaaGreatDoor.ctr
open Go.RowKit
set_option linter.unusedSimpArgs false
section
variable {P : Program} {ops : Array Oper} {Q : Exit → Act → World → Prop}
theorem op_of {i : Nat} {o : Oper} {K : Act → World → Prop} {a : Act} {w : World} (hi : ops[i]? = some o) (hw : Region.wanted o (yielded ops a.tmps) = true) (h : Oper.wp P o a w K Q) : wpOp P ops Q i K a w := by
  unfold wpOp
  simp only [hi, hw, if_true]
  exact Or.inl h
theorem run_append_nilr (w : World) (t ty e : TypeId) (i : TypeInfo) (ht : P.underlying t = some (.slice e)) (hi : P.info? e = some i) {base size : Nat} {v : Value} {n c : Nat} {xs : List Value} (h : w.ownsRow base e size v n xs) : (Builtin.append_ #[t, t] ty #[v, .slice none 0 c]).run P w = .ok v w := by
  rcases h.2 with ⟨rfl, h0⟩ | ⟨g, cap, cur, rfl, hb, hh, hcap, _⟩
  · simp [Builtin.append_, run_underlying ht, sizeOf, typeInfo, hi, Builtin.lenOf, Builtin.firstCells]
  · simp [Builtin.append_, run_underlying ht, sizeOf, typeInfo, hi, Builtin.lenOf, hcap, Builtin.firstCells, storeCells]
theorem op_append {i : Nat} {o : Oper} {K : Act → World → Prop} {a : Act} {w : World} (hi : ops[i]? = some o) (hw : Region.wanted o (yielded ops a.tmps) = true) (s x : Operand) (t : TypeId) (ho : o.op = .call { callee := .builtin .append, args := #[s, x], argTypes := #[t, t] })
    (base : Nat) (e : TypeId) (ti : TypeInfo) (z : Value) (size bytes : Nat) (ht : P.underlying t = some (.slice e)) (hti : P.info? e = some ti) (hz : ti.zero = some z)
    (hsize : ti.size = size) (hby : ti.bytes = bytes) (hzs : z.cells.size = size) (hsz : 0 < size)
    (v : Value) (n : Nat) (xs : List Value) (hs : a.eval s = v) (hown : w.ownsRow base e size v n xs)
    (ad : Option Addr) (m c : Nat) (news : List Value) (hx : a.eval x = .slice ad m c) (hl : news.length = m * size) (hm : ad = none → m = 0) (hnews : ∀ ad', ad = some ad' → ∀ j u, news[j]? = some u → w.cell? (ad'.add j) = some u) (h1 : ∀ u ∈ news, u.oneCell' = true)
    (h63 : n + m ≤ maxLen) (hbytes : (n + m) * bytes ≤ 140737488355328) (hbase : base ≤ w.heap.size)
    (h : ∀ v' w', w'.ownsRow base e size v' (n + m) (xs ++ news) → w.grownBy w' v.ownBlock → K (a.put o.dst v') w') : wpOp P ops Q i K a w := by
  refine op_of hi hw ?_
  cases ad with
  | none =>
    obtain rfl := hm rfl
    obtain rfl : news = [] := List.eq_nil_of_length_eq_zero (by simpa using hl)
    unfold Oper.wp execOp
    simp only [ho, resolve, invoke, builtin, Sem.run_bind, Sem.run_pure, Result.andThen_ok, List.map_toArray, List.map_cons, List.map_nil, hs, hx, run_append_nilr w t o.type e ti ht hti hown]
    refine h _ _ (by rw [Nat.add_zero, List.append_nil]; exact hown) ?_
    exact ⟨rfl, rfl, rfl, Nat.le_refl _, fun _ _ _ => rfl⟩
  | some ad => exact wp_append_own w s x t ho base e ti z size bytes ht hti hz hsize hby hzs hsz v n xs hs hown ad m c news hx hl (hnews ad rfl) h1 h63 hbytes hbase fun v' w' h2 h3 _ => h v' w' h2 h3
end
theorem own_reads {W : World} {base size n : Nat} {T : TypeId} {v : Value} {xs : List Value} (h : W.ownsRow base T size v n xs) : ∃ ad c, v = .slice ad n c ∧ (ad = none → n = 0) ∧ ∀ ad', ad = some ad' → ∀ j u, xs[j]? = some u → W.cell? (ad'.add j) = some u := by
  rcases h.2 with ⟨rfl, h0⟩ | ⟨g, cap, cur, rfl, _⟩
  · exact ⟨none, 0, by rw [h0], fun _ => h0, fun _ e => by cases e⟩
  · exact ⟨_, cap, rfl, (fun e => by cases e), (fun ad' e j u hj => by cases e; exact h.cells (g := g) rfl j u hj)⟩
set_option maxHeartbeats 2000000 in
theorem delNone (C : Value) (cap : Nat) (w : World) : Calls Tryz.prog 72 #[.slice none 0 cap, C] w fun e w' => e = .returned (.slice none 0 cap) ∧ w' = w := by
  have KX : Calls Tryz.prog 130 #[.slice none 0 cap, C] w fun e w' => e = .returned (.int .i64 (-1)) ∧ w' = w := by
    go_enter Tryz.func130, Tryz.ntmps130
    go_wp2_with fail
    go_loopw [5, 8] (fun _ i wr => i = .int .i64 0 ∧ wr = w) (fun _ _ _ => 0)
    case atStart => exact ⟨rfl, rfl⟩
    case round =>
      obtain ⟨rfl, rfl⟩ := hrel
      go_wp2
      go_ret
      exact ⟨rfl, rfl⟩
  go_enter Tryz.func72, Tryz.ntmps72
  go_wp2_with fail
  refine KX.mono ?_
  rintro e w1 ⟨rfl, rfl⟩
  go_wp2
  go_ret
  exact ⟨rfl, rfl⟩
end Go.Proofs.YtilpencbbdpgfaaGreatDoor.ctr
namespace Go.Proofs.YtilpencbbdpgfaaGreatDoor.ctr
open Go.RowKit
noncomputable def rdgIs (r : Rgm) (x : Rdg) (n : Int) : Bool := decide (rdgOn r n = x)
noncomputable def daysOfR (r : Rgm) (x : Rdg) : List Int := if regimeB r = true then daysWhere r.fr r.to (rdgIs r x) else []
def dat (D : Int) (s : Seg) : Option Int := if s.fr ≤ D - s.off ∧ D - s.off ≤ s.to then some (D - s.off) else none
def datTo (D : Int) (l : List Seg) (k : Nat) : List Int := (l.take k).filterMap (dat D)
theorem datTo_yes {D : Int} {l : List Seg} {k : Nat} (h : k < l.length) (h1 : (atK segK l k).fr ≤ D - (atK segK l k).off) (h2 : D - (atK segK l k).off ≤ (atK segK l k).to) : datTo D l (k + 1) = datTo D l k ++ [D - (atK segK l k).off] := by
  unfold datTo
  rw [atK_eq h] at *
  rw [List.take_succ_eq_append_getElem h, List.filterMap_append]
  simp [dat, h1, h2]
theorem datTo_no {D : Int} {l : List Seg} {k : Nat} (h : k < l.length) (h1 : ¬ ((atK segK l k).fr ≤ D - (atK segK l k).off ∧ D - (atK segK l k).off ≤ (atK segK l k).to)) : datTo D l (k + 1) = datTo D l k := by
  unfold datTo
  rw [atK_eq h] at *
  rw [List.take_succ_eq_append_getElem h, List.filterMap_append]
  have : dat D l[k] = none := by unfold dat; rw [if_neg h1]
  simp [this]
theorem datTo_len (D : Int) (l : List Seg) (k : Nat) : (datTo D l k).length ≤ k := by
  unfold datTo
  refine Nat.le_trans (List.length_filterMap_le ..) ?_
  rw [List.length_take]
  omega
noncomputable def dated (r : Rgm) (x : Rdg) : List Int := if dateOk x.cal x.sol x.mon x.day = true then datTo (dayOf x.cal x.sol x.mon x.day) r.segs r.segs.length else []
theorem dated_len (r : Rgm) (x : Rdg) : (dated r x).length ≤ r.segs.length := by
  unfold dated
  split
  · exact datTo_len _ _ _
  · exact Nat.zero_le _
theorem dated_in {r : Rgm} {x : Rdg} (hr : regimeB r = true) {z : Int} (hz : z ∈ dated r x) : r.fr ≤ z ∧ z ≤ r.to := by
  unfold dated at hz
  split at hz
  · unfold datTo at hz
    rw [List.take_length] at hz
    obtain ⟨s, hs, e⟩ := List.mem_filterMap.1 hz
    obtain ⟨k, hk, rfl⟩ := List.getElem_of_mem hs
    have := right_seg hr hk
    rw [atK_eq hk] at this
    unfold dat at e
    split at e
    · rename_i q
      obtain rfl := Option.some.inj e
      omega
    · cases e
  · cases hz
theorem dated_has {r : Rgm} {x : Rdg} (hr : regimeB r = true) {z : Int} (h1 : r.fr ≤ z) (h2 : z ≤ r.to) (hp : ¬ 0 ≤ patAt r.pats z) (he : rdgOn r z = x) : z ∈ dated r x := by
  obtain ⟨Y, m, d, _, e1, e2, e3, e4, hok, hday⟩ := rdg_date hr h1 h2 hp
  have h0 := (seg_fact hr z).2 ⟨h1, h2⟩
  rcases segAt_cases r.segs z with ⟨h3, _⟩ | ⟨j, hj, h3, h4, h5⟩
  · omega
  · have es : segN r z = r.segs[j] := by
      unfold segN
      rw [h3, Int.toNat_natCast, atK_eq hj]
    rw [es] at hok hday e1
    rw [atK_eq hj] at h4 h5
    have x1 : x.cal = r.segs[j].cal := by rw [← he]; exact e1
    have x2 : x.sol = Y := by rw [← he]; exact e2
    have x3 : x.mon = m := by rw [← he]; exact e3
    have x4 : x.day = d := by rw [← he]; exact e4
    unfold dated datTo
    rw [x1, x2, x3, x4, if_pos hok, hday, List.take_length]
    refine List.mem_filterMap.2 ⟨r.segs[j], List.getElem_mem hj, ?_⟩
    unfold dat
    rw [show z + r.segs[j].off - r.segs[j].off = z by omega, if_pos ⟨h4, h5⟩]
theorem daysOf_final {r : Rgm} {x : Rdg} (hr : regimeB r = true) : Lib.compact (((dated r x ++ r.pats.map Pat.day).filter (rdgIs r x)).mergeSort (fun x y => decide (x ≤ y))) = daysOfR r x := by
  unfold daysOfR
  rw [if_pos hr]
  refine DSet.eq (tidy_set _) ((daysWhere_set r.fr r.to (rdgIs r x)).imp (fun z => ⟨fun k => ?_, fun k => ?_⟩))
  · refine List.mem_filter.2 ⟨List.mem_append.2 ?_, k.2.2⟩
    by_cases hp : 0 ≤ patAt r.pats z
    · exact .inr (pat_mem hp)
    · exact .inl (dated_has hr k.1 k.2.1 hp (of_decide_eq_true k.2.2))
  · obtain ⟨k1, k2⟩ := List.mem_filter.1 k
    rcases List.mem_append.1 k1 with q | q
    · have := dated_in hr q
      exact ⟨this.1, this.2, k2⟩
    · have := pat_days hr q
      exact ⟨this.1, this.2, k2⟩
theorem daysOf_len (r : Rgm) (x : Rdg) : (daysOfR r x).length ≤ 2000000 := by
  unfold daysOfR
  split
  · rename_i hr
    refine Nat.le_trans (daysWhere_len ..) ?_
    by_cases hle : r.fr ≤ r.to
    · have a := day_in hr (Int.le_refl _) hle
      have b := day_in hr hle (Int.le_refl _)
      omega
    · omega
  · exact Nat.zero_le _
end Go.Proofs.YtilpencbbdpgfaaGreatDoor.ctr
namespace Go.Proofs.YtilpencbbdpgfaaGreatDoor.ctr
open Go.RowKit
theorem fourL {W : World} {b : Nat} {v0 v1 v2 v3 : Value} {t : TypeId} (h : ∀ x : Later W, Blk x.w b #[v0, v1, v2, v3] t) : (∀ x : Later W, x.w.cell? ⟨b, 0, none⟩ = some v0) ∧ (∀ x : Later W, x.w.cell? ⟨b, 1, none⟩ = some v1) ∧ (∀ x : Later W, x.w.cell? ⟨b, 2, none⟩ = some v2) ∧ ∀ x : Later W, x.w.cell? ⟨b, 3, none⟩ = some v3 :=
  ⟨fun x => (h x).cell 0 rfl, fun x => (h x).cell 1 rfl, fun x => (h x).cell 2 rfl, fun x => (h x).cell 3 rfl⟩
set_option maxRecDepth 100000 in
set_option maxHeartbeats 8000000 in
theorem implDated (v : Value) (r : Rgm) (x : Rdg) (w : World) (h : GRow w v r) (hr : regimeB r = true) (hT : Tab w) : Calls Tryz.prog 70 #[v, rdgV x] w fun e w' => ∃ o, e = .returned o ∧ ISt w o (dated r x) w' := by
  obtain ⟨i0, hi, hz0, hz1, hz2⟩ := info_parts info_int
  obtain ⟨v1, v2, v3, rfl, _, x1, x2, x3⟩ := h
  obtain ⟨a1, c1, rfl, _, _, hcS⟩ := x1
  obtain ⟨a2, c2, rfl, _⟩ := x2
  obtain ⟨a3, c3, rfl, _⟩ := x3
  have hsl := right_segs hr
  have hsg : ∀ k, k < r.segs.length → segOkB (atK segK r.segs k) = true := fun k hk => (right_seg hr hk).1
  obtain ⟨xc, xy, xs, xm, xd⟩ := x
  obtain ⟨W0, e0, HR, HZ, HB⟩ := boxR w #[.string r.name, .int .i64 r.fr, .int .i64 r.to, .slice a1 r.segs.length c1, .slice a2 r.pats.length c2, .slice a3 r.rgns.length c3, .int .i64 r.rule] 36 #[.int .i64 xc, .int .i64 xy, .int .i64 xs, .int .i64 xm, .int .i64 xd] 29
  obtain ⟨r0, r1, r2, r3, r4, r5, r6⟩ := sevenL HR.out
  obtain ⟨u0, u1, u2, u3, u4⟩ := fiveL HZ.out
  have HK : Hid (∀ (V : World), Below W0.heap.size W0 V → ∀ k, k < r.segs.length → ∃ g, a1 = some ⟨g, 0, none⟩ ∧ IAt segK V g k (atK segK r.segs k)) := fun V hb k hk => by
    obtain ⟨g, e, hg, x⟩ := hcS k hk
    exact ⟨g, e, x.below (HB.out ⟨V, hb⟩) hg⟩
  have E0 := hideP e0
  have HB0 : Hid (Below w.heap.size w W0) := HB.out ⟨W0, Below.refl _ _⟩
  have KP : ∀ y : Later W0, Calls Tryz.prog 128 #[.agg #[.int .i64 xc, .int .i64 xy, .int .i64 xs, .int .i64 xm, .int .i64 xd]] y.w fun e w' => e = .returned (plainR xc ⟨xc, xy, xs, xm, xd⟩) ∧ Below y.w.heap.size y.w w' := fun y => implPlain ⟨xc, xy, xs, xm, xd⟩ y.w (hT.later (HB.out y))
  have KD : Hid (∀ V, Below W0.heap.size W0 V → Calls Tryz.prog 129 #[.agg #[.int .i64 xc, .int .i64 xs, .int .i64 xm, .int .i64 xd]] V fun e w' => e = .returned (.int .i64 (dayOf xc xs xm xd)) ∧ Below V.heap.size V w') := fun V hb => implDayOf xc xs xm xd V (hT.later (HB.out ⟨V, hb⟩))
  have hDb := dayOf_bound xc xs xm xd
  clear e0 hcS HR HZ hr hT
  by_cases hO : dateOk xc xs xm xd = true
  case neg =>
    rw [show dated r ⟨xc, xy, xs, xm, xd⟩ = [] by unfold dated; rw [if_neg hO]]
    rw [plainR_no (x := ⟨xc, xy, xs, xm, xd⟩) hO] at KP
    clear KD hO HK hsg
    go_enter Tryz.func70, Tryz.ntmps70
    go_wp2_with fail
    rw [← E0.out]
    refine (KP ⟨W0, Below.refl _ _⟩).mono ?_
    rintro e w1 ⟨rfl, hb⟩
    obtain ⟨y1, rfl⟩ := Later.of hb
    clear hb
    go_wp2
    go_ret
    exact ⟨_, rfl, (ISt.nil w).later ((HB.out y1).alloc (HB.out y1).size _)⟩
  rw [show dated r ⟨xc, xy, xs, xm, xd⟩ = datTo (dayOf xc xs xm xd) r.segs r.segs.length by unfold dated; rw [if_pos hO]]
  rw [plainR_yes (x := ⟨xc, xy, xs, xm, xd⟩) hO] at KP
  dsimp only at KP
  generalize dayOf xc xs xm xd = D at *
  clear hO
  go_enter Tryz.func70, Tryz.ntmps70
  go_wp2_with fail
  rw [← E0.out]
  refine (KP ⟨W0, Below.refl _ _⟩).mono ?_
  rintro e w1 ⟨rfl, hb⟩
  obtain ⟨y1, rfl⟩ := Later.of hb
  clear hb KP
  go_upto_region 2 with fail
  obtain ⟨y2, hy2⟩ : ∃ y2 : Later W0, y1.w.alloc (.cells #[.int .i64 xc, .int .i64 xs, .int .i64 xm, .int .i64 xd] 92) = y2.w := ⟨⟨_, y1.below.alloc y1.below.size _⟩, rfl⟩
  have X2 : Hid (∀ V, Below y2.w.heap.size y2.w V → Blk V y1.w.heap.size #[.int .i64 xc, .int .i64 xs, .int .i64 xm, .int .i64 xd] 92) := fun V q => by
    have b : Blk y2.w y1.w.heap.size #[.int .i64 xc, .int .i64 xs, .int .i64 xm, .int .i64 xd] 92 := by rw [← hy2]; exact Blk.new _ _ _
    exact b.below q b.lt
  rw [hy2]
  clear hy2
  generalize y1.w.heap.size = pd at *
  clear y1
  go_wp2_with fail
  go_loopw [7, 9, 10, 21] (fun o _ _ i wr => ∃ k : Nat, k ≤ r.segs.length ∧ i = .int .i64 (k : Int) ∧ ISt y2.w o (datTo D r.segs k) wr) (fun _ _ _ i _ => ((r.segs.length : Int) - intOf i).toNat)
  case atStart => exact ⟨0, Nat.zero_le _, rfl, ISt.nil _⟩
  case round =>
    obtain ⟨k, hk, rfl, hS⟩ := hrel
    have S := hideP hS
    clear hS
    by_cases hlt : (k : Int) < (r.segs.length : Int)
    case neg =>
      obtain rfl : k = r.segs.length := by omega
      go_wp2
      go_ret
      exact ⟨_, rfl, own_mono1 S.out.row (Nat.le_trans HB0.out.size y2.below.size), HB0.out.trans ((y2.below.trans (S.out.below.mono y2.below.size)).mono HB0.out.size)⟩
    have hkn : k < r.segs.length := by omega
    obtain ⟨g, rfl, x⟩ := HK.out wr (y2.below.trans (S.out.below.mono y2.below.size)) k hkn
    have g0 : wr.cell? ⟨g, k * 5, none⟩ = some (.int .i64 (atK segK r.segs k).fr) := x 0 _ rfl
    have g1 : wr.cell? ⟨g, k * 5 + 1, none⟩ = some (.int .i64 (atK segK r.segs k).to) := x 1 _ rfl
    have g2 : wr.cell? ⟨g, k * 5 + 2, none⟩ = some (.int .i64 (atK segK r.segs k).cal) := x 2 _ rfl
    have g3 : wr.cell? ⟨g, k * 5 + 3, none⟩ = some (.int .i64 (atK segK r.segs k).sty) := x 3 _ rfl
    have g4 : wr.cell? ⟨g, k * 5 + 4, none⟩ = some (.int .i64 (atK segK r.segs k).off) := x 4 _ rfl
    have hln := datTo_len D r.segs k
    have HY : Hid ((atK segK r.segs k).fr ≤ D - (atK segK r.segs k).off → D - (atK segK r.segs k).off ≤ (atK segK r.segs k).to → datTo D r.segs (k + 1) = datTo D r.segs k ++ [D - (atK segK r.segs k).off]) := fun p q => datTo_yes hkn p q
    have HN : Hid (¬ ((atK segK r.segs k).fr ≤ D - (atK segK r.segs k).off ∧ D - (atK segK r.segs k).off ≤ (atK segK r.segs k).to) → datTo D r.segs (k + 1) = datTo D r.segs k) := fun p => datTo_no hkn p
    obtain ⟨n1, n2, n3, n4, n7, n5, n6⟩ := segOk_nums (hsg k hkn)
    clear x hsg HK
    generalize datTo D r.segs k = zs at *
    generalize atK segK r.segs k = s at *
    obtain ⟨V, hV⟩ : ∃ V, V = wr.alloc (.cells #[.int .i64 s.fr, .int .i64 s.to, .int .i64 s.cal, .int .i64 s.sty, .int .i64 s.off] 95) := ⟨_, rfl⟩
    have SV0 : ISt y2.w u7 zs V := by rw [hV]; exact S.out.later ((Below.refl _ _).alloc (Nat.le_refl _) _)
    have SV := hideP SV0
    have bV : ∀ x : Later V, Blk x.w wr.heap.size #[.int .i64 s.fr, .int .i64 s.to, .int .i64 s.cal, .int .i64 s.sty, .int .i64 s.off] 95 := fun x => by
      have b : Blk V wr.heap.size #[.int .i64 s.fr, .int .i64 s.to, .int .i64 s.cal, .int .i64 s.sty, .int .i64 s.off] 95 := by rw [hV]; exact Blk.new _ _ _
      exact b.later x
    have bD : ∀ x : Later V, Blk x.w pd #[.int .i64 xc, .int .i64 xs, .int .i64 xm, .int .i64 xd] 92 := fun x => X2.out x.w (SV0.below.trans (x.below.mono SV0.below.size))
    obtain ⟨s0, s1, s2, s3, s4⟩ := fiveL bV
    obtain ⟨d0, d1, d2, d3⟩ := fourL bD
    have KV : ∀ x : Later V, Calls Tryz.prog 129 #[.agg #[.int .i64 xc, .int .i64 xs, .int .i64 xm, .int .i64 xd]] x.w fun e w' => e = .returned (.int .i64 D) ∧ Below x.w.heap.size x.w w' := fun x => KD.out x.w (y2.below.trans ((SV0.below.trans (x.below.mono SV0.below.size)).mono y2.below.size))
    have HV := hideP hV
    clear hV SV0 bV bD KD X2
    go_upto_region 8 with fail
    rw [← HV.out]
    clear HV S g0 g1 g2 g3 g4
    generalize wr.heap.size = gb at *
    refine wp_region_later (W := V) (Below.refl _ _) (by kernel_rfl) (by kernel_rfl) ?_
    repeat (go_big_quiet_step (first | (go_at_call 129; exact calls_later (KV _)) | fail))
    refine wpQuiet_nil ?_
    intro _ hw'
    obtain ⟨x3, rfl⟩ := hw'
    have S3 := hideP (SV.out.later x3.below)
    by_cases h1 : s.fr ≤ D - s.off
    case neg =>
      have hd1 : decide (s.fr ≤ D - s.off) = false := decide_eq_false h1
      have HE := hideP (HN.out (fun q => h1 q.1))
      clear HY HN h1 SV
      go_wp2
      exact ⟨⟨k + 1, by omega, by apply congrArg (Value.int .i64); omega, by rw [HE.out]; exact S3.out⟩, by simp [intOf]; omega⟩
    by_cases h2 : D - s.off ≤ s.to
    case neg =>
      have hd1 : decide (s.fr ≤ D - s.off) = true := decide_eq_true h1
      have hd2 : decide (D - s.off ≤ s.to) = false := decide_eq_false h2
      have HE := hideP (HN.out (fun q => h2 q.2))
      clear HY HN h1 h2 SV
      go_wp2
      exact ⟨⟨k + 1, by omega, by apply congrArg (Value.int .i64); omega, by rw [HE.out]; exact S3.out⟩, by simp [intOf]; omega⟩
    have hd1 : decide (s.fr ≤ D - s.off) = true := decide_eq_true h1
    have hd2 : decide (D - s.off ≤ s.to) = true := decide_eq_true h2
    have HE := hideP (HY.out h1 h2)
    clear HY HN h1 h2 SV
    go_wp2_with (at_builtin; refine wpList_append_own _ rfl _ _ 42 rfl y2.w.heap.size 3 i0 (.int .i64 0) 1 8 Tryz.underlying42 hi hz0 hz1 hz2 rfl (by decide) _ _ _ rfl (S3.out.row.alloc _) ⟨x3.w.heap.size, 0, none⟩ 1 1 [.int .i64 (D - s.off)] rfl rfl (cell_one_new _ _ _) (by simp [Value.oneCell']) (by unfold maxLen; omega) (by omega) (by have := S3.out.below.size; rw [inew]; omega) ?_; intro v' w9 hown' hgrow _)
    refine ⟨⟨k + 1, by omega, by apply congrArg (Value.int .i64); omega, ?_⟩, by simp [intOf]; omega⟩
    rw [HE.out]
    exact S3.out.app (D - s.off) hown' hgrow
end Go.Proofs.YtilpencbbdpgfaaGreatDoor.ctr
