/- Contracts of the program's gapsOf and of the function that it hands back: it tells every run of days in no reign, in order, to whatever loop body, where its captured variables, the list and its own reigns stay as they are. -/
import Derived.Test.YtcdcniniafejbaaDoorRgnGapP
import Derived.Test.YtcdcniniafejbaaDoorRgnPair
import Derived.RangeFuncNested
import Derived.RangeFuncBound
import Derived.RangeFuncCalls
import Derived.RangeFuncLeaves
import Derived.Shelf.Abstract
import Derived.Shelf.RegionOpen
import Derived.OwnWalkIn
import Derived.TacticsInMore
import Derived.LoopNIn
import Derived.LoopIn
import Derived.Sort.QuietIn
namespace Go.Proofs.YtcdcniniafejbaaDoor.ctr
open Go.RowKit Go.Shelf

attribute [local go_sem] Oper.semAt_some

/-- All but block R stays below R + 4, and so does every reign. -/
def KpR (R : Nat) (W W' : World) : Prop := W.heap.size ≤ W'.heap.size ∧ (∀ b, b ≠ R → b < R + 4 → W'.heap[b]? = W.heap[b]?) ∧ ∀ (b : Nat) (cs : Array Value) (fr : Nat × Nat), W.heap[b]? = some (Obj.cells cs 33 fr) → W'.heap[b]? = W.heap[b]?
theorem KpR.refl (R : Nat) (W : World) : KpR R W W := ⟨Nat.le_refl _, fun _ _ _ => rfl, fun _ _ _ _ => rfl⟩
theorem KpR.trans {R : Nat} {A B C : World} (h : KpR R A B) (k : KpR R B C) : KpR R A C :=
  ⟨Nat.le_trans h.1 k.1, fun b h1 h2 => (k.2.1 b h1 h2).trans (h.2.1 b h1 h2), fun b cs fr e => (k.2.2 b cs fr ((h.2.2 b cs fr e).trans e)).trans (h.2.2 b cs fr e)⟩
theorem KpR.alloc {R : Nat} {A B : World} (h : KpR R A B) (hR : R + 4 ≤ A.heap.size) (o : Obj) : KpR R A (B.alloc o) :=
  ⟨Nat.le_trans h.1 (by rw [World.size_alloc]; omega), fun b h1 h2 => (Below.heap_alloc B o b (by have := h.1; omega)).trans (h.2.1 b h1 h2), fun b cs fr e => (Below.heap_alloc B o b (Nat.lt_of_lt_of_le (Array.getElem?_eq_some_iff.1 e).1 h.1)).trans (h.2.2 b cs fr e)⟩
theorem KpR.cell {R : Nat} {A B : World} (h : KpR R A B) {b i : Nat} (h1 : b ≠ R) (h2 : b < R + 4) : B.cell? ⟨b, i, none⟩ = A.cell? ⟨b, i, none⟩ := World.cell?_of_block (a := ⟨b, i, none⟩) (h.2.1 b h1 h2)
theorem keepR_b {R : Nat} {w : World} (h1 : R + 4 ≤ w.heap.size) (W : World) (l : Nat) (o o' : Obj) (hl : w.heap.size ≤ l) (ho : W.heap[l]? = some o) (hc : o.isCells = false) (_ : o.isWalk = false) : KpR R W (W.putObj l o') :=
  ⟨by simp [World.putObj], fun b _ _ => World.putObj_heap_other (by omega), fun b cs fr e => World.putObj_heap_other (by intro q; subst q; rw [ho] at e; cases e; cases hc)⟩

set_option maxRecDepth 100000 in
set_option maxHeartbeats 4000000 in
theorem gaps1_in (n : Nat) (hn : 3 ≤ n) (lp R : Nat) (ad : Option Addr) (cap : Nat) (l : List Rgn) (F T : Int) (hok : reignsOk l = true) (J Jx : List (Int × Int) → World → Prop)
    (hY : ∀ pre x W, J pre W → pre.length < (gapsFrom T l F).length → YieldAt Fence.wide (n - 1) Tryd.prog lp #[.agg #[.int .i64 x.1, .int .i64 x.2]] W fun e W' =>
      (e = .returned (.bool true) ∧ J (pre ++ [x]) W' ∧ KpR R W W') ∨ (e = .returned (.bool false) ∧ Jx (pre ++ [x]) W'))
    (W : World) (hJ : AbidesFrom W.heap.size J) (hR : R + 4 ≤ W.heap.size) (hr : ∀ k, k < l.length → ∃ g, ad = some ⟨g, 0, none⟩ ∧ g < R ∧ RAt W g k (rgA l k))
    (hc1 : W.cell? ⟨R + 2, 0, none⟩ = some (.int .i64 F)) (hc2 : W.cell? ⟨R + 1, 0, none⟩ = some (.slice ad l.length cap)) (hc3 : W.cell? ⟨R + 3, 0, none⟩ = some (.int .i64 T)) (h0 : J [] W) :
    CallsIn Fence.wide n Tryd.prog 78 #[.func (.yield lp) #[] #[], .pointer (some ⟨R + 2, 0, none⟩), .pointer (some ⟨R + 1, 0, none⟩), .pointer (some ⟨R + 3, 0, none⟩)] W fun e W' => (∃ v, e = .returned v) ∧
      ((∃ ys, ys = gapsFrom T l F ∧ J ys W') ∨ (∃ pre, True ∧ Jx pre W')) := by
  have HJ := hideP hJ
  have HY := hideP hY
  have HR := hideP hr
  have HK := hideP hok
  have hl30 := ok_len hok
  clear hJ hY hr hok
  refine callsIn_of_wp Tryd.func78 rfl trivial ?_ rfl
  simp only [Tryd.ntmps78, List.size_toArray, List.length_cons, List.length_nil, Nat.reduceAdd, Nat.reduceSub, Array.replicate_succ, Array.replicate_zero, List.push_toArray, List.append_toArray, List.nil_append, List.cons_append]
  gi_wp2
  gi_loopw [5, 12] (fun f i wr => ∃ (k : Nat) (m : Int) (pre : List (Int × Int)), k ≤ l.length ∧ i = .int .i64 (k : Int) ∧ f = .int .i64 m ∧ Hid (pre ++ gapsFrom T (l.drop k) m = gapsFrom T l F) ∧ J pre wr ∧ KpR R W wr) (fun _ i _ => l.length - (intOf i).toNat)
  case atStart => exact ⟨0, F, [], Nat.zero_le _, rfl, rfl, rfl, h0, KpR.refl _ _⟩
  case round =>
    obtain ⟨k, m, pre, hk, rfl, rfl, HF, hJs, hKp⟩ := hrel
    have HJs := hideP hJs
    have KP := hideP hKp
    have d3 := (hKp.cell (b := R + 3) (i := 0) (by omega) (by omega)).trans hc3
    clear hJs hKp
    by_cases hlt : k < l.length
    · obtain ⟨g, rfl, hg, x0, x1, x2⟩ := HR.out k hlt
      have a0 := (KP.out.cell (b := g) (i := k * 3) (by omega) (by omega)).trans x0
      have a1 := (KP.out.cell (b := g) (i := k * 3 + 1) (by omega) (by omega)).trans x1
      have a2 := (KP.out.cell (b := g) (i := k * 3 + 2) (by omega) (by omega)).trans x2
      obtain ⟨_, hft, hbf, hbt, _, _⟩ := ok_rgn HK.out hlt
      have b1 := both_bound hbf
      have b2 := both_bound hbt
      have HD := hideP (drop_rg hlt)
      have HF2 := HF.out
      rw [HD.out, gapsFrom] at HF2
      have HFF := hideP HF2
      clear x0 x1 x2 HF2 HD HF hbf hbt
      generalize rgA l k = r at *
      obtain ⟨nm, f, t⟩ := r
      dsimp only at a0 a1 a2 b1 b2 hft HFF
      have e3 : (wr.alloc (.cells #[.string nm, .int .i64 f, .int .i64 t] 33)).cell? ⟨R + 3, 0, none⟩ = some (.int .i64 T) := (Later.at d3 ⟨_, (Below.refl _ _).alloc (Nat.le_refl _) _⟩)
      have HV : Hid (J pre (wr.alloc (.cells #[.string nm, .int .i64 f, .int .i64 t] 33))) := HJ.out _ _ _ none HJs.out (World.grownBy_alloc wr _ none) (fun r e => by cases e)
      have KPV : Hid (KpR R W (wr.alloc (.cells #[.string nm, .int .i64 f, .int .i64 t] 33))) := KP.out.alloc hR _
      have hnb : Hid ((wr.alloc (.cells #[.string nm, .int .i64 f, .int .i64 t] 33)).heap[wr.heap.size]? = some (.cells #[.string nm, .int .i64 f, .int .i64 t] 33)) := World.alloc_heap_new wr _
      have q2 : (wr.alloc (.cells #[.string nm, .int .i64 f, .int .i64 t] 33)).cell? ⟨wr.heap.size, 2, none⟩ = some (.int .i64 t) := (Blk.new wr _ _).cell 2 rfl
      by_cases hA : f - 1 ≤ T
      · have hA2 : f - 1 ≤ T := by omega
        by_cases hC : m ≤ t + 1
        · have hC2 : m ≤ t + 1 := by omega
          have hmx : max m (t + 1) = (t + 1) := by omega
          have hmn : min (f - 1) T = (f - 1) := by omega
          have HG := HFF.out
          rw [hmx, hmn] at HG
          clear hmx hmn
          by_cases hB : m ≤ (f - 1)
          · rw [if_pos hB] at HG
            have HN : Hid ((pre ++ [(m, (f - 1))]) ++ gapsFrom T (l.drop (k + 1)) (t + 1) = gapsFrom T l F) := by unfold Hid; rw [List.append_assoc]; exact HG
            have hlen : pre.length < (gapsFrom T l F).length := by rw [← HN.out]; simp <;> omega
            obtain ⟨fn, tmps, assign, body, hy, hRR⟩ := HY.out pre (m, (f - 1)) _ HV.out hlen
            have HRR := hideP hRR
            dsimp only at hy
            clear hRR HG hlen
            gi_wp2
            refine ⟨fun _ => by omega, ?_⟩
            refine HRR.out.mono ?_
            rintro e W3 (⟨rfl, hJ3, hk3⟩ | ⟨rfl, hJx3⟩)
            · have hm2 : W3.cell? ⟨wr.heap.size, 2, none⟩ = some (.int .i64 t) := (World.cell?_of_block (a := ⟨wr.heap.size, 2, none⟩) (hk3.2.2 _ _ _ hnb.out)).trans q2
              have HJ3 := hideP hJ3
              have K3 := hideP (KPV.out.trans hk3)
              clear hk3 hJ3
              gi_wp2
              go_roundw
              case rel => exact ⟨k + 1, (t + 1), pre ++ [(m, (f - 1))], by omega, by go_num, by go_num, HN.out, HJ3.out, K3.out⟩
              case measure => simp [intOf]; omega
            · have HX3 := hideP hJx3
              clear hJx3
              gi_wp2
              refine bodyPost_ret (results_none rfl _ _ _) rfl ?_
              exact ⟨⟨_, rfl⟩, .inr ⟨_, trivial, HX3.out⟩⟩
          · rw [if_neg hB, List.nil_append] at HG
            have HN : Hid (pre ++ gapsFrom T (l.drop (k + 1)) (t + 1) = gapsFrom T l F) := HG
            clear HG
            gi_wp2
            refine ⟨fun _ h => (by cases h), ?_⟩
            gi_wp2
            go_roundw
            case rel => exact ⟨k + 1, (t + 1), pre, by omega, by go_num, by go_num, HN.out, HV.out, KPV.out⟩
            case measure => simp [intOf]; omega
        · have hC2 : t + 1 < m := by omega
          have hmx : max m (t + 1) = m := by omega
          have hmn : min (f - 1) T = (f - 1) := by omega
          have HG := HFF.out
          rw [hmx, hmn] at HG
          clear hmx hmn
          by_cases hB : m ≤ (f - 1)
          · exact absurd hB (by omega)
          · rw [if_neg hB, List.nil_append] at HG
            have HN : Hid (pre ++ gapsFrom T (l.drop (k + 1)) m = gapsFrom T l F) := HG
            clear HG
            gi_wp2
            refine ⟨fun _ h => (by cases h), ?_⟩
            gi_wp2
            go_roundw
            case rel => exact ⟨k + 1, m, pre, by omega, by go_num, by go_num, HN.out, HV.out, KPV.out⟩
            case measure => simp [intOf]; omega
      · have hA2 : T < f - 1 := by omega
        by_cases hC : m ≤ t + 1
        · have hC2 : m ≤ t + 1 := by omega
          have hmx : max m (t + 1) = (t + 1) := by omega
          have hmn : min (f - 1) T = T := by omega
          have HG := HFF.out
          rw [hmx, hmn] at HG
          clear hmx hmn
          by_cases hB : m ≤ T
          · rw [if_pos hB] at HG
            have HN : Hid ((pre ++ [(m, T)]) ++ gapsFrom T (l.drop (k + 1)) (t + 1) = gapsFrom T l F) := by unfold Hid; rw [List.append_assoc]; exact HG
            have hlen : pre.length < (gapsFrom T l F).length := by rw [← HN.out]; simp <;> omega
            obtain ⟨fn, tmps, assign, body, hy, hRR⟩ := HY.out pre (m, T) _ HV.out hlen
            have HRR := hideP hRR
            dsimp only at hy
            clear hRR HG hlen
            gi_wp2
            refine ⟨fun _ => by omega, ?_⟩
            refine HRR.out.mono ?_
            rintro e W3 (⟨rfl, hJ3, hk3⟩ | ⟨rfl, hJx3⟩)
            · have hm2 : W3.cell? ⟨wr.heap.size, 2, none⟩ = some (.int .i64 t) := (World.cell?_of_block (a := ⟨wr.heap.size, 2, none⟩) (hk3.2.2 _ _ _ hnb.out)).trans q2
              have HJ3 := hideP hJ3
              have K3 := hideP (KPV.out.trans hk3)
              clear hk3 hJ3
              gi_wp2
              go_roundw
              case rel => exact ⟨k + 1, (t + 1), pre ++ [(m, T)], by omega, by go_num, by go_num, HN.out, HJ3.out, K3.out⟩
              case measure => simp [intOf]; omega
            · have HX3 := hideP hJx3
              clear hJx3
              gi_wp2
              refine bodyPost_ret (results_none rfl _ _ _) rfl ?_
              exact ⟨⟨_, rfl⟩, .inr ⟨_, trivial, HX3.out⟩⟩
          · rw [if_neg hB, List.nil_append] at HG
            have HN : Hid (pre ++ gapsFrom T (l.drop (k + 1)) (t + 1) = gapsFrom T l F) := HG
            clear HG
            gi_wp2
            refine ⟨fun _ h => (by cases h), ?_⟩
            gi_wp2
            go_roundw
            case rel => exact ⟨k + 1, (t + 1), pre, by omega, by go_num, by go_num, HN.out, HV.out, KPV.out⟩
            case measure => simp [intOf]; omega
        · have hC2 : t + 1 < m := by omega
          have hmx : max m (t + 1) = m := by omega
          have hmn : min (f - 1) T = T := by omega
          have HG := HFF.out
          rw [hmx, hmn] at HG
          clear hmx hmn
          by_cases hB : m ≤ T
          · exact absurd hB (by omega)
          · rw [if_neg hB, List.nil_append] at HG
            have HN : Hid (pre ++ gapsFrom T (l.drop (k + 1)) m = gapsFrom T l F) := HG
            clear HG
            gi_wp2
            refine ⟨fun _ h => (by cases h), ?_⟩
            gi_wp2
            go_roundw
            case rel => exact ⟨k + 1, m, pre, by omega, by go_num, by go_num, HN.out, HV.out, KPV.out⟩
            case measure => simp [intOf]; omega
    · have hdn : l.drop k = [] := List.drop_of_length_le (by omega)
      have HG := HF.out
      rw [hdn, gapsFrom] at HG
      clear hdn HF
      by_cases hB : m ≤ T
      · rw [if_pos hB] at HG
        have HN := hideP HG
        have hlen : pre.length < (gapsFrom T l F).length := by rw [← HN.out]; simp
        obtain ⟨fn, tmps, assign, body, hy, hRR⟩ := HY.out pre (m, T) wr HJs.out hlen
        have HRR := hideP hRR
        dsimp only at hy
        clear hRR HG hlen
        gi_wp2
        refine ⟨fun _ => by omega, ?_⟩
        refine HRR.out.mono ?_
        rintro e W3 (⟨rfl, hJ3, hk3⟩ | ⟨rfl, hJx3⟩)
        · have HJ3 := hideP hJ3
          clear hk3 hJ3
          gi_wp2
          go_end0
          exact ⟨⟨_, rfl⟩, .inl ⟨_, HN.out, HJ3.out⟩⟩
        · have HX3 := hideP hJx3
          clear hJx3
          gi_wp2
          go_end0
          exact ⟨⟨_, rfl⟩, .inr ⟨_, trivial, HX3.out⟩⟩
      · rw [if_neg hB, List.append_nil] at HG
        have HN := hideP HG
        clear HG
        gi_wp2
        go_end0
        first | exact ⟨⟨_, rfl⟩, .inl ⟨_, HN.out, HJs.out⟩⟩ | exact ⟨⟨_, rfl⟩, .inl (by rw [← HN.out]; exact HJs.out)⟩

set_option maxHeartbeats 1000000 in
theorem gapsOf_in (n : Nat) (v : Value) (F T : Int) (w : World) (hv : ∃ a k c, v = .slice a k c) :
    CallsIn Fence.wide n Tryd.prog 53 #[v, .int .i64 F, .int .i64 T] w fun e w' => e = .returned (.func (.func 78) #[] #[.pointer (some ⟨w.heap.size + 1, 0, none⟩), .pointer (some ⟨w.heap.size, 0, none⟩), .pointer (some ⟨w.heap.size + 2, 0, none⟩)]) ∧ w' = ((w.alloc (.cells #[v] 25)).alloc (.cells #[.int .i64 F] 3)).alloc (.cells #[.int .i64 T] 3) := by
  obtain ⟨a, k, c, rfl⟩ := hv
  refine callsIn_of_wp Tryd.func53 rfl trivial ?_ rfl
  simp only [Tryd.ntmps53, List.size_toArray, List.length_cons, List.length_nil, Nat.reduceAdd, Nat.reduceSub, Array.replicate_succ, Array.replicate_zero, List.push_toArray, List.append_toArray, List.nil_append, List.cons_append]
  gi_wp2
  go_ret
  exact ⟨rfl, rfl⟩

/-- What gapsOf hands back tells all runs, in their order, to whatever loop body keeps what it reads. -/
theorem gaps_stops (n : Nat) (hn : 3 ≤ n) (R : Nat) (ad : Option Addr) (cap : Nat) (l : List Rgn) (F T : Int) (hok : reignsOk l = true) (w : World) (hR : R + 4 ≤ w.heap.size) (hr : ∀ k, k < l.length → ∃ g, ad = some ⟨g, 0, none⟩ ∧ g < R ∧ RAt w g k (rgA l k))
    (hc1 : w.cell? ⟨R + 2, 0, none⟩ = some (.int .i64 F)) (hc2 : w.cell? ⟨R + 1, 0, none⟩ = some (.slice ad l.length cap)) (hc3 : w.cell? ⟨R + 3, 0, none⟩ = some (.int .i64 T)) :
    SeqStopsK Fence.wide n Tryd.prog 78 #[.pointer (some ⟨R + 2, 0, none⟩), .pointer (some ⟨R + 1, 0, none⟩), .pointer (some ⟨R + 3, 0, none⟩)] (fun x : Int × Int => #[Value.agg #[.int .i64 x.1, .int .i64 x.2]]) (KpR R) (fun ys => ys = gapsFrom T l F) (fun _ => True) (gapsFrom T l F).length w := fun lp J Jx W hW hJ _ hY h0 =>
  gaps1_in n hn lp R ad cap l F T hok J Jx hY W hJ (Nat.le_trans hR hW.size) (fun k hk => by
      obtain ⟨g, e, hg, x⟩ := hr k hk
      exact ⟨g, e, hg, x.below hW (by omega)⟩)
    (Later.at hc1 ⟨W, hW⟩) (Later.at hc2 ⟨W, hW⟩) (Later.at hc3 ⟨W, hW⟩) h0
end Go.Proofs.YtcdcniniafejbaaDoor.ctr
