/- Contract of the model's l05Is and of its MonthName, and plain laws of the texts. The twenty feasts as a plain list; their cells in a row; which one has a name. Feasts: the plain functions of their days and of those that a day is. -/
import Derived.Test.YtilpencbbdpgfaaGreatDoorJnQbd
import Derived.Test.YtilpencbbdpgfaaGreatDoorJnQbe
import Derived.Test.YtilpencbbdpgfaaGreatDoorJnQaa
import Derived.Handy
import Derived.Laws.AppendOwn
import Derived.Laws.OwnMore
import Derived.OwnWalk
import Derived.RangeFuncBox
import Derived.Maps.AppendAt
import Derived.Test.YtilpencbbdpgfaaGreatDoorJnQat
import Derived.Test.YtilpencbbdpgfaaGreatDoorJnQad
namespace Go.Proofs.YtilpencbbdpgfaaGreatDoor.ctr
open Go.RowKit
end Go.Proofs.YtilpencbbdpgfaaGreatDoor.ctr
namespace Go.Proofs.YtilpencbbdpgfaaGreatDoor.ctr
open Go.RowKit
structure Fea where
  name : ByteArray
  mv : Bool
  off : Int
  m : Int
  d : Int
def Fea.cs (f : Fea) : List Value := [.string f.name, .bool f.mv, .int .i64 f.off, .int .i64 f.m, .int .i64 f.d]
def fea0 : Fea := ⟨⟨#[]⟩, false, 0, 0, 0⟩
def feasts : List Fea := [
  ⟨⟨#[115, 101, 112, 116, 117, 97, 103, 101, 115, 105, 109, 97]⟩, true, -63, 0, 0⟩,
  ⟨⟨#[97, 115, 104]⟩, true, -46, 0, 0⟩,
  ⟨⟨#[112, 97, 108, 109]⟩, true, -7, 0, 0⟩,
  ⟨⟨#[101, 97, 115, 116, 101, 114]⟩, true, 0, 0, 0⟩,
  ⟨⟨#[113, 117, 97, 115, 105, 109, 111, 100, 111]⟩, true, 7, 0, 0⟩,
  ⟨⟨#[114, 111, 103, 97, 116, 105, 111, 110]⟩, true, 35, 0, 0⟩,
  ⟨⟨#[97, 115, 99, 101, 110, 115, 105, 111, 110]⟩, true, 39, 0, 0⟩,
  ⟨⟨#[112, 101, 110, 116, 101, 99, 111, 115, 116]⟩, true, 49, 0, 0⟩,
  ⟨⟨#[116, 114, 105, 110, 105, 116, 121]⟩, true, 56, 0, 0⟩,
  ⟨⟨#[99, 111, 114, 112, 117, 115]⟩, true, 60, 0, 0⟩,
  ⟨⟨#[101, 112, 105, 112, 104, 97, 110, 121]⟩, false, 0, 1, 6⟩,
  ⟨⟨#[99, 97, 110, 100, 108, 101, 109, 97, 115]⟩, false, 0, 2, 2⟩,
  ⟨⟨#[97, 110, 110, 117, 110, 99, 105, 97, 116, 105, 111, 110]⟩, false, 0, 3, 25⟩,
  ⟨⟨#[103, 101, 111, 114, 103, 101]⟩, false, 0, 4, 23⟩,
  ⟨⟨#[106, 111, 104, 110]⟩, false, 0, 6, 24⟩,
  ⟨⟨#[97, 115, 115, 117, 109, 112, 116, 105, 111, 110]⟩, false, 0, 8, 15⟩,
  ⟨⟨#[109, 105, 99, 104, 97, 101, 108]⟩, false, 0, 9, 29⟩,
  ⟨⟨#[115, 97, 105, 110, 116, 115]⟩, false, 0, 11, 1⟩,
  ⟨⟨#[109, 97, 114, 116, 105, 110]⟩, false, 0, 11, 11⟩,
  ⟨⟨#[99, 104, 114, 105, 115, 116, 109, 97, 115]⟩, false, 0, 12, 25⟩]
def feaAt (k : Nat) : Fea := feasts.getD k fea0
def feaCells : List Value := feasts.flatMap Fea.cs
theorem flat5 {j : Nat} (hj : j < 5) : ∀ (l : List Fea) (k : Nat), k < l.length → (l.flatMap Fea.cs)[k * 5 + j]? = (l.getD k fea0).cs[j]?
  | [], k, h => by simp at h
  | f :: l, 0, _ => by
    rw [List.flatMap_cons, List.getElem?_append_left (by simp [Fea.cs]; omega)]
    simp
  | f :: l, k + 1, h => by
    have ih := flat5 hj l k (by simpa using h)
    rw [List.flatMap_cons, List.getElem?_append_right (by simp [Fea.cs]; omega), show (k + 1) * 5 + j - f.cs.length = k * 5 + j from by simp [Fea.cs]; omega, ih]
    simp
theorem feaCell {k j : Nat} (hk : k < 20) (hj : j < 5) : feaCells[k * 5 + j]? = (feaAt k).cs[j]? := flat5 hj feasts k hk
def findFrom (s : ByteArray) : List Fea → Nat → Int
  | [], _ => -1
  | f :: l, k => if f.name = s then (k : Int) else findFrom s l (k + 1)
def findFeast (s : ByteArray) : Int := findFrom s feasts 0
def FeaRow (W : World) (v : Value) : Prop := ∃ g cap, v = .slice (some ⟨g, 0, none⟩) 20 cap ∧ g < W.heap.size ∧ ∀ k, k < 20 → ∀ j, j < 5 → W.cell? ⟨g, k * 5 + j, none⟩ = (feaAt k).cs[j]?
theorem FeaRow.below {W W' : World} {v : Value} (h : FeaRow W v) (hb : Below W.heap.size W W') : FeaRow W' v := by
  obtain ⟨g, cap, rfl, hg, hc⟩ := h
  exact ⟨g, cap, rfl, Nat.lt_of_lt_of_le hg hb.size, fun k hk j hj => (hb.cell (p := ⟨g, k * 5 + j, none⟩) hg).trans (hc k hk j hj)⟩
def FeaOwn (w W : World) (v : Value) : Prop := W.ownsRow w.heap.size 174 5 v 20 feaCells
theorem FeaOwn.row {w W : World} {v : Value} (h : FeaOwn w W v) : FeaRow W v := by
  rcases h.2 with ⟨_, h0⟩ | ⟨g, cap, cur, hv, hb, hh, hcap, _, hsz, htake⟩
  · simp at h0
  · subst hv
    refine ⟨g, cap, rfl, (Array.getElem?_eq_some_iff.1 hh).1, fun k hk j hj => ?_⟩
    rw [← feaCell hk hj, ← htake, List.getElem?_take, if_pos (by omega)]
    simp [World.cell?, hh]
end Go.Proofs.YtilpencbbdpgfaaGreatDoor.ctr
namespace Go.Proofs.YtilpencbbdpgfaaGreatDoor.ctr
open Go.RowKit
def feaOk (s : ByteArray) (mv : Bool) (o m d : Int) : Bool := nameOk s && (if mv = true then inB o (-63) 63 && decide (m = 0) && decide (d = 0) else decide (o = 0) && inB d 1 (monthDays 1 1999 m))
def feaDay (c y : Int) (s : ByteArray) (mv : Bool) (o m d : Int) : Int := if feaOk s mv o m d = true ∧ yearP c y then (if mv = true then easter c y + o else dayOf c y m d) else 0
def Fea.ok (f : Fea) : Bool := feaOk f.name f.mv f.off f.m f.d
def Fea.day (f : Fea) (c y : Int) : Int := feaDay c y f.name f.mv f.off f.m f.d
end Go.Proofs.YtilpencbbdpgfaaGreatDoor.ctr
