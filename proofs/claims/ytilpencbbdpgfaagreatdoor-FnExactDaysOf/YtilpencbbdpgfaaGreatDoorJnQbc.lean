/- Contracts of the program's kalendsBehind and RomanOf: each answers its plain function, where the table of months holds its numbers. A region that draws its order and makes one new block: the operations ahead of the making only read and leave the world as it is, so the block's place is the same whenever it is made ('any_alloc'). Contract of the program's DayOfRoman: it answers its plain function, where the table of months holds its numbers. -/
import Derived.Test.YtilpencbbdpgfaaGreatDoorJnQbb
import Derived.Test.YtilpencbbdpgfaaGreatDoorJnQal
namespace Go.Proofs.YtilpencbbdpgfaaGreatDoor.ctr
open Go.RowKit
end Go.Proofs.YtilpencbbdpgfaaGreatDoor.ctr
namespace Go.Proofs.YtilpencbbdpgfaaGreatDoor.ctr
open Go.RowKit
structure Only (X : World) where
  w : World
  eq : w = X
instance (X : World) : Nonempty (Only X) := ⟨⟨X, rfl⟩⟩
theorem Only.at {X : World} {p : Addr} {v : Value} (h : X.cell? p = some v) (x : Only X) : x.w.cell? p = some v := by rw [x.eq]; exact h
section
variable {P : Program} {ops : Array Oper} {md : Region.Mode} {C0 C1 : World → Prop}
def Y2 (P : Program) (ops : Array Oper) (C0 C1 : World → Prop) (o : Oper) (v : Value) (a : Act) : Prop := YieldsIn P ops C0 o v a ∧ YieldsIn P ops C1 o v a
theorem Y2.of {o : Oper} {v : Value} {a : Act} (h : Y2 P ops C0 C1 o v a) (al : Bool) : YieldsIn P ops (if al = true then C1 else C0) o v a := by
  cases al
  · exact h.1
  · exact h.2
end
section
variable {P : Program} {ops : Array Oper} {md : Region.Mode} {C : World → Prop}
end
end Go.Proofs.YtilpencbbdpgfaaGreatDoor.ctr
namespace Go.Proofs.YtilpencbbdpgfaaGreatDoor.ctr
open Go.RowKit
structure DSt (w : World) (cn mk mo : Int) (tw : Bool) (c y m x : Int) (W : World) : Prop where
  below : Below w.heap.size w W
  rom : Blk W w.heap.size #[.int .i64 cn, .int .i64 mk, .int .i64 mo, .bool tw] 55
  res : Blk W (w.heap.size + 1) #[.int .i64 0, .int .i64 0, .int .i64 0, .int .i64 0] 92
  dat : Blk W (w.heap.size + 2) #[.int .i64 c, .int .i64 y, .int .i64 m, .int .i64 x] 92
theorem DSt.later {w : World} {cn mk mo : Int} {tw : Bool} {c y m x : Int} {W W' : World} (h : DSt w cn mk mo tw c y m x W) (hb : Below W.heap.size W W') : DSt w cn mk mo tw c y m x W' :=
  ⟨h.below.trans (hb.mono h.below.size), h.rom.below hb h.rom.lt, h.res.below hb h.res.lt, h.dat.below hb h.dat.lt⟩
theorem DSt.month {w : World} {cn mk mo : Int} {tw : Bool} {c y m x : Int} {W : World} (h : DSt w cn mk mo tw c y m x W) (m' : Int) : DSt w cn mk mo tw c y m' x (W.setCell ⟨w.heap.size + 2, 2, none⟩ (.int .i64 m')) :=
  ⟨h.below.setCell (p := ⟨w.heap.size + 2, 2, none⟩) (show w.heap.size ≤ w.heap.size + 2 by omega) _, h.rom.other (by omega), h.res.other (by omega), h.dat.set 2 _⟩
theorem DSt.day {w : World} {cn mk mo : Int} {tw : Bool} {c y m x : Int} {W : World} (h : DSt w cn mk mo tw c y m x W) (x' : Int) : DSt w cn mk mo tw c y m x' (W.setCell ⟨w.heap.size + 2, 3, none⟩ (.int .i64 x')) :=
  ⟨h.below.setCell (p := ⟨w.heap.size + 2, 3, none⟩) (show w.heap.size ≤ w.heap.size + 2 by omega) _, h.rom.other (by omega), h.res.other (by omega), h.dat.set 3 _⟩
end Go.Proofs.YtilpencbbdpgfaaGreatDoor.ctr
