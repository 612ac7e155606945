/- Contracts of the program's digitSigns and PutRoman: PutRoman answers the plain function putRoman at every int, where the program's table of shapes holds its texts; nothing that was there turns. -/
import Derived.Test.YtoofnjccpoeomaaGreatDoorRomanCtr
import Derived.Test.YtoofnjccpoeomaaGreatDoorVarsKit
import Derived.Test.YtoofnjccpoeomaaGreatDoorShelf
import Derived.Lib.ConvBytes
import Derived.Laws.IdiomStrings
namespace Go.Proofs.YtoofnjccpoeomaaGreatDoor.ctr
open Go.RowKit

def shapes : List (List UInt8) := [[], [97], [97, 97], [97, 97, 97], [97, 98], [98], [98, 97], [98, 97, 97], [98, 97, 97, 97], [97, 99]]
def signOf (a b c : UInt8) (x : UInt8) : UInt8 := if x = 97 then a else if x = 98 then b else c
def subL (a b c : UInt8) (sh : List UInt8) : List UInt8 := sh.map (signOf a b c)
def mix (a b c : UInt8) (sh : List UInt8) (k j : Nat) : Int := if j < k then (((subL a b c sh).getD j 0).toNat : Int) else ((sh.getD j 0).toNat : Int)
theorem shape_ok : ∀ d : Fin 10, (shapes.getD d.val []).length ≤ 4 ∧ ∀ x ∈ shapes.getD d.val [], x = 97 ∨ x = 98 ∨ x = 99 := by decide
theorem shape_sub (a b c : UInt8) (d : Nat) (h : d < 10) : subL a b c (shapes.getD d []) = digL d a b c := by
  have : d = 0 ∨ d = 1 ∨ d = 2 ∨ d = 3 ∨ d = 4 ∨ d = 5 ∨ d = 6 ∨ d = 7 ∨ d = 8 ∨ d = 9 := by omega
  rcases this with rfl | rfl | rfl | rfl | rfl | rfl | rfl | rfl | rfl | rfl <;> rfl

theorem conv (w : World) (sh : List UInt8) : ∃ cap w1, (convert 9 135 (.string ⟨sh.toArray⟩)).run Tryz.prog w = .ok (.slice (some ⟨w.heap.size, 0, none⟩) sh.length cap) w1 ∧ Below w.heap.size w w1 ∧ w1.heap.size = w.heap.size + 1 ∧
    (∀ j, j < sh.length → w1.cell? ⟨w.heap.size, j, none⟩ = some (.int .u8 ((sh.getD j 0).toNat : Int))) ∧ (∀ j, j < sh.length → w1.frozen? ⟨w.heap.size, j, none⟩ = false) := by
  refine ⟨_, _, Lib.run_convert_string_bytes w 9 135 5 ⟨sh.toArray⟩ Tryz.underlying9 Tryz.underlying135 Tryz.underlying5, ?_, Lib.bytesWorld_size _ _ _, ?_, ?_⟩
  · refine ⟨rfl, rfl, rfl, ?_, fun k hk => Lib.bytesWorld_at_old w 5 _ k hk⟩
    rw [Lib.bytesWorld_size]; omega
  · intro j hj
    exact Lib.bytesWorld_cell w 5 ⟨sh.toArray⟩ j hj
  · intro j hj
    have hs : sh.length ≤ (Lib.bytesCells w 5 ⟨sh.toArray⟩).size := by simp [Lib.bytesCells]
    simp only [World.frozen?, Lib.bytesWorld_at_new]
    simp
    omega

theorem setCell_size (w : World) (p : Addr) (v : Value) : (w.setCell p v).heap.size = w.heap.size := by simp [World.setCell]
theorem stored (a b c : UInt8) (sh : List UInt8) (k j : Nat) (v : UInt8) {wr : World} {B : Nat} {u : Value} (hv : (subL a b c sh).getD k 0 = v) (hk : wr.cell? ⟨B, k, none⟩ = some u)
    (hj : wr.cell? ⟨B, j, none⟩ = some (.int .u8 (mix a b c sh k j))) : (wr.setCell ⟨B, k, none⟩ (.int .u8 (v.toNat : Int))).cell? ⟨B, j, none⟩ = some (.int .u8 (mix a b c sh (k + 1) j)) := by
  by_cases e : j = k
  · subst e
    rw [World.cell?_setCell_same wr _ _ hk]
    unfold mix
    rw [if_pos (by omega), hv]
  · rw [World.cell?_setCell_other wr _ _ _ (by intro h; apply e; injection h with _ h2 _; exact h2.symm), hj]
    unfold mix
    by_cases h : j < k
    · rw [if_pos h, if_pos (by omega)]
    · rw [if_neg h, if_neg (by omega)]
theorem back (wr : World) (cap B : Nat) (l : List UInt8) (n : Nat) (hn : l.length = n) (hc : ∀ j, j < n → wr.cell? ⟨B, j, none⟩ = some (.int .u8 ((l.getD j 0).toNat : Int))) :
    (convert 135 9 (.slice (some ⟨B, 0, none⟩) n cap)).run Tryz.prog wr = .ok (.string ⟨l.toArray⟩) wr := by
  subst hn
  refine run_convert_bytes_back wr 135 9 5 ⟨B, 0, none⟩ cap l Tryz.underlying135 Tryz.underlying5 Tryz.underlying9 (fun j hj => ?_)
  have : (⟨B, 0, none⟩ : Addr).add j = ⟨B, j, none⟩ := by unfold Addr.add; split <;> simp_all
  rw [this, hc j hj]
  simp [List.getD, List.getElem?_eq_getElem hj]

set_option maxHeartbeats 1000000 in
theorem digitSigns (d : Int) (a b c : UInt8) (w : World) (h0 : 0 ≤ d) (h9 : d ≤ 9) (hT : kit.StrIs Tryz.prog w "loop.example/g00638/impl.digitShapes" shapes) :
    Calls Tryz.prog 108 #[.int .i64 d, .string ⟨#[a, b, c]⟩] w fun e w' => e = .returned (.string ⟨(digL d.toNat a b c).toArray⟩) ∧ Below w.heap.size w w' := by
  obtain ⟨n, rfl⟩ := Int.eq_ofNat_of_zero_le h0
  have hc := hT.cell (g := 4) (by kernel_rfl) n (by show n < 10; omega)
  have hso := shape_ok ⟨n, by omega⟩
  have HD : Hid (digL ((n : Int)).toNat a b c = subL a b c (shapes.getD n [])) := by unfold Hid; rw [Int.toNat_natCast]; exact (shape_sub a b c n (by omega)).symm
  generalize hsh : shapes.getD n [] = sh at *
  obtain ⟨hlen, hall⟩ : sh.length ≤ 4 ∧ ∀ x ∈ sh, x = 97 ∨ x = 98 ∨ x = 99 := hso
  clear hT hsh
  have HA : Hid (∀ x ∈ sh, x = 97 ∨ x = 98 ∨ x = 99) := hall
  clear hall
  obtain ⟨cap, w1, hrun, hb, hz, hcell, hfr⟩ := conv w sh
  have HC : Hid (∀ j, j < sh.length → w1.cell? ⟨w.heap.size, j, none⟩ = some (.int .u8 ((sh.getD j 0).toNat : Int))) := hcell
  have HF : Hid (∀ j, j < sh.length → w1.frozen? ⟨w.heap.size, j, none⟩ = false) := hfr
  have HB : Hid (Below w.heap.size w w1) := hb
  have HZ : Hid (w1.heap.size = w.heap.size + 1) := hz
  clear hcell hfr hb hz
  go_enter Tryz.func108, Tryz.ntmps108
  go_wp2
  go_loopw [14] (fun i wr => ∃ k : Nat, k ≤ sh.length ∧ i = .int .i64 k ∧ Below w.heap.size w wr ∧ w.heap.size < wr.heap.size ∧ (∀ j, j < sh.length → wr.cell? ⟨w.heap.size, j, none⟩ = some (.int .u8 (mix a b c sh k j))) ∧ (∀ j, j < sh.length → wr.frozen? ⟨w.heap.size, j, none⟩ = false)) (fun i _ => sh.length - (intOf i).toNat)
  case atStart => exact ⟨0, Nat.zero_le _, rfl, HB.out, by rw [HZ.out]; omega, fun j hj => by rw [HC.out j hj]; simp [mix], HF.out⟩
  case round =>
    obtain ⟨k, hk, rfl, hb, hz, hcl, hfr⟩ := hrel
    have HC' : Hid (∀ j, j < sh.length → wr.cell? ⟨w.heap.size, j, none⟩ = some (.int .u8 (mix a b c sh k j))) := hcl
    have HF' : Hid (∀ j, j < sh.length → wr.frozen? ⟨w.heap.size, j, none⟩ = false) := hfr
    have HB' : Hid (Below w.heap.size w wr) := hb
    clear hcl hfr hb hrun hc
    by_cases hlt : k < sh.length
    · have hck := HC'.out k hlt
      have hfk := HF'.out k hlt
      have hx := HA.out (sh.getD k 0) (by rw [List.getD, List.getElem?_eq_getElem hlt]; exact List.getElem_mem _)
      have hm : mix a b c sh k k = ((sh.getD k 0).toNat : Int) := by simp [mix]
      rw [hm] at hck
      clear hm
      have HX : Hid ((subL a b c sh).getD k 0 = signOf a b c (sh.getD k 0)) := by
        unfold Hid subL
        simp [List.getD, List.getElem?_eq_getElem hlt]
      generalize hg : sh.getD k 0 = x at *
      clear hg
      rcases hx with rfl | rfl | rfl
      · go_wp2
        exact ⟨⟨k + 1, by omega, by go_num, HB'.out.setCell (Nat.le_refl _) _, by rw [setCell_size]; exact hz, fun j hj => stored a b c sh k j _ HX.out (HC'.out k hlt) (HC'.out j hj), fun j hj => by rw [World.frozen?_setCell]; exact HF'.out j hj⟩, by simp [intOf]; omega⟩
      · go_wp2
        exact ⟨⟨k + 1, by omega, by go_num, HB'.out.setCell (Nat.le_refl _) _, by rw [setCell_size]; exact hz, fun j hj => stored a b c sh k j _ HX.out (HC'.out k hlt) (HC'.out j hj), fun j hj => by rw [World.frozen?_setCell]; exact HF'.out j hj⟩, by simp [intOf]; omega⟩
      · go_wp2
        exact ⟨⟨k + 1, by omega, by go_num, HB'.out.setCell (Nat.le_refl _) _, by rw [setCell_size]; exact hz, fun j hj => stored a b c sh k j _ HX.out (HC'.out k hlt) (HC'.out j hj), fun j hj => by rw [World.frozen?_setCell]; exact HF'.out j hj⟩, by simp [intOf]; omega⟩
    · have hback := back wr cap w.heap.size (subL a b c sh) sh.length (by simp [subL]) (fun j hj => by
        have h := HC'.out j hj
        rw [h]
        unfold mix
        rw [if_pos (by omega)])
      go_wp2
      go_ret
      exact ⟨ret_str (by rw [HD.out]), HB'.out⟩
/-- The program's table of shapes of digits holds its texts. -/
abbrev Shp (w : World) : Prop := kit.StrIs Tryz.prog w "loop.example/g00638/impl.digitShapes" shapes
theorem Shp.later {w w1 : World} (h : Shp w) (hb : Below w.heap.size w w1) : Shp w1 := kit.StrIs.below h hb (g := 4) (by kernel_rfl)
end Go.Proofs.YtoofnjccpoeomaaGreatDoor.ctr
