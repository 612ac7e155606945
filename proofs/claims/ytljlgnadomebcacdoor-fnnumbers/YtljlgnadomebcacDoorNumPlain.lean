/- Plain laws of numbers and numerals: a number comes back from its digits, a numeral from its signs. -/
import Derived.Test.YtljlgnadomebcacDoorReadCtr
import Derived.Test.YtljlgnadomebcacDoorGetCtr
namespace Go.Proofs.YtljlgnadomebcacDoor.ctr
open Go.RowKit

theorem valL_snoc (l : List UInt8) (c : UInt8) : valL (l ++ [c]) = 10 * valL l + (c.toNat : Int) - 48 := by
  unfold valL
  rw [List.foldl_append]
  rfl
theorem dig_nat (k : Nat) (h : k < 10) : (UInt8.ofNat (48 + k)).toNat = 48 + k := by
  show (48 + k) % 256 = 48 + k
  omega
theorem valL_dec (u : Nat) : valL (Lib.decDigits u) = (u : Int) := by
  induction u using Nat.strongRecOn with
  | ind u ih =>
    rw [Lib.decDigits]
    by_cases h : u < 10
    · rw [dif_pos h]
      have := dig_nat u h
      have e := valL_snoc [] (UInt8.ofNat (48 + u))
      rw [List.nil_append] at e
      rw [e, this]
      simp [valL]
      omega
    · rw [dif_neg h, valL_snoc, ih (u / 10) (by omega), dig_nat (u % 10) (by omega)]
      omega
theorem dec_digs (u : Nat) : (Lib.decDigits u).all digB = true := by
  induction u using Nat.strongRecOn with
  | ind u ih =>
    rw [Lib.decDigits]
    by_cases h : u < 10
    · rw [dif_pos h]
      simp only [List.all_cons, List.all_nil, Bool.and_true]
      unfold digB
      rw [dig_nat u h]
      exact inB_true (by omega) (by omega)
    · rw [dif_neg h, List.all_append, ih (u / 10) (by omega)]
      simp only [List.all_cons, List.all_nil, Bool.and_true, Bool.true_and]
      unfold digB
      rw [dig_nat (u % 10) (by omega)]
      exact inB_true (by omega) (by omega)
theorem read_back (e : Int) (h0 : 0 ≤ e) (h1 : e ≤ 999999999) : readDec (itoaB e) = e := by
  have hi : Lib.itoa e = Lib.decDigits e.toNat := by unfold Lib.itoa; rw [if_neg (by omega)]
  have hs : (itoaB e).size = (Lib.decDigits e.toNat).length := by show (Lib.itoa e).length = _; rw [hi]
  have hl : (itoaB e).data.toList = Lib.decDigits e.toNat := by show (Lib.itoa e).toArray.toList = _; rw [hi]
  have ht : (itoaB e).data.toList.take (itoaB e).size = Lib.decDigits e.toNat := by rw [take_all, hl]
  have hv : val (itoaB e) (itoaB e).size = e := by unfold val; rw [ht, valL_dec]; omega
  have hp : (10 : Nat) ^ (8 + 1) = 1000000000 := by decide
  have h9 : (itoaB e).size ≤ 9 := by rw [hs]; exact dec_len 8 e.toNat (by rw [hp]; omega)
  have hd : digs (itoaB e) (itoaB e).size = true := by unfold digs; rw [ht]; exact dec_digs _
  have := read_good (itoaB e) h9 hd (by rw [hv])
  rw [this, hv]

def worthL (l : List UInt8) (k : Nat) : Int := worth ((l.getD k 0).toNat : Int)
def stepL (l : List UInt8) (k : Nat) : Int := if k + 1 < l.length ∧ worthL l k < worthL l (k + 1) then -worthL l k else worthL l k
def sumRL (l : List UInt8) : Nat → Int
  | 0 => 0
  | k + 1 => sumRL l k + stepL l k
theorem sumR_list (s : ByteArray) : ∀ k, sumR s k = sumRL s.data.toList k
  | 0 => rfl
  | k + 1 => by
    have h := sumR_list s k
    unfold sumR sumRL
    rw [h]
    rfl
theorem stepL_cons (c : UInt8) (t : List UInt8) (k : Nat) : stepL (c :: t) (k + 1) = stepL t k := by
  unfold stepL worthL
  simp
theorem sumRL_cons (c : UInt8) (t : List UInt8) : ∀ n, sumRL (c :: t) (n + 1) = stepL (c :: t) 0 + sumRL t n
  | 0 => by simp [sumRL]
  | n + 1 => by
    have h := sumRL_cons c t n
    rw [sumRL, h, stepL_cons]
    show _ = _ + (sumRL t n + stepL t n)
    omega
/-- What the signs are worth, from the left. -/
def sumL : List UInt8 → Int
  | [] => 0
  | [c] => worth (c.toNat : Int)
  | c :: d :: l => (if worth (c.toNat : Int) < worth (d.toNat : Int) then -worth (c.toNat : Int) else worth (c.toNat : Int)) + sumL (d :: l)
theorem sumRL_all : ∀ l : List UInt8, sumRL l l.length = sumL l
  | [] => rfl
  | [c] => by simp [sumRL, sumL, stepL, worthL]
  | c :: d :: l => by
    rw [List.length_cons, sumRL_cons, sumRL_all (d :: l)]
    have : stepL (c :: d :: l) 0 = if worth (c.toNat : Int) < worth (d.toNat : Int) then -worth (c.toNat : Int) else worth (c.toNat : Int) := by
      unfold stepL worthL
      simp
    rw [this]
    rfl
theorem sumL_append (m : Int) : ∀ l1 l2 : List UInt8, (∀ x ∈ l1, m ≤ worth (x.toNat : Int)) → (∀ y, l2.head? = some y → worth (y.toNat : Int) ≤ m) → sumL (l1 ++ l2) = sumL l1 + sumL l2
  | [], l2, _, _ => by simp [sumL]
  | [c], [], _, _ => by simp [sumL]
  | [c], d :: l2, h1, h2 => by
    have a := h1 c (by simp)
    have b := h2 d rfl
    show (if worth (c.toNat : Int) < worth (d.toNat : Int) then -worth (c.toNat : Int) else worth (c.toNat : Int)) + sumL (d :: l2) = worth (c.toNat : Int) + sumL (d :: l2)
    rw [if_neg (by omega)]
  | c :: d :: l1, l2, h1, h2 => by
    have ih := sumL_append m (d :: l1) l2 (fun x hx => h1 x (by simp at hx ⊢; exact .inr hx)) h2
    show (if worth (c.toNat : Int) < worth (d.toNat : Int) then -worth (c.toNat : Int) else worth (c.toNat : Int)) + sumL ((d :: l1) ++ l2) = ((if worth (c.toNat : Int) < worth (d.toNat : Int) then -worth (c.toNat : Int) else worth (c.toNat : Int)) + sumL (d :: l1)) + sumL l2
    rw [ih]
    omega
theorem digL_mem {d : Nat} {a b c x : UInt8} (h : x ∈ digL d a b c) : x = a ∨ x = b ∨ x = c := by
  unfold digL at h
  split at h <;> simp at h <;> rcases h with h | h | h | h <;> simp_all
theorem digL_head {d : Nat} {a b c y : UInt8} {r : List UInt8} (h : (digL d a b c ++ r).head? = some y) : y = a ∨ y = b ∨ r.head? = some y := by
  unfold digL at h
  split at h <;> simp at h <;> simp_all
theorem sum_dig (d : Nat) (h : d < 10) : sumL (digL d 67 68 77) = 100 * (d : Int) ∧ sumL (digL d 88 76 67) = 10 * (d : Int) ∧ sumL (digL d 73 86 88) = (d : Int) := by
  have : d = 0 ∨ d = 1 ∨ d = 2 ∨ d = 3 ∨ d = 4 ∨ d = 5 ∨ d = 6 ∨ d = 7 ∨ d = 8 ∨ d = 9 := by omega
  rcases this with rfl | rfl | rfl | rfl | rfl | rfl | rfl | rfl | rfl | rfl <;> decide
theorem sum_many (k : Nat) (h : k < 4) : sumL (manyL 77 k) = 1000 * (k : Int) := by
  have : k = 0 ∨ k = 1 ∨ k = 2 ∨ k = 3 := by omega
  rcases this with rfl | rfl | rfl | rfl <;> decide
theorem sum_roman (n : Nat) (h : n < 4000) : sumL (roman n) = (n : Int) := by
  unfold roman
  rw [List.append_assoc, List.append_assoc, sumL_append 1000, sumL_append 100, sumL_append 10, sum_many _ (by omega), (sum_dig (n / 100 % 10) (by omega)).1, (sum_dig (n / 10 % 10) (by omega)).2.1, (sum_dig (n % 10) (by omega)).2.2]
  · omega
  · intro x hx
    rcases digL_mem hx with rfl | rfl | rfl <;> decide
  · intro y hy
    have hy' : (digL (n % 10) 73 86 88 ++ []).head? = some y := by rw [List.append_nil]; exact hy
    rcases digL_head hy' with rfl | rfl | h
    · decide
    · decide
    · simp at h
  · intro x hx
    rcases digL_mem hx with rfl | rfl | rfl <;> decide
  · intro y hy
    rcases digL_head hy with rfl | rfl | hy
    · decide
    · decide
    have hy' : (digL (n % 10) 73 86 88 ++ []).head? = some y := by rw [List.append_nil]; exact hy
    rcases digL_head hy' with rfl | rfl | h
    · decide
    · decide
    · simp at h
  · intro x hx
    have : x = 77 := List.eq_of_mem_replicate hx
    subst this
    decide
  · intro y hy
    rcases digL_head hy with rfl | rfl | hy
    · decide
    · decide
    rcases digL_head hy with rfl | rfl | hy
    · decide
    · decide
    have hy' : (digL (n % 10) 73 86 88 ++ []).head? = some y := by rw [List.append_nil]; exact hy
    rcases digL_head hy' with rfl | rfl | h
    · decide
    · decide
    · simp at h
theorem roman_back (g : Int) (h0 : 1 ≤ g) (h1 : g ≤ 3999) : getRoman (putRoman g) = g := by
  have hl : (putRoman g).data.toList = roman g.toNat := by unfold putRoman; rw [if_pos ⟨h0, h1⟩]
  have hs : sumR (putRoman g) (putRoman g).size = g := by
    rw [sumR_list]
    show sumRL (putRoman g).data.toList (putRoman g).data.toList.length = g
    rw [sumRL_all, hl, sum_roman _ (by omega)]
    omega
  rw [get_sum _ (by rw [hs]), hs]
theorem roman_some (g : Int) (h0 : 1 ≤ g) (h1 : g ≤ 3999) : (putRoman g).size ≠ 0 := by
  intro h
  have e := roman_back g h0 h1
  rw [get_empty _ h] at e
  omega
end Go.Proofs.YtljlgnadomebcacDoor.ctr
