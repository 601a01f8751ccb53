/-
  Own words for every seat: how a law that leaves all old memory alone becomes its row, and how a slice of one-cell integers is read. Conditions: none beyond what each theorem names.
  Layer 8, bits: the plain arithmetic of lists of bits. No program. No conditions beyond what each theorem names.
  Layer 9, huff: the plain arithmetic of lengths. No program. No conditions beyond what each theorem names.
  Layer 8, bits: the plain arithmetic of reading. No program. No conditions beyond what each theorem names.
  Layer 12, deflate: the tables of least lengths and distances, plain. No program.
  Own words for structs of integers, by value and in slices that came in. No program. No conditions beyond what each theorem names.
  Own words for a struct parameter of three integers and a slice of bytes. No program. No conditions beyond what each theorem names.
  Own words for slices of elements of any shape that came in. No program. No conditions beyond what each theorem names.
  Own words for slices of rows of bytes that came in, or that a call lays itself. No program. No conditions beyond what each theorem names.
  Own words for package-level arrays of integers that the program's own text lays. No program. No conditions beyond what each theorem names.
-/
import Derived.Below
import Derived.Carry
import Derived.WalkKit
import Derived.ProofKit
import Derived.OpenShut
import Derived.Lib.Hide
import Derived.Deep.Draws
import Derived.Laws.BitsAllLaws
import Derived.Laws.Bits64b
import Derived.DataReads
import Derived.ChangeArms
import Derived.LaidMore
import Derived.MakeChecks
import Derived.Stop.Joined
namespace Go.Proofs.YthmkeflkhocobaaDoor.Kit
open Go.ChangeShapes Go.WideShapes Go.ChangeAt Go.RowKit

section
variable {H : Type} {enc : TypeId × Value → H} {P : Program}

theorem trodAll_below (hl : laidOutB P = true) {W W' : World} (hb : Below W.heap.size W W') :
    ∀ {ts : List TypeId} {vs : List Value} {ds : List (DataW H)} {ps : List MemPlace}, ts.all (fun t => P.readableRec t && decide (t < P.types.size)) = true →
      DataW.TrodAll enc P W 0 (fun _ => true) true ts vs ds ps → (∀ x ∈ ps, x.block < W.heap.size) → DataW.TrodAll enc P W' 0 (fun b => decide (b < W.heap.size)) true ts vs ds ps
  | [], [], [], _, _, h, _ => h
  | [], _ :: _, _, _, _, h, _ => h.elim
  | [], [], _ :: _, _, _, h, _ => h.elim
  | _ :: _, [], _, _, _, h, _ => h.elim
  | _ :: _, _ :: _, [], _, _, h, _ => h.elim
  | t :: ts, v :: vs, d :: ds, ps, hr, h, hlt => by
    obtain ⟨p, q, h1, h2, rfl⟩ := h
    simp only [List.all_cons, Bool.and_eq_true, decide_eq_true_eq] at hr
    exact ⟨p, q, Below.trod hl hr.1.1 hr.1.2 h1 hb (fun x hx => hlt x (by simp [hx])), trodAll_below hl hb (by simpa using hr.2) h2 (fun x hx => hlt x (by simp [hx])), rfl⟩

/-- A law's end: it answered true, and nothing that was there before has turned. -/
theorem law_post {f : Func} {s : ChangeSpec} {apart fresh handsOn : Bool} {W W' : World} {args : Array Value} {ds gs : List (DataW H)} {before : List MemPlace} {tb : TypeId}
    (hl : laidOutB P = true) (hr : f.params.toList.all (fun t => P.readableRec t && decide (t < P.types.size)) = true)
    (hW : DataW.Whole enc P f.params.toList s.vars apart W args.toList ds gs before) (hv : s.vars = [])
    (hres : f.resultTypes = #[tb]) (htb : P.underlying tb = some .bool)
    (hfn : s.fn H ds = { results := [.lit (.bool true)], args := ds }) (hb : Below W.heap.size W W') :
    s.post enc P f apart fresh handsOn false W args (.bool true) W' := by
  have hW' := hW
  obtain ⟨p, q, hA, hV, hps, hz, hn⟩ := hW
  rw [hv] at hV
  obtain ⟨rfl, rfl⟩ := trodVars_none hV
  simp only [List.append_nil] at hps
  subst hps
  have hlt : ∀ x ∈ before, x.block < W.heap.size := fun x hx => hW'.lt x hx
  refine ⟨ds, [], before, [], before, [], hW', ?_, ?_, ?_, World.keptBut_mono (fun x hx => ⟨hx, Or.inr (Or.inl hx)⟩) (hb.frame (· ∈ before)), fun h => by cases h⟩
  · rw [List.append_nil, hfn, hres]
    exact trodAll_mk1 (shut_bool htb _)
  · rw [List.append_nil, hfn]
    exact trodAll_below hl hb hr hA hlt
  · rw [List.append_nil, hfn, hv]
    exact rfl
end

theorem below_draws {B : Nat} {a w : World} (h : Below B a w) (n : Nat) : Below B a (w.drewN n) := ⟨h.os, h.tape, h.output, h.size, h.block⟩

/-! ### A slice of one-cell integers -/

/-- The slice at A holds the numbers xs; its memory lies below block B. -/
def Holds (w : World) (B : Nat) (k : IntKind) (A : Option Addr) (xs : List Int) : Prop :=
  0 < xs.length → ∃ b off : Nat, A = some ⟨b, off, none⟩ ∧ b < B ∧ ∀ j, j < xs.length → w.cell? ⟨b, off + j, none⟩ = some (.int k (xs.getD j 0))

theorem Holds.nil {w : World} {B : Nat} {k : IntKind} {A : Option Addr} : Holds w B k A [] := fun h => absurd h (by simp)

theorem Holds.keep {w w' : World} {B : Nat} {k : IntKind} {A : Option Addr} {xs : List Int} (h : Holds w B k A xs) (hk : ∀ p : Addr, p.block < B → w'.cell? p = w.cell? p) : Holds w' B k A xs := by
  intro hx
  obtain ⟨b, off, e, hb, hc⟩ := h hx
  exact ⟨b, off, e, hb, fun j hj => (hk _ hb).trans (hc j hj)⟩

theorem Holds.below {w w' : World} {B : Nat} {k : IntKind} {A : Option Addr} {xs : List Int} (h : Holds w B k A xs) (hb : Below B w w') : Holds w' B k A xs := h.keep fun _ hp => hb.cell hp

theorem Holds.more {w : World} {B B' : Nat} {k : IntKind} {A : Option Addr} {xs : List Int} (h : Holds w B k A xs) (hB : B ≤ B') : Holds w B' k A xs := by
  intro hx
  obtain ⟨b, off, e, hb, hc⟩ := h hx
  exact ⟨b, off, e, by omega, hc⟩

def Octets (xs : List Int) : Prop := ∀ n ∈ xs, 0 ≤ n ∧ n ≤ 255

theorem Octets.at_ {xs : List Int} (h : Octets xs) (j : Nat) : 0 ≤ xs[j]?.getD 0 ∧ xs[j]?.getD 0 ≤ 255 := by
  by_cases hj : j < xs.length
  · have := h xs[j] (List.getElem_mem hj)
    simpa [hj] using this
  · simp [List.getElem?_eq_none (by omega : xs.length ≤ j)]

theorem Octets.tail {xs : List Int} (h : Octets xs) (n : Nat) : Octets (xs.drop n) := fun _ hx => h _ (List.mem_of_mem_drop hx)
theorem Octets.head {xs : List Int} (h : Octets xs) (n : Nat) : Octets (xs.take n) := fun _ hx => h _ (List.mem_of_mem_take hx)

/-- A []uint8 that came in, opened: nil or not, it is a slice that holds its bytes. -/
theorem open_octets {H : Type} {enc : TypeId × Value → H} {P : Program} {w : World} {base : Nat} {t e : TypeId} {v : Value} {d : DataW H} {ps : List MemPlace}
    (ht : P.underlying t = some (.slice e)) (he : P.underlying e = some (.int .u8)) (hc : P.cellsOf e = 1)
    (hval : Value.okWide P w .any base t v) (h : DataW.Trod enc P w 0 (fun _ => true) true t v d ps) (hlt : ∀ x ∈ ps, x.block < w.heap.size) :
    ∃ (A : Option Addr) (cap : Nat) (xs : List Int), v = .slice A xs.length cap ∧ xs.length ≤ cap ∧ cap ≤ maxLen ∧ Octets xs ∧ Holds w w.heap.size .u8 A xs := by
  obtain ⟨a0, len, cap, rfl⟩ := okWide_slice ht hval
  obtain ⟨fuel, hf⟩ := h
  rcases open_ints ht he hc hf with ⟨hcs, hx⟩ | ⟨a, len', cap', zs, hcs, _, hl, hm, hz, hx, hcell, hwz⟩
  · simp [Value.cells] at hcs
    obtain ⟨rfl, rfl, rfl⟩ := hcs
    exact ⟨none, 0, [], rfl, Nat.le_refl _, Nat.zero_le _, fun _ h => by simp at h, Holds.nil⟩
  · simp [Value.cells] at hcs
    obtain ⟨rfl, rfl, rfl⟩ := hcs
    simp only [Prod.mk.injEq] at hx
    obtain ⟨rfl, rfl⟩ := hx
    simp only [if_true] at hz
    refine ⟨some a, cap, zs.take len, by simp [hz, Nat.min_eq_left hl], by simp; omega, hm, fun n hn => bounds_u8 (hwz n (List.mem_of_mem_take hn)), fun hx => ?_⟩
    simp only [List.length_take] at hx
    obtain ⟨b, off, spot⟩ := a
    have hspot : spot = none := by simpa [Addr.add] using World.cell?_spot (hcell 0 (by omega))
    subst hspot
    refine ⟨b, off, rfl, hlt (.cell b (off + 0)) (MemPlace.mem_row.2 ⟨0, by omega, by simp⟩), fun j hj => ?_⟩
    simp only [List.length_take] at hj
    rw [← add_plain, hcell j (by omega)]
    simp [List.getD, show j < len by omega]
end Go.Proofs.YthmkeflkhocobaaDoor.Kit

namespace Go.Proofs.YthmkeflkhocobaaDoor.Bits
open Go.RowKit Go.Proofs.YthmkeflkhocobaaDoor.Kit

/-- What bits tell, the lowest first. -/
def val : List Int → Int
  | [] => 0
  | b :: l => b + 2 * val l
def Bit (l : List Int) : Prop := ∀ b ∈ l, 0 ≤ b ∧ b ≤ 1
/-- The lowest n bits of a number. -/
def num (x : Int) : Nat → List Int
  | 0 => []
  | n + 1 => x % 2 :: num (x / 2) n
/-- The first k bytes of bits. -/
def bytesOf : Nat → List Int → List Int
  | 0, _ => []
  | k + 1, l => val (l.take 8) :: bytesOf k (l.drop 8)
def bitsOf : List Int → List Int
  | [] => []
  | b :: l => num b 8 ++ bitsOf l
/-- Bits, and zeros up to a whole byte. -/
def pad (l : List Int) : List Int := l ++ List.replicate ((8 - l.length % 8) % 8) 0

theorem p2_pos (n : Nat) : (0 : Int) < 2 ^ n := Int.pow_pos (by omega)
theorem Bit.nil : Bit [] := fun _ h => by simp at h
theorem Bit.append {a b : List Int} (ha : Bit a) (hb : Bit b) : Bit (a ++ b) := fun x hx => (List.mem_append.1 hx).elim (ha x) (hb x)
theorem Bit.take {l : List Int} (h : Bit l) (n : Nat) : Bit (l.take n) := fun x hx => h x (List.mem_of_mem_take hx)
theorem Bit.drop {l : List Int} (h : Bit l) (n : Nat) : Bit (l.drop n) := fun x hx => h x (List.mem_of_mem_drop hx)
theorem Bit.zeros (n : Nat) : Bit (List.replicate n 0) := fun x hx => by rw [(List.mem_replicate.1 hx).2]; decide

theorem num_length : ∀ (n : Nat) (x : Int), (num x n).length = n
  | 0, _ => rfl
  | n + 1, x => by simp [num, num_length n]
theorem num_bit : ∀ (n : Nat) (x : Int), Bit (num x n)
  | 0, _ => Bit.nil
  | n + 1, x => fun b hb => by
    rcases List.mem_cons.1 hb with rfl | hb
    · omega
    · exact num_bit n _ b hb
theorem div_two_pow (x : Int) (n : Nat) : x / 2 / 2 ^ n = x / 2 ^ (n + 1) := by
  rw [Int.ediv_ediv_of_nonneg (by omega), Int.pow_succ, Int.mul_comm]
theorem num_snoc : ∀ (n : Nat) (x : Int), num x (n + 1) = num x n ++ [x / 2 ^ n % 2]
  | 0, x => by simp [num]
  | n + 1, x => by
    rw [num, num_snoc n (x / 2), div_two_pow]
    rfl
theorem num_get : ∀ (n : Nat) (x : Int) (i : Nat), i < n → (num x n)[i]? = some (x / 2 ^ i % 2)
  | n + 1, x, 0, _ => by simp [num]
  | n + 1, x, i + 1, h => by
    rw [num, List.getElem?_cons_succ, num_get n (x / 2) i (by omega), div_two_pow]
theorem num_append : ∀ (a b : Nat) (x : Int), num x (a + b) = num x a ++ num (x / 2 ^ a) b
  | 0, b, x => by simp [num]
  | a + 1, b, x => by
    rw [show a + 1 + b = (a + b) + 1 by omega, num, num_append a b, div_two_pow]
    rfl
theorem val_bd : ∀ {l : List Int}, Bit l → 0 ≤ val l ∧ val l < 2 ^ l.length
  | [], _ => by simp [val]
  | b :: l, h => by
    have h1 := val_bd (l := l) fun x hx => h x (List.mem_cons_of_mem _ hx)
    have h2 := h b (List.mem_cons_self ..)
    simp only [val, List.length_cons, Int.pow_succ]
    omega
theorem val_append : ∀ (a b : List Int), val (a ++ b) = val a + 2 ^ a.length * val b
  | [], b => by simp [val]
  | x :: a, b => by
    simp only [List.cons_append, val, val_append a b, List.length_cons, Int.pow_succ]
    rw [Int.mul_comm (2 ^ a.length) 2, Int.mul_assoc, Int.mul_add]
    omega
theorem val_zeros : ∀ n, val (List.replicate n 0) = 0
  | 0 => rfl
  | n + 1 => by simp [List.replicate_succ, val, val_zeros n]
theorem val_append_zeros (l : List Int) (n : Nat) : val (l ++ List.replicate n 0) = val l := by rw [val_append, val_zeros]; omega
theorem val_num : ∀ (n : Nat) (x : Int), val (num x n) = x % 2 ^ n
  | 0, x => by simp [num, val, Int.emod_one]
  | n + 1, x => by
    rw [num, val, val_num n (x / 2), Int.pow_succ, Int.mul_comm (2 ^ n) 2]
    have h1 := Int.mul_ediv_add_emod (x / 2) (2 ^ n)
    have h2 := Int.emod_nonneg (x / 2) (by have := p2_pos n; omega : (2 : Int) ^ n ≠ 0)
    have h3 := Int.emod_lt_of_pos (x / 2) (p2_pos n)
    have h4 : x = (x % 2 + 2 * (x / 2 % 2 ^ n)) + 2 * 2 ^ n * (x / 2 / 2 ^ n) := by
      rw [Int.mul_assoc]
      omega
    have h5 : x % (2 * 2 ^ n) = (x % 2 + 2 * (x / 2 % 2 ^ n)) % (2 * 2 ^ n) := by
      conv => lhs; rw [h4]
      exact Int.add_mul_emod_self_left ..
    rw [h5]
    exact (Int.emod_eq_of_lt (by omega) (by omega)).symm
theorem num_val : ∀ {l : List Int}, Bit l → num (val l) l.length = l
  | [], _ => rfl
  | b :: l, h => by
    have h2 := h b (List.mem_cons_self ..)
    have h3 := num_val (l := l) fun x hx => h x (List.mem_cons_of_mem _ hx)
    rw [List.length_cons, num, val, show (b + 2 * val l) % 2 = b by omega, show (b + 2 * val l) / 2 = val l by omega, h3]
theorem val_take_drop (l : List Int) (n : Nat) (h : n ≤ l.length) : val l = val (l.take n) + 2 ^ n * val (l.drop n) := by
  have := val_append (l.take n) (l.drop n)
  rwa [List.take_append_drop, List.length_take, Nat.min_eq_left h] at this
theorem val_mod {l : List Int} (hb : Bit l) (n : Nat) (h : n ≤ l.length) : val l % 2 ^ n = val (l.take n) ∧ val l / 2 ^ n = val (l.drop n) := by
  have h1 := val_bd (hb.take n)
  rw [List.length_take, Nat.min_eq_left h] at h1
  rw [val_take_drop l n h]
  exact ⟨by rw [Int.add_mul_emod_self_left, Int.emod_eq_of_lt h1.1 h1.2], by rw [Int.add_mul_ediv_left _ _ (by have := p2_pos n; omega), Int.ediv_eq_zero_of_lt h1.1 h1.2]; omega⟩
theorem val_mod_small {l : List Int} (hb : Bit l) (n : Nat) (h : l.length ≤ n) : val l % 2 ^ n = val l := by
  have h1 := val_bd hb
  have h2 : (2 : Int) ^ l.length ≤ 2 ^ n := by
    rw [show n = l.length + (n - l.length) by omega, Int.pow_add]
    have := p2_pos l.length
    have := p2_pos (n - l.length)
    calc (2 : Int) ^ l.length = 2 ^ l.length * 1 := by omega
      _ ≤ _ := Int.mul_le_mul_of_nonneg_left (by omega) (by omega)
  exact Int.emod_eq_of_lt h1.1 (by omega)

theorem bytesOf_length : ∀ (k : Nat) (l : List Int), (bytesOf k l).length = k
  | 0, _ => rfl
  | k + 1, l => by simp [bytesOf, bytesOf_length k]
theorem val8_bd {l : List Int} (h : Bit l) : 0 ≤ val (l.take 8) ∧ val (l.take 8) ≤ 255 := by
  have h1 := val_bd (h.take 8)
  have h2 : (2 : Int) ^ (l.take 8).length ≤ 256 := by
    have : (l.take 8).length ≤ 8 := List.length_take_le 8 l
    generalize (l.take 8).length = n at this
    match n, this with
    | 0, _ | 1, _ | 2, _ | 3, _ | 4, _ | 5, _ | 6, _ | 7, _ | 8, _ => decide
  omega
theorem bytesOf_octets : ∀ (k : Nat) {l : List Int}, Bit l → Octets (bytesOf k l)
  | 0, _, _ => fun _ h => by simp [bytesOf] at h
  | k + 1, l, h => fun x hx => by
    rcases List.mem_cons.1 hx with rfl | hx
    · exact val8_bd h
    · exact bytesOf_octets k (h.drop 8) x hx
theorem bytesOf_snoc : ∀ (k : Nat) (l : List Int), bytesOf (k + 1) l = bytesOf k l ++ [val ((l.drop (8 * k)).take 8)]
  | 0, l => by simp [bytesOf]
  | k + 1, l => by
    rw [bytesOf, bytesOf_snoc k (l.drop 8), List.drop_drop, bytesOf, show 8 + 8 * k = 8 * (k + 1) by omega]
    rfl
theorem bytesOf_left : ∀ (k : Nat) (a b : List Int), 8 * k ≤ a.length → bytesOf k (a ++ b) = bytesOf k a
  | 0, _, _, _ => rfl
  | k + 1, a, b, h => by
    rw [bytesOf, bytesOf, List.take_append_of_le_length (by omega), List.drop_append_of_le_length (by omega), bytesOf_left k (a.drop 8) b (by simp; omega)]
theorem bytesOf_zeros : ∀ (k : Nat) (l : List Int) (z : Nat), bytesOf k (l ++ List.replicate z 0) = bytesOf k l
  | 0, _, _ => rfl
  | k + 1, l, z => by
    have h1 : val ((l ++ List.replicate z 0).take 8) = val (l.take 8) := by
      rw [List.take_append, List.take_replicate, val_append_zeros]
    have h2 : (l ++ List.replicate z 0).drop 8 = l.drop 8 ++ List.replicate (z - (8 - l.length)) 0 := by
      rw [List.drop_append, List.drop_replicate]
    rw [bytesOf, h1, h2, bytesOf_zeros k (l.drop 8)]
    rfl
theorem bytesOf_bits : ∀ (b : List Int), Octets b → bytesOf b.length (bitsOf b) = b
  | [], _ => rfl
  | x :: b, h => by
    have hx := h x (List.mem_cons_self ..)
    rw [List.length_cons, bytesOf, bitsOf, List.take_append_of_le_length (by simp [num_length]), List.drop_append_of_le_length (by simp [num_length])]
    rw [List.take_of_length_le (by simp [num_length]), List.drop_eq_nil_of_le (by simp [num_length]), val_num, List.nil_append, bytesOf_bits b fun y hy => h y (List.mem_cons_of_mem _ hy)]
    rw [show (2 : Int) ^ 8 = 256 by decide]
    congr 1
    omega
theorem bytesOf_join : ∀ (k n : Nat) (a b : List Int), a.length = 8 * k → bytesOf (k + n) (a ++ b) = bytesOf k a ++ bytesOf n b
  | 0, n, a, b, h => by
    obtain rfl : a = [] := List.eq_nil_of_length_eq_zero (by omega)
    simp [bytesOf]
  | k + 1, n, a, b, h => by
    rw [show k + 1 + n = (k + n) + 1 by omega, bytesOf, bytesOf, List.take_append_of_le_length (by omega), List.drop_append_of_le_length (by omega), bytesOf_join k n (a.drop 8) b (by simp; omega)]
    rfl
theorem bitsOf_length : ∀ (b : List Int), (bitsOf b).length = 8 * b.length
  | [] => rfl
  | x :: b => by simp [bitsOf, num_length, bitsOf_length b]; omega
theorem bitsOf_bit : ∀ (b : List Int), Bit (bitsOf b)
  | [] => Bit.nil
  | x :: b => (num_bit 8 x).append (bitsOf_bit b)
theorem bitsOf_append : ∀ (a b : List Int), bitsOf (a ++ b) = bitsOf a ++ bitsOf b
  | [], _ => rfl
  | x :: a, b => by simp [bitsOf, bitsOf_append a b]
theorem bits_bytesOf : ∀ (k : Nat) {l : List Int}, Bit l → l.length = 8 * k → bitsOf (bytesOf k l) = l
  | 0, l, _, h => by
    obtain rfl : l = [] := List.eq_nil_of_length_eq_zero (by omega)
    rfl
  | k + 1, l, hb, h => by
    have hlen : (l.take 8).length = 8 := by simp; omega
    have h1 := num_val (hb.take 8)
    rw [hlen] at h1
    rw [bytesOf, bitsOf, h1, bits_bytesOf k (hb.drop 8) (by simp; omega), List.take_append_drop]
theorem pad_length (l : List Int) : (pad l).length = 8 * ((l.length + 7) / 8) := by simp [pad]; omega
theorem pad_bit {l : List Int} (h : Bit l) : Bit (pad l) := h.append (Bit.zeros _)
theorem bits_bytes_pad {l : List Int} (h : Bit l) : bitsOf (bytesOf ((l.length + 7) / 8) l) = pad l := by
  have h1 := bits_bytesOf ((l.length + 7) / 8) (pad_bit h) (pad_length l)
  rw [← h1, pad, bytesOf_zeros]

/-- One bit more, in the document's row of bytes: a new byte. -/
theorem bytes_new (l : List Int) (b : Int) (k : Nat) (h : l.length = 8 * k) : bytesOf (k + 1) (l ++ [b]) = bytesOf k l ++ [b] := by
  rw [bytesOf_join k 1 l [b] h]
  simp [bytesOf, val]
/-- One bit more, in the document's row of bytes: in the last one. -/
theorem bytes_more (l : List Int) (b : Int) (k j : Nat) (h : l.length = 8 * k + j) (hj : 0 < j ∧ j < 8) :
    bytesOf (k + 1) (l ++ [b]) = (bytesOf (k + 1) l).set k (val (l.drop (8 * k)) + b * 2 ^ j) ∧ (bytesOf (k + 1) l)[k]? = some (val (l.drop (8 * k))) := by
  have hd : (l.drop (8 * k)).length = j := by simp; omega
  have h1 : (l.drop (8 * k)).take 8 = l.drop (8 * k) := List.take_of_length_le (by omega)
  have h2 : ((l ++ [b]).drop (8 * k)).take 8 = l.drop (8 * k) ++ [b] := by
    rw [List.drop_append_of_le_length (by omega)]
    exact List.take_of_length_le (by simp; omega)
  have h3 : bytesOf k (l ++ [b]) = bytesOf k l := bytesOf_left k l [b] (by omega)
  rw [bytesOf_snoc, bytesOf_snoc, h1, h2, h3, val_append, hd]
  refine ⟨?_, ?_⟩
  · rw [List.set_append_right _ _ (by rw [bytesOf_length]; omega), bytesOf_length, Nat.sub_self, List.set_cons_zero]
    simp [val, Int.mul_comm]
  · rw [List.getElem?_append_right (by rw [bytesOf_length]; omega), bytesOf_length, Nat.sub_self]
    rfl

theorem p2_le {a b : Nat} (h : a ≤ b) : (2 : Int) ^ a ≤ 2 ^ b := by
  obtain ⟨c, rfl⟩ : ∃ c, b = a + c := ⟨b - a, by omega⟩
  rw [Int.pow_add]
  have h1 := p2_pos a
  have h2 := p2_pos c
  calc (2 : Int) ^ a = 2 ^ a * 1 := by omega
    _ ≤ _ := Int.mul_le_mul_of_nonneg_left (by omega) (by omega)

/-- x & (1<<n - 1), in 64 bits. -/
theorem and_low (x : Int) (N : Nat) (hx : 0 ≤ x ∧ x < 18446744073709551616) (hN : N ≤ 62) :
    bits BinOp.and IntKind.u64 x (IntKind.u64.wrap (IntKind.u64.wrap (2 ^ N) - 1)) = x % 2 ^ N := by
  have h1 := p2_pos N
  have h2 : (2 : Int) ^ N ≤ 2 ^ 62 := p2_le hN
  have h3 : (2 : Int) ^ 62 = 4611686018427387904 := by decide
  obtain ⟨X, rfl⟩ := Int.eq_ofNat_of_zero_le hx.1
  rw [IntWalk.u64_in ((2 : Int) ^ N) (by omega), IntWalk.u64_in ((2 : Int) ^ N - 1) (by omega)]
  have h4 : (2 : Int) ^ N - 1 = ((2 ^ N - 1 : Nat) : Int) := by
    have h5 : ((2 ^ N : Nat) : Int) = (2 : Int) ^ N := by simp
    have h6 := Nat.two_pow_pos N
    omega
  have h6 : 2 ^ N - 1 < 18446744073709551616 := by omega
  rw [h4, u64_and_nat X (2 ^ N - 1) (by omega) h6, Nat.and_two_pow_sub_one_eq_mod]
  simp

/-- r | y<<f, r below 2^f, in 64 bits. -/
theorem or_high (r y : Int) (f n : Nat) (hr : 0 ≤ r ∧ r < 2 ^ f) (hy : 0 ≤ y ∧ y < 2 ^ n) (h : f + n ≤ 62) :
    bits BinOp.or IntKind.u64 r (IntKind.u64.wrap (y * 2 ^ f)) = r + 2 ^ f * y := by
  have h1 := p2_pos f
  have h3 : (2 : Int) ^ 62 = 4611686018427387904 := by decide
  have h2 : (2 : Int) ^ (f + n) ≤ 2 ^ 62 := p2_le h
  have h4 : y * 2 ^ f < 2 ^ (f + n) := by
    rw [Int.pow_add, Int.mul_comm]
    exact Int.mul_lt_mul_of_pos_left hy.2 h1
  have h5 : 0 ≤ y * 2 ^ f := Int.mul_nonneg hy.1 (by omega)
  have h7 : (2 : Int) ^ f ≤ 2 ^ 62 := p2_le (by omega)
  obtain ⟨R, rfl⟩ := Int.eq_ofNat_of_zero_le hr.1
  obtain ⟨Y, rfl⟩ := Int.eq_ofNat_of_zero_le hy.1
  rw [IntWalk.u64_in _ (by omega)]
  have h6 : (Y : Int) * 2 ^ f = ((Y * 2 ^ f : Nat) : Int) := by simp
  have h8 : R < 2 ^ f := by
    have : (R : Int) < ((2 ^ f : Nat) : Int) := by simpa using hr.2
    omega
  rw [h6] at h4 h5 ⊢
  rw [u64_or_nat R (Y * 2 ^ f) (by omega) (by omega), Nat.or_comm, nat_join f _ _ (by simp) h8, Int.natCast_add, Int.mul_comm (2 ^ f), ← h6]
  omega

/-- What Put makes of the bits that make no byte yet. -/
theorem put_bits (l : List Int) (x : Int) (N : Nat) (hl : Bit l) (hf : l.length < 8) (hN : N ≤ 32) (hx : 0 ≤ x ∧ x < 4294967296) :
    bits BinOp.or IntKind.u64 (val l) (IntKind.u64.wrap (bits BinOp.and IntKind.u64 x (IntKind.u64.wrap (IntKind.u64.wrap (2 ^ N) - 1)) * 2 ^ l.length)) = val (l ++ num x N) := by
  rw [and_low x N (by omega) (by omega), or_high (val l) (x % 2 ^ N) l.length N (val_bd hl) ⟨Int.emod_nonneg _ (by have := p2_pos N; omega), Int.emod_lt_of_pos _ (p2_pos N)⟩ (by omega), val_append, val_num]
end Go.Proofs.YthmkeflkhocobaaDoor.Bits

namespace Go.Proofs.YthmkeflkhocobaaDoor.Huf
open Go.RowKit Go.Proofs.YthmkeflkhocobaaDoor.Kit Go.Proofs.YthmkeflkhocobaaDoor.Bits

/-- How much of all codes a code of so many bits takes, in 32768ths. -/
def part1 (n : Int) : Int := if 0 < n then 2 ^ (15 - n.toNat) else 0
def kr : List Int → Int
  | [] => 0
  | n :: l => part1 n + kr l
def nz : List Int → Int
  | [] => 0
  | n :: l => (if 0 < n then 1 else 0) + nz l
/-- The last length above 0. -/
def lastNz (l : List Int) : Int := l.foldl (fun f n => if 0 < n then n else f) 0
def mayB (l : List Int) : Bool := decide (l.length ≤ 300) && (l.all fun n => decide (n ≤ 15)) && (decide (kr l = 32768) || (decide (nz l = 0) || (decide (nz l = 1) && decide (kr l = 16384))))

theorem kr_append : ∀ (a b : List Int), kr (a ++ b) = kr a + kr b
  | [], b => by simp [kr]
  | n :: a, b => by simp only [List.cons_append, kr, kr_append a b]; omega
theorem nz_append : ∀ (a b : List Int), nz (a ++ b) = nz a + nz b
  | [], b => by simp [nz]
  | n :: a, b => by simp only [List.cons_append, nz, nz_append a b]; omega
theorem last_snoc (a : List Int) (n : Int) : lastNz (a ++ [n]) = if 0 < n then n else lastNz a := by simp [lastNz, List.foldl_append]
theorem part1_bd (n : Int) : 0 ≤ part1 n ∧ part1 n ≤ 16384 := by
  unfold part1
  by_cases h : 0 < n
  · rw [if_pos h]
    have h1 := p2_pos (15 - n.toNat)
    have h2 : (2 : Int) ^ (15 - n.toNat) ≤ 2 ^ 14 := p2_le (by omega)
    rw [show (2 : Int) ^ 14 = 16384 by decide] at h2
    omega
  · rw [if_neg h]; omega
theorem kr_bd : ∀ (l : List Int), 0 ≤ kr l ∧ kr l ≤ 16384 * l.length
  | [] => by simp [kr]
  | n :: l => by
    have h1 := kr_bd l
    have h2 := part1_bd n
    simp only [kr, List.length_cons]
    omega
theorem nz_bd : ∀ (l : List Int), 0 ≤ nz l ∧ nz l ≤ l.length
  | [] => by simp [nz]
  | n :: l => by
    have h1 := nz_bd l
    simp only [nz, List.length_cons]
    split <;> omega
theorem last_bd (l : List Int) (h : Octets l) : 0 ≤ lastNz l ∧ lastNz l ≤ 255 := by
  have gen : ∀ (l : List Int) (f : Int), Octets l → (0 ≤ f ∧ f ≤ 255) → 0 ≤ l.foldl (fun f n => if 0 < n then n else f) f ∧ l.foldl (fun f n => if 0 < n then n else f) f ≤ 255 := by
    intro l
    induction l with
    | nil => exact fun f _ hf => hf
    | cons n l ih =>
      intro f hl hf
      refine ih _ (fun x hx => hl x (List.mem_cons_of_mem _ hx)) ?_
      have := hl n (List.mem_cons_self ..)
      by_cases hn : 0 < n <;> simp only [hn, if_true, if_false] <;> omega
  exact gen l 0 h (by omega)

/-- What the sum and the last length are where there are few. -/
def J (l : List Int) : Prop := (nz l = 0 → kr l = 0) ∧ (nz l = 1 → kr l = part1 (lastNz l) ∧ 0 < lastNz l)
theorem J_nil : J [] := ⟨fun _ => rfl, fun h => by simp [nz] at h⟩
theorem J_snoc {l : List Int} (h : J l) (n : Int) : J (l ++ [n]) := by
  have hz := nz_bd l
  unfold J at *
  rw [nz_append, kr_append, last_snoc]
  by_cases hn : 0 < n
  · simp only [nz, kr, hn, if_true]
    refine ⟨fun h0 => by omega, fun h1 => ?_⟩
    have h0 := h.1 (by omega)
    exact ⟨by omega, trivial⟩
  · have hp : part1 n = 0 := by unfold part1; rw [if_neg hn]
    simp only [nz, kr, hn, if_false, hp]
    simp only [Int.add_zero]
    exact h

theorem part1_one {f : Int} (h0 : 0 < f) (h : f ≤ 15) : part1 f = 16384 ↔ f = 1 := by
  unfold part1
  rw [if_pos h0]
  constructor
  · intro hp
    by_cases h1 : f = 1
    · exact h1
    · have h2 : (2 : Int) ^ (15 - f.toNat) ≤ 2 ^ 13 := p2_le (by omega)
      rw [show (2 : Int) ^ 13 = 8192 by decide] at h2
      omega
  · rintro rfl
    decide

/-- The program's way to say that lengths may be. -/
theorem may_first {l : List Int} (hj : J l) (hl : l.length ≤ 300) (ha : ∀ n ∈ l, n ≤ 15) (ho : Octets l) :
    mayB l = (decide (kr l = 32768) || (decide (nz l = 0) || (decide (nz l = 1) && decide (lastNz l = 1)))) := by
  have h1 : (l.all fun n => decide (n ≤ 15)) = true := List.all_eq_true.2 fun n hn => decide_eq_true (ha n hn)
  have h2 : (decide (nz l = 1) && decide (kr l = 16384)) = (decide (nz l = 1) && decide (lastNz l = 1)) := by
    by_cases hz : nz l = 1
    · obtain ⟨e, h0⟩ := hj.2 hz
      have hle : lastNz l ≤ 15 := by
        have gen : ∀ (l : List Int) (f : Int), (∀ n ∈ l, n ≤ 15) → f ≤ 15 → l.foldl (fun f n => if 0 < n then n else f) f ≤ 15 := by
          intro l
          induction l with
          | nil => exact fun f _ hf => hf
          | cons n l ih =>
            intro f hl hf
            refine ih _ (fun x hx => hl x (List.mem_cons_of_mem _ hx)) ?_
            have := hl n (List.mem_cons_self ..)
            by_cases hn : 0 < n <;> simp only [hn, if_true, if_false] <;> omega
        exact gen l 0 ha (by omega)
      have := part1_one h0 hle
      rw [e]
      simp only [hz, decide_true, Bool.true_and, decide_eq_decide]
      exact this
    · simp [hz]
  unfold mayB
  rw [h1, h2, decide_eq_true hl]
  rfl
theorem may_ref {l : List Int} (hl : l.length ≤ 300) (ha : ∀ n ∈ l, n ≤ 15) :
    mayB l = (decide (kr l = 32768) || (decide (nz l = 0) || (decide (nz l = 1) && decide (kr l = 16384)))) := by
  have h1 : (l.all fun n => decide (n ≤ 15)) = true := List.all_eq_true.2 fun n hn => decide_eq_true (ha n hn)
  unfold mayB
  rw [h1, decide_eq_true hl]
  rfl
theorem may_long {l : List Int} (hl : ¬ l.length ≤ 300) : mayB l = false := by unfold mayB; rw [decide_eq_false hl]; rfl
theorem may_great {l : List Int} {n : Int} (h : n ∈ l) (hn : 15 < n) : mayB l = false := by
  have : (l.all fun n => decide (n ≤ 15)) = false := by
    rw [List.all_eq_false]
    exact ⟨n, h, by simp; omega⟩
  unfold mayB
  rw [this]
  simp
end Go.Proofs.YthmkeflkhocobaaDoor.Huf

namespace Go.Proofs.YthmkeflkhocobaaDoor.Bits
open Go.RowKit Go.Proofs.YthmkeflkhocobaaDoor.Kit

theorem bitsOf_drop : ∀ (i : Nat) (bs : List Int), (bitsOf bs).drop (8 * i) = bitsOf (bs.drop i)
  | 0, _ => by simp
  | i + 1, [] => by simp [bitsOf]
  | i + 1, b :: bs => by
    rw [bitsOf, List.drop_succ_cons, ← bitsOf_drop i bs, show 8 * (i + 1) = (num b 8).length + 8 * i by rw [num_length]; omega, List.drop_append, List.drop_eq_nil_of_le (by omega), Nat.add_sub_cancel_left, List.nil_append]
theorem bitsOf_take : ∀ (i : Nat) (bs : List Int), (bitsOf bs).take (8 * i) = bitsOf (bs.take i)
  | 0, _ => by simp [bitsOf]
  | i + 1, [] => by simp [bitsOf]
  | i + 1, b :: bs => by
    rw [bitsOf, List.take_succ_cons, bitsOf, ← bitsOf_take i bs, show 8 * (i + 1) = (num b 8).length + 8 * i by rw [num_length]; omega, List.take_append, List.take_of_length_le (by omega), Nat.add_sub_cancel_left]
theorem val_num8 (b : Int) (hb : 0 ≤ b ∧ b ≤ 255) : val (num b 8) = b := by
  rw [val_num, show (2 : Int) ^ 8 = 256 by decide]
  omega
theorem val_bits_snoc (bs : List Int) (b : Int) (hb : 0 ≤ b ∧ b ≤ 255) : val (bitsOf (bs ++ [b])) = val (bitsOf bs) + 2 ^ (8 * bs.length) * b := by
  rw [bitsOf_append, val_append, bitsOf_length, bitsOf, bitsOf, List.append_nil, val_num8 b hb]
/-- What the bytes from the one on that a bit lies in tell of n bits from that bit on. -/
theorem read_val (bs : List Int) (at_ n : Nat) (hn : n ≤ 32) (h : at_ + n ≤ 8 * bs.length) :
    val (bitsOf ((bs.drop (at_ / 8)).take 5)) / 2 ^ (at_ % 8) % 2 ^ n = val (((bitsOf bs).drop at_).take n) := by
  rw [← bitsOf_take, ← bitsOf_drop]
  have hb : Bit (((bitsOf bs).drop (8 * (at_ / 8))).take (8 * 5)) := ((bitsOf_bit bs).drop _).take _
  have hl : (((bitsOf bs).drop (8 * (at_ / 8))).take (8 * 5)).length = min 40 (8 * bs.length - 8 * (at_ / 8)) := by simp [bitsOf_length]
  rw [(val_mod hb (at_ % 8) (by rw [hl]; omega)).2, (val_mod (hb.drop (at_ % 8)) n (by rw [List.length_drop, hl]; omega)).1]
  congr 1
  apply List.ext_getElem?
  intro i
  rcases Nat.lt_or_ge i n with hi | hi
  · rw [List.getElem?_take_of_lt hi, List.getElem?_take_of_lt hi, List.getElem?_drop, List.getElem?_take_of_lt (by omega), List.getElem?_drop, List.getElem?_drop]
    congr 1
    omega
  · rw [List.getElem?_eq_none (by simp; omega), List.getElem?_eq_none (by simp; omega)]
end Go.Proofs.YthmkeflkhocobaaDoor.Bits

namespace Go.Proofs.YthmkeflkhocobaaDoor.Df

def lens : List Int := [3, 4, 5, 6, 7, 8, 9, 10, 11, 13, 15, 17, 19, 23, 27, 31, 35, 43, 51, 59, 67, 83, 99, 115, 131, 163, 195, 227, 258]
def dists : List Int := [1, 2, 3, 4, 5, 7, 9, 13, 17, 25, 33, 49, 65, 97, 129, 193, 257, 385, 513, 769, 1025, 1537, 2049, 3073, 4097, 6145, 8193, 12289, 16385, 24577]

/-- How many of them are no greater. -/
def cntLe : List Int → Int → Nat
  | [], _ => 0
  | x :: l, n => if x ≤ n then cntLe l n + 1 else cntLe l n

theorem cnt_le : ∀ (l : List Int) (n : Int), cntLe l n ≤ l.length
  | [], _ => Nat.le_refl _
  | x :: l, n => by
    have := cnt_le l n
    rw [cntLe]
    split <;> simp <;> omega

theorem cnt_zero : ∀ (l : List Int) (n : Int), (∀ x ∈ l, n < x) → cntLe l n = 0
  | [], _, _ => rfl
  | x :: l, n, h => by
    have h1 := h x (by simp)
    rw [cntLe, if_neg (by omega), cnt_zero l n fun y hy => h y (by simp [hy])]

theorem cnt_iff : ∀ (l : List Int), l.Pairwise (· < ·) → ∀ (n : Int) (k : Nat), k < l.length → (l.getD k 0 ≤ n ↔ k < cntLe l n)
  | [], _, _, k, hk => by simp at hk
  | x :: l, hp, n, k, hk => by
    rw [List.pairwise_cons] at hp
    by_cases hx : x ≤ n
    · rw [cntLe, if_pos hx]
      cases k with
      | zero => simp [hx]
      | succ k =>
        have := cnt_iff l hp.2 n k (by simpa using hk)
        simp only [List.getD_cons_succ]
        omega
    · rw [cntLe, if_neg hx, cnt_zero l n fun y hy => by have := hp.1 y hy; omega]
      cases k with
      | zero => simp only [List.getD_cons_zero]; omega
      | succ k =>
        simp only [List.getD_cons_succ]
        have hk' : k < l.length := by simpa using hk
        have := hp.1 (l.getD k 0) (by rw [List.getD_eq_getElem?_getD, List.getElem?_eq_getElem hk']; exact List.getElem_mem hk')
        omega

theorem lens_rise : lens.Pairwise (· < ·) := by decide
theorem dists_rise : dists.Pairwise (· < ·) := by decide

/-- The place of the greatest one that isn't greater. -/
def at_ (l : List Int) (n : Int) : Nat := cntLe l n - 1
def lmore (k : Int) : Int := if 8 ≤ k ∧ k < 28 then k / 4 - 1 else 0
def dmore (k : Int) : Int := if k < 4 then 0 else k / 2 - 1

theorem at_lens (n : Int) (h : 3 ≤ n) : at_ lens n ≤ 28 ∧ cntLe lens n = at_ lens n + 1 ∧ lens.getD (at_ lens n) 0 ≤ n := by
  have h1 := cnt_le lens n
  have h2 : 0 < cntLe lens n := (cnt_iff lens lens_rise n 0 (by decide)).1 (by simpa [lens] using h)
  have h3 : lens.length = 29 := rfl
  unfold at_
  exact ⟨by omega, by omega, (cnt_iff lens lens_rise n _ (by omega)).2 (by omega)⟩
theorem at_dists (n : Int) (h : 1 ≤ n) : at_ dists n ≤ 29 ∧ cntLe dists n = at_ dists n + 1 ∧ dists.getD (at_ dists n) 0 ≤ n := by
  have h1 := cnt_le dists n
  have h2 : 0 < cntLe dists n := (cnt_iff dists dists_rise n 0 (by decide)).1 (by simpa [dists] using h)
  have h3 : dists.length = 30 := rfl
  unfold at_
  exact ⟨by omega, by omega, (cnt_iff dists dists_rise n _ (by omega)).2 (by omega)⟩
theorem lens_bd : ∀ k, k < 29 → 3 ≤ lens.getD k 0 ∧ lens.getD k 0 ≤ 258 := by decide
theorem dists_bd : ∀ k, k < 30 → 1 ≤ dists.getD k 0 ∧ dists.getD k 0 ≤ 24577 := by decide
/-- The least distances, reckoned. -/
theorem dists_are : ∀ s, s < 30 → 4 ≤ s → dists.getD s 0 = (2 + (s : Int) % 2) * 2 ^ (s / 2 - 1) + 1 := by decide
theorem dists_low : ∀ s, s < 4 → dists.getD s 0 = (s : Int) + 1 := by decide
end Go.Proofs.YthmkeflkhocobaaDoor.Df

namespace Go.Proofs.YthmkeflkhocobaaDoor.Kit
open Go.ChangeShapes Go.WideShapes Go.ChangeAt Go.RowKit

/-- The fields are integers of these kinds, a cell each, in their order. -/
def intFields (P : Program) (fs : Array Field) (ks : List IntKind) : Bool :=
  fs.size == ks.length && (List.range fs.size).all fun i => match fs[i]?, ks[i]? with
    | some f, some k => f.offset == i && P.cellsOf f.type == 1 && (match P.underlying f.type with | some (.int k') => decide (k' = k) | _ => false)
    | _, _ => false

theorem intFields_of {P : Program} {fs : Array Field} {ks : List IntKind} (h : intFields P fs ks = true) : fs.size = ks.length ∧
    ∀ i, i < ks.length → ∃ f k, fs[i]? = some f ∧ ks[i]? = some k ∧ f.offset = i ∧ P.cellsOf f.type = 1 ∧ P.underlying f.type = some (.int k) := by
  unfold intFields at h
  simp only [Bool.and_eq_true, beq_iff_eq, List.all_eq_true, List.mem_range] at h
  refine ⟨h.1, fun i hi => ?_⟩
  have h2 := h.2 i (by omega)
  cases hf : fs[i]? with
  | none => rw [hf] at h2; simp at h2
  | some f =>
    cases hk : ks[i]? with
    | none => rw [hf, hk] at h2; simp at h2
    | some k =>
      rw [hf, hk] at h2
      simp only [Bool.and_eq_true, beq_iff_eq] at h2
      refine ⟨f, k, rfl, rfl, h2.1.1, h2.1.2, ?_⟩
      have h3 := h2.2
      split at h3
      · rename_i k' hu
        rw [hu, of_decide_eq_true h3]
      · cases h3

def numOfV : Value → Int
  | .int _ n => n
  | _ => 0

section
variable {H : Type} {enc : TypeId × Value → H} {P : Program} {w : World} {base b0 : Nat} {sp : Nat → Bool} {held : Bool}

theorem struct_row {e : TypeId} {fs : Array Field} {ks : List IntKind} (he : P.underlying e = some (.struct fs)) (hf : intFields P fs ks = true) (hc : P.cellsOf e = ks.length)
    {n : Nat} {cs : List Value} {y : DataW H × List MemPlace} (h : DataW.trod enc P w base sp held n e cs = some y) :
    ∃ row : List Int, row.length = ks.length ∧ cs = List.zipWith Value.int ks row ∧ ∀ (j : Nat) (k : IntKind), ks[j]? = some k → (Lit.int k (row[j]?.getD 0)).wf = true := by
  obtain ⟨xs, m, _, _, hl, hxl, hg⟩ := DataW.trod_struct he h
  obtain ⟨hsz, hi⟩ := intFields_of hf
  have each : ∀ i (hi' : i < ks.length), ∃ q, cs[i]? = some (.int ks[i] q) ∧ (Lit.int ks[i] q).wf = true := by
    intro i hi'
    obtain ⟨f, k, h1, h2, h3, h4, h5⟩ := hi i hi'
    have hk : ks[i] = k := by rw [List.getElem?_eq_getElem hi'] at h2; exact Option.some.inj h2
    have h6 := hg i f h1
    rw [h3, h4] at h6
    have hx : xs[i]? = some (xs[i]'(by omega)) := List.getElem?_eq_getElem (by omega)
    rw [hx] at h6
    obtain ⟨q, hq, _, hw⟩ := DataW.trod_int h5 h6
    refine ⟨q, ?_, by rw [hk]; exact hw⟩
    rw [hk]
    rw [List.drop_eq_getElem_cons (by omega)] at hq
    simp only [List.take_succ_cons, List.take_zero, List.cons.injEq, and_true] at hq
    rw [List.getElem?_eq_getElem (by omega), hq]
  refine ⟨cs.map numOfV, by simp; omega, ?_, fun j k hk => ?_⟩
  · apply List.ext_getElem?
    intro i
    by_cases hi' : i < ks.length
    · obtain ⟨q, hq, _⟩ := each i hi'
      rw [List.getElem?_zipWith, List.getElem?_map, hq, List.getElem?_eq_getElem hi']
      rfl
    · rw [List.getElem?_eq_none (by omega), List.getElem?_zipWith, List.getElem?_eq_none (by omega : ks.length ≤ i)]
  · have hj : j < ks.length := by
      rcases Nat.lt_or_ge j ks.length with h' | h'
      · exact h'
      · rw [List.getElem?_eq_none h'] at hk; cases hk
    obtain ⟨q, hq, hw⟩ := each j hj
    rw [List.getElem?_eq_getElem hj] at hk
    injection hk with hk
    rw [List.getElem?_map, hq, ← hk]
    exact hw

/-- A struct of integers by value. -/
theorem open_struct {r : Reach} {t : TypeId} {fs : Array Field} {ks : List IntKind} (ht : P.underlying t = some (.struct fs)) (hf : intFields P fs ks = true) (hc : P.cellsOf t = ks.length)
    {v : Value} {d : DataW H} {ps : List MemPlace} (hv : Value.okWide P w r b0 t v) (h : DataW.Trod enc P w base sp held t v d ps) :
    ∃ row : List Int, row.length = ks.length ∧ v = .agg (List.zipWith Value.int ks row).toArray ∧ ∀ (j : Nat) (k : IntKind), ks[j]? = some k → (Lit.int k (row[j]?.getD 0)).wf = true := by
  obtain ⟨cs, rfl, hsz⟩ := okWide_struct ht hv
  obtain ⟨fuel, hfu⟩ := h
  obtain ⟨row, h1, h2, h3⟩ := struct_row ht hf hc hfu
  exact ⟨row, h1, by rw [← h2]; simp [Value.cells], h3⟩

/-- The slice at A holds rows of integers of these kinds; its memory lies below block B. -/
def HoldsR (w : World) (B : Nat) (ks : List IntKind) (A : Option Addr) (rows : List (List Int)) : Prop :=
  0 < rows.length → ∃ b off : Nat, A = some ⟨b, off, none⟩ ∧ b < B ∧ ∀ (i : Nat) (row : List Int), rows[i]? = some row → ∀ (j : Nat) (k : IntKind), ks[j]? = some k → w.cell? ⟨b, off + i * ks.length + j, none⟩ = some (.int k (row[j]?.getD 0))

/-- A slice of structs of integers that came in. -/
theorem open_rows {t e : TypeId} {fs : Array Field} {ks : List IntKind} (ht : P.underlying t = some (.slice e)) (he : P.underlying e = some (.struct fs)) (hf : intFields P fs ks = true) (hc : P.cellsOf e = ks.length) (hks : 0 < ks.length)
    {v : Value} {d : DataW H} {ps : List MemPlace} (hval : Value.okWide P w .any b0 t v) (h : DataW.Trod enc P w 0 (fun _ => true) true t v d ps) (hlt : ∀ x ∈ ps, x.block < w.heap.size) :
    ∃ (A : Option Addr) (cap : Nat) (rows : List (List Int)), v = .slice A rows.length cap ∧ rows.length ≤ cap ∧ cap ≤ maxLen ∧ HoldsR w w.heap.size ks A rows ∧
      ∀ (i : Nat) (row : List Int), rows[i]? = some row → row.length = ks.length ∧ ∀ (j : Nat) (k : IntKind), ks[j]? = some k → (Lit.int k (row[j]?.getD 0)).wf = true := by
  obtain ⟨a0, len, cap, rfl⟩ := okWide_slice ht hval
  obtain ⟨fuel, hfu⟩ := h
  rcases DataW.trod_slice ht hfu with ⟨hcs, _⟩ | ⟨a, len', cap', elems, rest, n, _, hcs, hx, _, hl, hm, hlen, hel, _, _⟩
  · simp [Value.cells] at hcs
    obtain ⟨rfl, rfl, rfl⟩ := hcs
    exact ⟨none, 0, [], rfl, Nat.le_refl _, Nat.zero_le _, fun h => absurd h (by simp), fun i row hi => by simp at hi⟩
  · simp [Value.cells] at hcs
    obtain ⟨rfl, rfl, rfl⟩ := hcs
    have each : ∀ i, i < len → ∃ row : List Int, row.length = ks.length ∧ (∀ (j : Nat) (k : IntKind), ks[j]? = some k → w.cell? (a.add (i * ks.length + j)) = some (.int k (row[j]?.getD 0)) ∧ (Lit.int k (row[j]?.getD 0)).wf = true) := by
      intro i hi
      have h1 := hel i hi
      have hx' : elems[i]? = some (elems[i]'(by omega)) := List.getElem?_eq_getElem (by omega)
      rw [hx'] at h1
      obtain ⟨cs, h2, h3⟩ := Option.bind_eq_some_iff.1 h1
      obtain ⟨_, h5, h6⟩ := World.cells?_some h2
      obtain ⟨row, r1, r2, r3⟩ := struct_row he hf hc h3
      refine ⟨row, r1, fun j k hk => ⟨?_, r3 j k hk⟩⟩
      have hj : j < ks.length := by
        rcases Nat.lt_or_ge j ks.length with h' | h'
        · exact h'
        · rw [List.getElem?_eq_none h'] at hk; cases hk
      have h7 := h6 j (by omega)
      rw [hc] at h7
      have hadd : (a.add (i * ks.length)).add j = a.add (i * ks.length + j) := by
        unfold Addr.add
        by_cases h1 : i * ks.length = 0 <;> by_cases h2 : j = 0 <;> simp [h1, h2, Nat.add_assoc]
      rw [hadd] at h7
      rw [h7, r2, List.getElem?_zipWith, hk, List.getElem?_eq_getElem (by omega : j < row.length)]
      rfl
    have all : ∃ rows : List (List Int), rows.length = len ∧ ∀ (i : Nat) (row : List Int), rows[i]? = some row → row.length = ks.length ∧ (∀ (j : Nat) (k : IntKind), ks[j]? = some k → w.cell? (a.add (i * ks.length + j)) = some (.int k (row[j]?.getD 0)) ∧ (Lit.int k (row[j]?.getD 0)).wf = true) := by
      have build : ∀ m, m ≤ len → ∃ rows : List (List Int), rows.length = m ∧ ∀ (i : Nat) (row : List Int), rows[i]? = some row → row.length = ks.length ∧ (∀ (j : Nat) (k : IntKind), ks[j]? = some k → w.cell? (a.add (i * ks.length + j)) = some (.int k (row[j]?.getD 0)) ∧ (Lit.int k (row[j]?.getD 0)).wf = true) := by
        intro m
        induction m with
        | zero => exact fun _ => ⟨[], rfl, fun i row hi => by simp at hi⟩
        | succ m ih =>
          intro hm'
          obtain ⟨rows, q1, q2⟩ := ih (by omega)
          obtain ⟨row, r1, r2⟩ := each m (by omega)
          refine ⟨rows ++ [row], by simp [q1], fun i row' hi => ?_⟩
          by_cases hi' : i < m
          · rw [List.getElem?_append_left (by omega)] at hi
            exact q2 i row' hi
          · have him : i = m := by
              rcases Nat.lt_or_ge i (rows ++ [row]).length with h' | h'
              · simp at h'; omega
              · rw [List.getElem?_eq_none h'] at hi; cases hi
            subst him
            rw [List.getElem?_append_right (by omega), q1] at hi
            simp at hi
            subst hi
            exact ⟨r1, r2⟩
      exact build len (Nat.le_refl _)
    obtain ⟨rows, q1, q2⟩ := all
    refine ⟨some a, cap, rows, by rw [q1], by omega, hm, fun hx0 => ?_, fun i row hi => ⟨(q2 i row hi).1, fun j k hk => ((q2 i row hi).2 j k hk).2⟩⟩
    obtain ⟨b, off, spot⟩ := a
    have hk0 : ks[0]? = some ks[0] := List.getElem?_eq_getElem hks
    have hr0 : rows[0]? = some (rows[0]'hx0) := List.getElem?_eq_getElem hx0
    have hspot : spot = none := by simpa [Addr.add] using World.cell?_spot ((q2 0 _ hr0).2 0 _ hk0).1
    subst hspot
    simp only [Prod.mk.injEq] at hx
    have hpos : 0 < (elems.length + rest.length) * P.cellsOf e := Nat.mul_pos (by omega) (by omega)
    refine ⟨b, off, rfl, hlt (.cell b (off + 0)) (by rw [hx.2]; exact List.mem_append_left _ (MemPlace.mem_row.2 ⟨0, hpos, by simp⟩)), fun i row hi j k hk => ?_⟩
    have := ((q2 i row hi).2 j k hk).1
    rw [add_plain] at this
    rw [Nat.add_assoc]
    exact this
end
end Go.Proofs.YthmkeflkhocobaaDoor.Kit

namespace Go.Proofs.YthmkeflkhocobaaDoor.Kit
open Go.ChangeShapes Go.WideShapes Go.ChangeAt Go.RowKit

/-- Field i is an integer of kind k in cell o. -/
def isInt (P : Program) (fs : Array Field) (i o : Nat) (k : IntKind) : Bool := match fs[i]? with
  | some f => f.offset == o && P.cellsOf f.type == 1 && (match P.underlying f.type with | some (.int k') => decide (k' = k) | _ => false)
  | none => false

/-- Field i is a slice of bytes in cell o. -/
def isBytes (P : Program) (fs : Array Field) (i o : Nat) : Bool := match fs[i]? with
  | some f => f.offset == o && P.cellsOf f.type == 1 && (match P.underlying f.type with
    | some (.slice e) => P.cellsOf e == 1 && (match P.underlying e with | some (.int k') => decide (k' = .u8) | _ => false)
    | _ => false)
  | none => false

theorem isInt_of {P : Program} {fs : Array Field} {i o : Nat} {k : IntKind} (h : isInt P fs i o k = true) : ∃ f, fs[i]? = some f ∧ f.offset = o ∧ P.cellsOf f.type = 1 ∧ P.underlying f.type = some (.int k) := by
  unfold isInt at h
  cases hf : fs[i]? with
  | none => rw [hf] at h; simp at h
  | some f =>
    rw [hf] at h
    simp only [Bool.and_eq_true, beq_iff_eq] at h
    refine ⟨f, rfl, h.1.1, h.1.2, ?_⟩
    have h3 := h.2
    split at h3
    · rename_i k' hu
      rw [hu, of_decide_eq_true h3]
    · cases h3

theorem isBytes_of {P : Program} {fs : Array Field} {i o : Nat} (h : isBytes P fs i o = true) : ∃ f e, fs[i]? = some f ∧ f.offset = o ∧ P.cellsOf f.type = 1 ∧ P.underlying f.type = some (.slice e) ∧ P.underlying e = some (.int .u8) ∧ P.cellsOf e = 1 := by
  unfold isBytes at h
  cases hf : fs[i]? with
  | none => rw [hf] at h; simp at h
  | some f =>
    rw [hf] at h
    simp only [Bool.and_eq_true, beq_iff_eq] at h
    have h3 := h.2
    split at h3
    · rename_i e hu
      simp only [Bool.and_eq_true, beq_iff_eq] at h3
      have h4 := h3.2
      split at h4
      · rename_i k' hk
        exact ⟨f, e, rfl, h.1.1, h.1.2, hu, by rw [hk, of_decide_eq_true h4], h3.1⟩
      · cases h4
    · cases h3

theorem get_of_one {cs : List Value} {o : Nat} {v : Value} (h : (cs.drop o).take 1 = [v]) : cs[o]? = some v := by
  have h1 : ((cs.drop o).take 1)[0]? = some v := by rw [h]; rfl
  simpa [List.getElem?_take, List.getElem?_drop] using h1

section
variable {H : Type} {enc : TypeId × Value → H} {P : Program} {w : World} {b0 : Nat}

theorem octets_of {n : Nat} {t e : TypeId} {cs : List Value} {x : DataW H × List MemPlace} (ht : P.underlying t = some (.slice e)) (he : P.underlying e = some (.int .u8)) (hc : P.cellsOf e = 1)
    (h : DataW.trod enc P w 0 (fun _ => true) true n t cs = some x) (hlt : ∀ p ∈ x.2, p.block < w.heap.size) :
    ∃ (A : Option Addr) (cap : Nat) (zs : List Int), cs = [.slice A zs.length cap] ∧ zs.length ≤ cap ∧ cap ≤ maxLen ∧ Octets zs ∧ Holds w w.heap.size .u8 A zs := by
  rcases open_ints ht he hc h with ⟨hcs, hx⟩ | ⟨a, len, cap, zs, hcs, _, hl, hm, hz, hx, hcell, hwz⟩
  · exact ⟨none, 0, [], hcs, Nat.le_refl _, Nat.zero_le _, fun _ h => by simp at h, Holds.nil⟩
  · simp only [if_true] at hz
    have hlen : (zs.take len).length = len := by simp [hz, Nat.min_eq_left hl]
    refine ⟨some a, cap, zs.take len, by rw [hlen]; exact hcs, by rw [hlen]; exact hl, hm, fun n hn => bounds_u8 (hwz n (List.mem_of_mem_take hn)), fun hp => ?_⟩
    rw [hlen] at hp
    obtain ⟨b, off, spot⟩ := a
    have hspot : spot = none := by simpa [Addr.add] using World.cell?_spot (hcell 0 (by omega))
    subst hspot
    refine ⟨b, off, rfl, hlt (.cell b (off + 0)) (by rw [hx]; exact MemPlace.mem_row.2 ⟨0, by omega, by simp⟩), fun j hj => ?_⟩
    rw [hlen] at hj
    rw [← add_plain, hcell j (by omega)]
    simp [List.getD, show j < len by omega]

theorem open_iiib {t : TypeId} {fs : Array Field} {k0 k1 k2 : IntKind} (ht : P.underlying t = some (.struct fs)) (h0 : isInt P fs 0 0 k0 = true) (h1 : isInt P fs 1 1 k1 = true) (h2 : isInt P fs 2 2 k2 = true) (h3 : isBytes P fs 3 3 = true)
    (hsz : fs.size = 4) (hc : P.cellsOf t = 4) {v : Value} {d : DataW H} {ps : List MemPlace} (hv : Value.okWide P w .any b0 t v) (h : DataW.Trod enc P w 0 (fun _ => true) true t v d ps) (hlt : ∀ x ∈ ps, x.block < w.heap.size) :
    ∃ (a b x : Int) (A : Option Addr) (cap : Nat) (zs : List Int), v = .agg #[.int k0 a, .int k1 b, .int k2 x, .slice A zs.length cap] ∧ (Lit.int k0 a).wf = true ∧ (Lit.int k1 b).wf = true ∧ (Lit.int k2 x).wf = true ∧
      zs.length ≤ cap ∧ cap ≤ maxLen ∧ Octets zs ∧ Holds w w.heap.size .u8 A zs := by
  obtain ⟨cs, rfl, hcs⟩ := okWide_struct ht hv
  obtain ⟨fuel, hfu⟩ := h
  obtain ⟨xs, m, _, hx, hl, hxl, hg⟩ := DataW.trod_struct ht hfu
  simp only [Value.cells] at hg
  obtain ⟨f0, e0, o0, s0, u0⟩ := isInt_of h0
  obtain ⟨f1, e1, o1, s1, u1⟩ := isInt_of h1
  obtain ⟨f2, e2, o2, s2, u2⟩ := isInt_of h2
  obtain ⟨f3, e, e3, o3, s3, u3, ue, ce⟩ := isBytes_of h3
  have x0 : xs[0]? = some (xs[0]'(by omega)) := List.getElem?_eq_getElem (by omega)
  have x1 : xs[1]? = some (xs[1]'(by omega)) := List.getElem?_eq_getElem (by omega)
  have x2 : xs[2]? = some (xs[2]'(by omega)) := List.getElem?_eq_getElem (by omega)
  have x3 : xs[3]? = some (xs[3]'(by omega)) := List.getElem?_eq_getElem (by omega)
  have g0 := hg 0 f0 e0
  have g1 := hg 1 f1 e1
  have g2 := hg 2 f2 e2
  have g3 := hg 3 f3 e3
  rw [o0, s0, x0] at g0
  rw [o1, s1, x1] at g1
  rw [o2, s2, x2] at g2
  rw [o3, s3, x3] at g3
  obtain ⟨a, ha, _, wa⟩ := DataW.trod_int u0 g0
  obtain ⟨b, hb, _, wb⟩ := DataW.trod_int u1 g1
  obtain ⟨x, hxx, _, wx⟩ := DataW.trod_int u2 g2
  obtain ⟨A, cap, zs, hs, r1, r2, r3, r4⟩ := octets_of u3 ue ce g3 (fun p hp => hlt p (by
    have hps : ps = xs.flatMap (·.2) := congrArg Prod.snd hx
    rw [hps]
    exact List.mem_flatMap.2 ⟨_, List.getElem_mem _, hp⟩))
  refine ⟨a, b, x, A, cap, zs, ?_, wa, wb, wx, r1, r2, r3, r4⟩
  have q0 := get_of_one ha
  have q1 := get_of_one hb
  have q2 := get_of_one hxx
  have q3 := get_of_one hs
  obtain ⟨l⟩ := cs
  have hl4 : l.length = 4 := by simpa [hc] using hcs
  match l, hl4, q0, q1, q2, q3 with
  | [y0, y1, y2, y3], _, q0, q1, q2, q3 =>
    simp at q0 q1 q2 q3
    subst q0 q1 q2 q3
    rfl
end
end Go.Proofs.YthmkeflkhocobaaDoor.Kit

namespace Go.Proofs.YthmkeflkhocobaaDoor.Kit
open Go.ChangeShapes Go.WideShapes Go.ChangeAt Go.RowKit

/-- The slice at A holds these elements, each of sz cells that E tells; its memory lies below block B. -/
def HoldsE {R : Type} (E : R → List Value → Prop) (sz : Nat) (w : World) (B : Nat) (A : Option Addr) (rs : List R) : Prop :=
  0 < rs.length → ∃ b off : Nat, A = some ⟨b, off, none⟩ ∧ b < B ∧ ∀ (i : Nat) (r : R), rs[i]? = some r → ∃ cs, E r cs ∧ cs.length = sz ∧ ∀ (j : Nat) (c : Value), cs[j]? = some c → w.cell? ⟨b, off + i * sz + j, none⟩ = some c

theorem HoldsE.keep {R : Type} {E E' : R → List Value → Prop} {sz : Nat} {w w' : World} {B : Nat} {A : Option Addr} {rs : List R} (h : HoldsE E sz w B A rs) (hk : ∀ p : Addr, p.block < B → w'.cell? p = w.cell? p) (hE : ∀ r cs, E r cs → E' r cs) : HoldsE E' sz w' B A rs := by
  intro hx
  obtain ⟨b, off, e, hb, hc⟩ := h hx
  refine ⟨b, off, e, hb, fun i r hi => ?_⟩
  obtain ⟨cs, h1, h2, h3⟩ := hc i r hi
  exact ⟨cs, hE r cs h1, h2, fun j c hj => (hk _ hb).trans (h3 j c hj)⟩

section
variable {H : Type} {enc : TypeId × Value → H} {P : Program} {w : World} {b0 : Nat}

theorem list_of {R : Type} {Q : Nat → R → Prop} : ∀ (n : Nat), (∀ i, i < n → ∃ r, Q i r) → ∃ rs : List R, rs.length = n ∧ ∀ (i : Nat) (r : R), rs[i]? = some r → Q i r
  | 0, _ => ⟨[], rfl, fun i r hi => by simp at hi⟩
  | n + 1, h => by
    obtain ⟨rs, q1, q2⟩ := list_of n fun i hi => h i (by omega)
    obtain ⟨r, hr⟩ := h n (by omega)
    refine ⟨rs ++ [r], by simp [q1], fun i r' hi => ?_⟩
    by_cases hi' : i < n
    · rw [List.getElem?_append_left (by omega)] at hi
      exact q2 i r' hi
    · have him : i = n := by
        rcases Nat.lt_or_ge i (rs ++ [r]).length with h' | h'
        · simp at h'; omega
        · rw [List.getElem?_eq_none h'] at hi; cases hi
      subst him
      rw [List.getElem?_append_right (by omega), q1] at hi
      simp at hi
      subst hi
      exact hr

theorem open_slice_of {R : Type} (E : R → List Value → Prop) {t e : TypeId} (sz : Nat) (ht : P.underlying t = some (.slice e)) (hc : P.cellsOf e = sz) (hsz : 0 < sz)
    (hE : ∀ (n : Nat) (cs : List Value) (y : DataW H × List MemPlace), DataW.trod enc P w 0 (fun _ => true) true n e cs = some y → (∀ x ∈ y.2, x.block < w.heap.size) → ∃ r, E r cs)
    {v : Value} {d : DataW H} {ps : List MemPlace} (hval : Value.okWide P w .any b0 t v) (h : DataW.Trod enc P w 0 (fun _ => true) true t v d ps) (hlt : ∀ x ∈ ps, x.block < w.heap.size) :
    ∃ (A : Option Addr) (cap : Nat) (rs : List R), v = .slice A rs.length cap ∧ rs.length ≤ cap ∧ cap ≤ maxLen ∧ HoldsE E sz w w.heap.size A rs := by
  obtain ⟨a0, len, cap, rfl⟩ := okWide_slice ht hval
  obtain ⟨fuel, hfu⟩ := h
  rcases DataW.trod_slice ht hfu with ⟨hcs, _⟩ | ⟨a, len', cap', elems, rest, n, _, hcs, hx, _, hl, hm, hlen, hel, _, _⟩
  · simp [Value.cells] at hcs
    obtain ⟨rfl, rfl, rfl⟩ := hcs
    exact ⟨none, 0, [], rfl, Nat.le_refl _, Nat.zero_le _, fun h => absurd h (by simp)⟩
  · simp [Value.cells] at hcs
    obtain ⟨rfl, rfl, rfl⟩ := hcs
    simp only [Prod.mk.injEq] at hx
    have each : ∀ i, i < len → ∃ r, ∃ cs, E r cs ∧ cs.length = sz ∧ ∀ (j : Nat) (c : Value), cs[j]? = some c → w.cell? (a.add (i * sz + j)) = some c := by
      intro i hi
      have h1 := hel i hi
      have hx' : elems[i]? = some (elems[i]'(by omega)) := List.getElem?_eq_getElem (by omega)
      rw [hx'] at h1
      obtain ⟨cs, h2, h3⟩ := Option.bind_eq_some_iff.1 h1
      obtain ⟨_, h5, h6⟩ := World.cells?_some h2
      obtain ⟨r, hr⟩ := hE _ _ _ h3 (fun x hxx => hlt x (by
        rw [hx.2]
        refine List.mem_append_right _ ?_
        refine List.mem_flatMap.2 ⟨elems[i]'(by omega), ?_, hxx⟩
        first | exact List.getElem_mem _ | exact List.mem_append_left _ (List.getElem_mem _)))
      refine ⟨r, cs, hr, by rw [h5, hc], fun j c hj => ?_⟩
      have hj' : j < cs.length := by
        rcases Nat.lt_or_ge j cs.length with h' | h'
        · exact h'
        · rw [List.getElem?_eq_none h'] at hj; cases hj
      have h7 := h6 j (by omega)
      rw [hc] at h7
      have hadd : (a.add (i * sz)).add j = a.add (i * sz + j) := by
        unfold Addr.add
        by_cases h1 : i * sz = 0 <;> by_cases h2 : j = 0 <;> simp [h1, h2, Nat.add_assoc]
      rw [hadd] at h7
      rw [h7, hj]
    obtain ⟨rs, q1, q2⟩ := list_of len each
    refine ⟨some a, cap, rs, by rw [q1], by omega, hm, fun hx0 => ?_⟩
    obtain ⟨b, off, spot⟩ := a
    have hr0 : rs[0]? = some (rs[0]'hx0) := List.getElem?_eq_getElem hx0
    obtain ⟨cs0, _, hl0, hc0⟩ := q2 0 _ hr0
    have hspot : spot = none := by simpa [Addr.add] using World.cell?_spot (hc0 0 _ (List.getElem?_eq_getElem (by omega)))
    subst hspot
    have hpos : 0 < (elems.length + rest.length) * P.cellsOf e := Nat.mul_pos (by omega) (by omega)
    refine ⟨b, off, rfl, hlt (.cell b (off + 0)) (by rw [hx.2]; exact List.mem_append_left _ (MemPlace.mem_row.2 ⟨0, hpos, by simp⟩)), fun i r hi => ?_⟩
    obtain ⟨cs, h1, h2, h3⟩ := q2 i r hi
    refine ⟨cs, h1, h2, fun j c hj => ?_⟩
    have := h3 j c hj
    rw [add_plain] at this
    rw [Nat.add_assoc]
    exact this

/-- Three integers and bytes. -/
structure Stp where
  a : Int
  b : Int
  x : Int
  A : Option Addr
  cap : Nat
  zs : List Int

/-- How such a one lies in memory. -/
def StpIn (k0 k1 k2 : IntKind) (w : World) (B : Nat) (s : Stp) (cs : List Value) : Prop :=
  cs = [.int k0 s.a, .int k1 s.b, .int k2 s.x, .slice s.A s.zs.length s.cap] ∧ (Lit.int k0 s.a).wf = true ∧ (Lit.int k1 s.b).wf = true ∧ (Lit.int k2 s.x).wf = true ∧
    s.zs.length ≤ s.cap ∧ s.cap ≤ maxLen ∧ Octets s.zs ∧ Holds w B .u8 s.A s.zs

theorem read_iiib {t : TypeId} {fs : Array Field} {k0 k1 k2 : IntKind} (ht : P.underlying t = some (.struct fs)) (h0 : isInt P fs 0 0 k0 = true) (h1 : isInt P fs 1 1 k1 = true) (h2 : isInt P fs 2 2 k2 = true) (h3 : isBytes P fs 3 3 = true)
    (hsz : fs.size = 4) (hc : P.cellsOf t = 4) {n : Nat} {cs : List Value} {y : DataW H × List MemPlace} (h : DataW.trod enc P w 0 (fun _ => true) true n t cs = some y) (hlt : ∀ x ∈ y.2, x.block < w.heap.size) :
    ∃ s : Stp, StpIn k0 k1 k2 w w.heap.size s cs := by
  obtain ⟨xs, m, _, hx, hl, hxl, hg⟩ := DataW.trod_struct ht h
  obtain ⟨f0, e0, o0, s0, u0⟩ := isInt_of h0
  obtain ⟨f1, e1, o1, s1, u1⟩ := isInt_of h1
  obtain ⟨f2, e2, o2, s2, u2⟩ := isInt_of h2
  obtain ⟨f3, e, e3, o3, s3, u3, ue, ce⟩ := isBytes_of h3
  have x0 : xs[0]? = some (xs[0]'(by omega)) := List.getElem?_eq_getElem (by omega)
  have x1 : xs[1]? = some (xs[1]'(by omega)) := List.getElem?_eq_getElem (by omega)
  have x2 : xs[2]? = some (xs[2]'(by omega)) := List.getElem?_eq_getElem (by omega)
  have x3 : xs[3]? = some (xs[3]'(by omega)) := List.getElem?_eq_getElem (by omega)
  have g0 := hg 0 f0 e0
  have g1 := hg 1 f1 e1
  have g2 := hg 2 f2 e2
  have g3 := hg 3 f3 e3
  rw [o0, s0, x0] at g0
  rw [o1, s1, x1] at g1
  rw [o2, s2, x2] at g2
  rw [o3, s3, x3] at g3
  obtain ⟨a, ha, _, wa⟩ := DataW.trod_int u0 g0
  obtain ⟨b, hb, _, wb⟩ := DataW.trod_int u1 g1
  obtain ⟨x, hxx, _, wx⟩ := DataW.trod_int u2 g2
  obtain ⟨A, cap, zs, hs, r1, r2, r3, r4⟩ := octets_of u3 ue ce g3 (fun p hp => hlt p (by
    have hps : y.2 = xs.flatMap (·.2) := congrArg Prod.snd hx
    rw [hps]
    exact List.mem_flatMap.2 ⟨_, List.getElem_mem _, hp⟩))
  refine ⟨⟨a, b, x, A, cap, zs⟩, ?_, wa, wb, wx, r1, r2, r3, r4⟩
  have q0 := get_of_one ha
  have q1 := get_of_one hb
  have q2 := get_of_one hxx
  have q3 := get_of_one hs
  have hl4 : cs.length = 4 := by omega
  match cs, hl4, q0, q1, q2, q3 with
  | [y0, y1, y2, y3], _, q0, q1, q2, q3 =>
    simp at q0 q1 q2 q3
    subst q0 q1 q2 q3
    rfl

/-- A slice of such ones that came in. -/
theorem open_steps {t e : TypeId} {fs : Array Field} {k0 k1 k2 : IntKind} (ht : P.underlying t = some (.slice e)) (he : P.underlying e = some (.struct fs)) (h0 : isInt P fs 0 0 k0 = true) (h1 : isInt P fs 1 1 k1 = true) (h2 : isInt P fs 2 2 k2 = true) (h3 : isBytes P fs 3 3 = true)
    (hsz : fs.size = 4) (hc : P.cellsOf e = 4) {v : Value} {d : DataW H} {ps : List MemPlace} (hval : Value.okWide P w .any b0 t v) (h : DataW.Trod enc P w 0 (fun _ => true) true t v d ps) (hlt : ∀ x ∈ ps, x.block < w.heap.size) :
    ∃ (A : Option Addr) (cap : Nat) (ss : List Stp), v = .slice A ss.length cap ∧ ss.length ≤ cap ∧ cap ≤ maxLen ∧ HoldsE (StpIn k0 k1 k2 w w.heap.size) 4 w w.heap.size A ss :=
  open_slice_of (StpIn k0 k1 k2 w w.heap.size) 4 ht hc (by omega) (fun _ _ _ h hp => read_iiib he h0 h1 h2 h3 hsz hc h hp) hval h hlt

/-- The steps at A, element by element. -/
theorem stepAt {k0 k1 k2 : IntKind} {w : World} {B : Nat} {A : Option Addr} {ss : List Stp} (h : HoldsE (StpIn k0 k1 k2 w B) 4 w B A ss) {i : Nat} (hi : i < ss.length) :
    ∃ b off : Nat, A = some ⟨b, off, none⟩ ∧ b < B ∧ w.cell? ⟨b, off + i * 4, none⟩ = some (.int k0 ss[i].a) ∧ w.cell? ⟨b, off + i * 4 + 1, none⟩ = some (.int k1 ss[i].b) ∧ w.cell? ⟨b, off + i * 4 + 2, none⟩ = some (.int k2 ss[i].x) ∧
      w.cell? ⟨b, off + i * 4 + 3, none⟩ = some (.slice ss[i].A ss[i].zs.length ss[i].cap) ∧ (Lit.int k0 ss[i].a).wf = true ∧ (Lit.int k1 ss[i].b).wf = true ∧ (Lit.int k2 ss[i].x).wf = true ∧
      ss[i].zs.length ≤ ss[i].cap ∧ ss[i].cap ≤ maxLen ∧ Octets ss[i].zs ∧ Holds w B .u8 ss[i].A ss[i].zs := by
  obtain ⟨b, off, rfl, hb, hc⟩ := h (by omega)
  obtain ⟨cs, ⟨rfl, r1, r2, r3, r4, r5, r6, r7⟩, _, hcs⟩ := hc i ss[i] (List.getElem?_eq_getElem hi)
  exact ⟨b, off, rfl, hb, by simpa using hcs 0 _ rfl, hcs 1 _ rfl, hcs 2 _ rfl, hcs 3 _ rfl, r1, r2, r3, r4, r5, r6, r7⟩

theorem steps_below {k0 k1 k2 : IntKind} {w w' : World} {B : Nat} {A : Option Addr} {ss : List Stp} (h : HoldsE (StpIn k0 k1 k2 w B) 4 w B A ss) (hb : Below B w w') : HoldsE (StpIn k0 k1 k2 w' B) 4 w' B A ss :=
  h.keep (fun _ hp => hb.cell hp) fun _ _ ⟨r0, r1, r2, r3, r4, r5, r6, r7⟩ => ⟨r0, r1, r2, r3, r4, r5, r6, r7.below hb⟩
end
end Go.Proofs.YthmkeflkhocobaaDoor.Kit

namespace Go.Proofs.YthmkeflkhocobaaDoor.Kit
open Go.ChangeShapes Go.WideShapes Go.ChangeAt Go.RowKit

/-- A row of bytes. -/
structure Rw where
  A : Option Addr
  cap : Nat
  zs : List Int

/-- How such a one lies in memory. -/
def RwIn (w : World) (B : Nat) (r : Rw) (cs : List Value) : Prop := cs = [.slice r.A r.zs.length r.cap] ∧ r.zs.length ≤ r.cap ∧ r.cap ≤ maxLen ∧ Octets r.zs ∧ Holds w B .u8 r.A r.zs

/-- The slice at A holds these rows of bytes, all below block B. -/
def HoldsW (w : World) (B : Nat) (A : Option Addr) (rs : List Rw) : Prop := HoldsE (RwIn w B) 1 w B A rs

section
variable {H : Type} {enc : TypeId × Value → H} {P : Program} {w w' : World} {b0 : Nat}
theorem open_rowsB {t u e : TypeId} (ht : P.underlying t = some (.slice u)) (hu : P.underlying u = some (.slice e)) (he : P.underlying e = some (.int .u8)) (hcu : P.cellsOf u = 1) (hce : P.cellsOf e = 1)
    {v : Value} {d : DataW H} {ps : List MemPlace} (hval : Value.okWide P w .any b0 t v) (h : DataW.Trod enc P w 0 (fun _ => true) true t v d ps) (hlt : ∀ x ∈ ps, x.block < w.heap.size) :
    ∃ (A : Option Addr) (cap : Nat) (rs : List Rw), v = .slice A rs.length cap ∧ rs.length ≤ cap ∧ cap ≤ maxLen ∧ HoldsW w w.heap.size A rs :=
  open_slice_of (RwIn w w.heap.size) 1 ht hcu (by omega) (fun _ _ _ h hp => by
    obtain ⟨A, cap, zs, rfl, r1, r2, r3, r4⟩ := octets_of hu he hce h hp
    exact ⟨⟨A, cap, zs⟩, rfl, r1, r2, r3, r4⟩) hval h hlt

theorem rwAt {B : Nat} {A : Option Addr} {rs : List Rw} (h : HoldsW w B A rs) {i : Nat} (hi : i < rs.length) :
    ∃ b off : Nat, A = some ⟨b, off, none⟩ ∧ b < B ∧ w.cell? ⟨b, off + i, none⟩ = some (.slice rs[i].A rs[i].zs.length rs[i].cap) ∧ rs[i].zs.length ≤ rs[i].cap ∧ rs[i].cap ≤ maxLen ∧ Octets rs[i].zs ∧ Holds w B .u8 rs[i].A rs[i].zs := by
  obtain ⟨b, off, rfl, hb, hc⟩ := h (by omega)
  obtain ⟨cs, ⟨rfl, r4, r5, r6, r7⟩, _, hcs⟩ := hc i rs[i] (List.getElem?_eq_getElem hi)
  exact ⟨b, off, rfl, hb, by simpa using hcs 0 _ rfl, r4, r5, r6, r7⟩

theorem HoldsW.below {B : Nat} {A : Option Addr} {rs : List Rw} (h : HoldsW w B A rs) (hb : Below B w w') : HoldsW w' B A rs :=
  h.keep (fun _ hp => hb.cell hp) fun _ _ ⟨r0, r4, r5, r6, r7⟩ => ⟨r0, r4, r5, r6, r7.below hb⟩

theorem HoldsW.more {B B' : Nat} {A : Option Addr} {rs : List Rw} (h : HoldsW w B A rs) (hB : B ≤ B') : HoldsW w B' A rs := by
  intro hx
  obtain ⟨b, off, e, hb, hc⟩ := h hx
  refine ⟨b, off, e, by omega, fun i r hi => ?_⟩
  obtain ⟨cs, ⟨r0, r4, r5, r6, r7⟩, h2, h3⟩ := hc i r hi
  exact ⟨cs, ⟨r0, r4, r5, r6, r7.more hB⟩, h2, h3⟩

/-- The first n rows. -/
theorem HoldsW.head {B : Nat} {A : Option Addr} {rs : List Rw} (h : HoldsW w B A rs) (n : Nat) : HoldsW w B A (rs.take n) := by
  intro hx
  simp only [List.length_take] at hx
  obtain ⟨b, off, e, hb, hc⟩ := h (by omega)
  refine ⟨b, off, e, hb, fun i r hi => hc i r ?_⟩
  rw [List.getElem?_take] at hi
  split at hi
  · exact hi
  · cases hi

/-- All rows' bytes. -/
def joinL (rs : List Rw) : List Int := rs.flatMap (·.zs)
theorem joinL_next {rs : List Rw} {i : Nat} (hi : i < rs.length) : joinL (rs.take (i + 1)) = joinL (rs.take i) ++ rs[i].zs := by
  unfold joinL
  rw [List.take_succ_eq_append_getElem hi, List.flatMap_append]
  simp
theorem joinL_le {rs : List Rw} {m : Nat} (h : ∀ r ∈ rs, r.zs.length ≤ m) : (joinL rs).length ≤ rs.length * m := by
  induction rs with
  | nil => simp [joinL]
  | cons r rs ih =>
    have h1 := ih (fun x hx => h x (by simp [hx]))
    have h2 := h r (by simp)
    unfold joinL at h1 ⊢
    rw [List.flatMap_cons, List.length_append, List.length_cons, Nat.succ_mul]
    omega
theorem joinL_octets {rs : List Rw} (h : ∀ r ∈ rs, Octets r.zs) : Octets (joinL rs) := by
  intro x hx
  obtain ⟨r, hr, hx⟩ := List.mem_flatMap.1 hx
  exact h r hr x hx
theorem HoldsW.octets {B : Nat} {A : Option Addr} {rs : List Rw} (h : HoldsW w B A rs) : ∀ r ∈ rs, Octets r.zs := by
  intro r hr
  obtain ⟨i, hi, rfl⟩ := List.mem_iff_getElem.1 hr
  obtain ⟨_, _, _, _, _, _, _, h6, _⟩ := rwAt h hi
  exact h6
end
end Go.Proofs.YthmkeflkhocobaaDoor.Kit

namespace Go.Proofs.YthmkeflkhocobaaDoor.Kit
open Go.ChangeShapes Go.WideShapes Go.ChangeAt Go.RowKit

/-- The head of the list is an array of integers: its cells; and the rest. -/
theorem laid_ints {P : Program} {w : World} {nm : String} {d : DataW Unit} {r : List (String × DataW Unit)} {ps : List MemPlace} (h : DataW.LaidVars P w ((nm, d) :: r) ps)
    {k : IntKind} (xs : List Int) (hd : d = .agg (xs.map fun z => .lit (.int k z))) {g : Nat} {t e : TypeId} (hg : P.globalNamed nm = some g) (ht : (P.globals[g]?).map (·.type) = some t)
    (hu : P.underlying t = some (.array xs.length e)) (he : P.underlying e = some (.int k)) (hc : P.cellsOf e = 1) :
    (∀ i, i < xs.length → w.cell? ⟨g, i, none⟩ = some (.int k (xs.getD i 0))) ∧ ∃ q, DataW.LaidVars P w r q := by
  obtain ⟨g', t', cs, fuel, p, q, hg', ht', hv, htr, hrest, _⟩ := h
  obtain rfl := Option.some.inj (hg.symm.trans hg')
  obtain rfl := Option.some.inj (ht.symm.trans ht')
  refine ⟨fun i hi => ?_, q, hrest⟩
  obtain ⟨ys, m, _, hy, hl, hn, hel⟩ := DataW.trod_array hu htr
  subst hd
  simp only [Prod.mk.injEq, DataW.agg.injEq] at hy
  have hyi : ys[i]? = some (ys[i]'(by omega)) := List.getElem?_eq_getElem (by omega)
  have h1 := hel i hi
  rw [hc, Nat.mul_one, hyi] at h1
  obtain ⟨z, hz, hz2, _⟩ := DataW.trod_int he h1
  have h2 : (ys.map (·.1))[i]? = (xs.map fun z => (DataW.lit (.int k z) : DataW Unit))[i]? := by rw [hy.1]
  rw [List.getElem?_map, hyi, List.getElem?_map, List.getElem?_eq_getElem hi, Option.map_some, Option.map_some, hz2] at h2
  injection h2 with h2
  simp only [DataW.lit.injEq, Lit.int.injEq] at h2
  have h3 := World.var?_cell hg' hv i
  rw [h3, List.getD_eq_getElem?_getD, List.getElem?_eq_getElem hi, Option.getD_some, ← h2.2]
  have h4 : ((cs.toList.drop i).take 1)[0]? = some (.int k z) := by rw [hz]; rfl
  rw [List.getElem?_take, List.getElem?_drop] at h4
  simpa using h4
end Go.Proofs.YthmkeflkhocobaaDoor.Kit
