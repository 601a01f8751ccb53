/-
  Own words for every seat: how a law that leaves all old memory alone becomes its row, and how a slice of one-cell integers is read. Conditions: none beyond what each theorem names.
  Layer 8, bits: the plain arithmetic of lists of bits. No program. No conditions beyond what each theorem names.
  Layer 9, huff: the plain arithmetic of lengths. No program. No conditions beyond what each theorem names.
  Own words for rows of integers that a call makes itself: what is owned, what append, make and copy leave. No program. No conditions beyond what each theorem names.
  Own words: a world that has turned in some blocks alone (and has new ones). No program. No conditions beyond what each theorem names.
  Layer 8, bits: what a nil writer and a nil reader answer. Conditions: none.
  Layer 8, bits: what a writer has, and Put. Conditions: as each theorem names.
  Layer 8, bits: the plain arithmetic of reading. No program. No conditions beyond what each theorem names.
  Own words for arrays of integers: in a block of their own, by value, compared. No program. No conditions beyond what each theorem names.
  Own words: a row of bytes read as a string; a step that kept rows apart. No program. No conditions beyond what each theorem names.
  Layer 12, deflate: the tables of least lengths and distances, plain. No program.
  Own words: each law at the head of a list of operations serves as a step of a region that draws its order. No program. No conditions beyond what each theorem names.
  Own words for structs of integers, by value and in slices that came in. No program. No conditions beyond what each theorem names.
  Own words for a struct parameter of three integers and a slice of bytes. No program. No conditions beyond what each theorem names.
  Own words for slices of elements of any shape that came in. No program. No conditions beyond what each theorem names.
  Own words for slices of rows of bytes that came in, or that a call lays itself. No program. No conditions beyond what each theorem names.
  Own words for package-level arrays of integers that the program's own text lays. No program. No conditions beyond what each theorem names.
-/
import Derived.Below
import Derived.Carry
import Derived.WalkKit
import Derived.ProofKit
import Derived.OpenShut
import Derived.Lib.Hide
import Derived.Deep.Draws
import Derived.Laws.BitsAllLaws
import Derived.Laws.Bits64b
import Derived.Maps.AppendAt
import Derived.Deep.AppendLies
import Derived.Laws.CopyOwn
import Derived.Laws.MakeOwn
import Derived.OwnWalk
import Derived.RegionTactic
import Derived.Test.YthflefdchgpbdaaDoorRows
import Derived.BigQuiet
import Derived.LoopTactic
import Derived.Deep.LoopGhost
import Derived.Deep.RegionLaw
import Derived.Outline
import Derived.Deep.MidRow
import Derived.ChangeKeysEq
import Derived.Laws.BytesArg
import Derived.Deep.RegionHeld
import Derived.DataReads
import Derived.ChangeArms
import Derived.LaidMore
import Derived.MakeChecks
import Derived.Stop.Joined
namespace Go.Proofs.YthflefdchgpbdaaDoor.Kit
open Go.ChangeShapes Go.WideShapes Go.ChangeAt Go.RowKit

section
variable {H : Type} {enc : TypeId × Value → H} {P : Program}

theorem trodAll_below (hl : laidOutB P = true) {W W' : World} (hb : Below W.heap.size W W') :
    ∀ {ts : List TypeId} {vs : List Value} {ds : List (DataW H)} {ps : List MemPlace}, ts.all (fun t => P.readableRec t && decide (t < P.types.size)) = true →
      DataW.TrodAll enc P W 0 (fun _ => true) true ts vs ds ps → (∀ x ∈ ps, x.block < W.heap.size) → DataW.TrodAll enc P W' 0 (fun b => decide (b < W.heap.size)) true ts vs ds ps
  | [], [], [], _, _, h, _ => h
  | [], _ :: _, _, _, _, h, _ => h.elim
  | [], [], _ :: _, _, _, h, _ => h.elim
  | _ :: _, [], _, _, _, h, _ => h.elim
  | _ :: _, _ :: _, [], _, _, h, _ => h.elim
  | t :: ts, v :: vs, d :: ds, ps, hr, h, hlt => by
    obtain ⟨p, q, h1, h2, rfl⟩ := h
    simp only [List.all_cons, Bool.and_eq_true, decide_eq_true_eq] at hr
    exact ⟨p, q, Below.trod hl hr.1.1 hr.1.2 h1 hb (fun x hx => hlt x (by simp [hx])), trodAll_below hl hb (by simpa using hr.2) h2 (fun x hx => hlt x (by simp [hx])), rfl⟩

/-- A law's end: it answered true, and nothing that was there before has turned. -/
theorem law_post {f : Func} {s : ChangeSpec} {apart fresh handsOn : Bool} {W W' : World} {args : Array Value} {ds gs : List (DataW H)} {before : List MemPlace} {tb : TypeId}
    (hl : laidOutB P = true) (hr : f.params.toList.all (fun t => P.readableRec t && decide (t < P.types.size)) = true)
    (hW : DataW.Whole enc P f.params.toList s.vars apart W args.toList ds gs before) (hv : s.vars = [])
    (hres : f.resultTypes = #[tb]) (htb : P.underlying tb = some .bool)
    (hfn : s.fn H ds = { results := [.lit (.bool true)], args := ds }) (hb : Below W.heap.size W W') :
    s.post enc P f apart fresh handsOn false W args (.bool true) W' := by
  have hW' := hW
  obtain ⟨p, q, hA, hV, hps, hz, hn⟩ := hW
  rw [hv] at hV
  obtain ⟨rfl, rfl⟩ := trodVars_none hV
  simp only [List.append_nil] at hps
  subst hps
  have hlt : ∀ x ∈ before, x.block < W.heap.size := fun x hx => hW'.lt x hx
  refine ⟨ds, [], before, [], before, [], hW', ?_, ?_, ?_, World.keptBut_mono (fun x hx => ⟨hx, Or.inr (Or.inl hx)⟩) (hb.frame (· ∈ before)), fun h => by cases h⟩
  · rw [List.append_nil, hfn, hres]
    exact trodAll_mk1 (shut_bool htb _)
  · rw [List.append_nil, hfn]
    exact trodAll_below hl hb hr hA hlt
  · rw [List.append_nil, hfn, hv]
    exact rfl
end

theorem below_draws {B : Nat} {a w : World} (h : Below B a w) (n : Nat) : Below B a (w.drewN n) := ⟨h.os, h.tape, h.output, h.size, h.block⟩

/-! ### A slice of one-cell integers -/

/-- The slice at A holds the numbers xs; its memory lies below block B. -/
def Holds (w : World) (B : Nat) (k : IntKind) (A : Option Addr) (xs : List Int) : Prop :=
  0 < xs.length → ∃ b off : Nat, A = some ⟨b, off, none⟩ ∧ b < B ∧ ∀ j, j < xs.length → w.cell? ⟨b, off + j, none⟩ = some (.int k (xs.getD j 0))

theorem Holds.nil {w : World} {B : Nat} {k : IntKind} {A : Option Addr} : Holds w B k A [] := fun h => absurd h (by simp)

theorem Holds.keep {w w' : World} {B : Nat} {k : IntKind} {A : Option Addr} {xs : List Int} (h : Holds w B k A xs) (hk : ∀ p : Addr, p.block < B → w'.cell? p = w.cell? p) : Holds w' B k A xs := by
  intro hx
  obtain ⟨b, off, e, hb, hc⟩ := h hx
  exact ⟨b, off, e, hb, fun j hj => (hk _ hb).trans (hc j hj)⟩

theorem Holds.below {w w' : World} {B : Nat} {k : IntKind} {A : Option Addr} {xs : List Int} (h : Holds w B k A xs) (hb : Below B w w') : Holds w' B k A xs := h.keep fun _ hp => hb.cell hp

theorem Holds.more {w : World} {B B' : Nat} {k : IntKind} {A : Option Addr} {xs : List Int} (h : Holds w B k A xs) (hB : B ≤ B') : Holds w B' k A xs := by
  intro hx
  obtain ⟨b, off, e, hb, hc⟩ := h hx
  exact ⟨b, off, e, by omega, hc⟩

def Octets (xs : List Int) : Prop := ∀ n ∈ xs, 0 ≤ n ∧ n ≤ 255

theorem Octets.at_ {xs : List Int} (h : Octets xs) (j : Nat) : 0 ≤ xs[j]?.getD 0 ∧ xs[j]?.getD 0 ≤ 255 := by
  by_cases hj : j < xs.length
  · have := h xs[j] (List.getElem_mem hj)
    simpa [hj] using this
  · simp [List.getElem?_eq_none (by omega : xs.length ≤ j)]

theorem Octets.tail {xs : List Int} (h : Octets xs) (n : Nat) : Octets (xs.drop n) := fun _ hx => h _ (List.mem_of_mem_drop hx)
theorem Octets.head {xs : List Int} (h : Octets xs) (n : Nat) : Octets (xs.take n) := fun _ hx => h _ (List.mem_of_mem_take hx)

/-- A []uint8 that came in, opened: nil or not, it is a slice that holds its bytes. -/
theorem open_octets {H : Type} {enc : TypeId × Value → H} {P : Program} {w : World} {base : Nat} {t e : TypeId} {v : Value} {d : DataW H} {ps : List MemPlace}
    (ht : P.underlying t = some (.slice e)) (he : P.underlying e = some (.int .u8)) (hc : P.cellsOf e = 1)
    (hval : Value.okWide P w .any base t v) (h : DataW.Trod enc P w 0 (fun _ => true) true t v d ps) (hlt : ∀ x ∈ ps, x.block < w.heap.size) :
    ∃ (A : Option Addr) (cap : Nat) (xs : List Int), v = .slice A xs.length cap ∧ xs.length ≤ cap ∧ cap ≤ maxLen ∧ Octets xs ∧ Holds w w.heap.size .u8 A xs := by
  obtain ⟨a0, len, cap, rfl⟩ := okWide_slice ht hval
  obtain ⟨fuel, hf⟩ := h
  rcases open_ints ht he hc hf with ⟨hcs, hx⟩ | ⟨a, len', cap', zs, hcs, _, hl, hm, hz, hx, hcell, hwz⟩
  · simp [Value.cells] at hcs
    obtain ⟨rfl, rfl, rfl⟩ := hcs
    exact ⟨none, 0, [], rfl, Nat.le_refl _, Nat.zero_le _, fun _ h => by simp at h, Holds.nil⟩
  · simp [Value.cells] at hcs
    obtain ⟨rfl, rfl, rfl⟩ := hcs
    simp only [Prod.mk.injEq] at hx
    obtain ⟨rfl, rfl⟩ := hx
    simp only [if_true] at hz
    refine ⟨some a, cap, zs.take len, by simp [hz, Nat.min_eq_left hl], by simp; omega, hm, fun n hn => bounds_u8 (hwz n (List.mem_of_mem_take hn)), fun hx => ?_⟩
    simp only [List.length_take] at hx
    obtain ⟨b, off, spot⟩ := a
    have hspot : spot = none := by simpa [Addr.add] using World.cell?_spot (hcell 0 (by omega))
    subst hspot
    refine ⟨b, off, rfl, hlt (.cell b (off + 0)) (MemPlace.mem_row.2 ⟨0, by omega, by simp⟩), fun j hj => ?_⟩
    simp only [List.length_take] at hj
    rw [← add_plain, hcell j (by omega)]
    simp [List.getD, show j < len by omega]
end Go.Proofs.YthflefdchgpbdaaDoor.Kit

namespace Go.Proofs.YthflefdchgpbdaaDoor.Bits
open Go.RowKit Go.Proofs.YthflefdchgpbdaaDoor.Kit

/-- What bits tell, the lowest first. -/
def val : List Int → Int
  | [] => 0
  | b :: l => b + 2 * val l
def Bit (l : List Int) : Prop := ∀ b ∈ l, 0 ≤ b ∧ b ≤ 1
/-- The lowest n bits of a number. -/
def num (x : Int) : Nat → List Int
  | 0 => []
  | n + 1 => x % 2 :: num (x / 2) n
/-- The first k bytes of bits. -/
def bytesOf : Nat → List Int → List Int
  | 0, _ => []
  | k + 1, l => val (l.take 8) :: bytesOf k (l.drop 8)
def bitsOf : List Int → List Int
  | [] => []
  | b :: l => num b 8 ++ bitsOf l
/-- Bits, and zeros up to a whole byte. -/
def pad (l : List Int) : List Int := l ++ List.replicate ((8 - l.length % 8) % 8) 0

theorem p2_pos (n : Nat) : (0 : Int) < 2 ^ n := Int.pow_pos (by omega)
theorem Bit.nil : Bit [] := fun _ h => by simp at h
theorem Bit.append {a b : List Int} (ha : Bit a) (hb : Bit b) : Bit (a ++ b) := fun x hx => (List.mem_append.1 hx).elim (ha x) (hb x)
theorem Bit.take {l : List Int} (h : Bit l) (n : Nat) : Bit (l.take n) := fun x hx => h x (List.mem_of_mem_take hx)
theorem Bit.drop {l : List Int} (h : Bit l) (n : Nat) : Bit (l.drop n) := fun x hx => h x (List.mem_of_mem_drop hx)
theorem Bit.zeros (n : Nat) : Bit (List.replicate n 0) := fun x hx => by rw [(List.mem_replicate.1 hx).2]; decide

theorem num_length : ∀ (n : Nat) (x : Int), (num x n).length = n
  | 0, _ => rfl
  | n + 1, x => by simp [num, num_length n]
theorem num_bit : ∀ (n : Nat) (x : Int), Bit (num x n)
  | 0, _ => Bit.nil
  | n + 1, x => fun b hb => by
    rcases List.mem_cons.1 hb with rfl | hb
    · omega
    · exact num_bit n _ b hb
theorem div_two_pow (x : Int) (n : Nat) : x / 2 / 2 ^ n = x / 2 ^ (n + 1) := by
  rw [Int.ediv_ediv_of_nonneg (by omega), Int.pow_succ, Int.mul_comm]
theorem num_snoc : ∀ (n : Nat) (x : Int), num x (n + 1) = num x n ++ [x / 2 ^ n % 2]
  | 0, x => by simp [num]
  | n + 1, x => by
    rw [num, num_snoc n (x / 2), div_two_pow]
    rfl
theorem num_get : ∀ (n : Nat) (x : Int) (i : Nat), i < n → (num x n)[i]? = some (x / 2 ^ i % 2)
  | n + 1, x, 0, _ => by simp [num]
  | n + 1, x, i + 1, h => by
    rw [num, List.getElem?_cons_succ, num_get n (x / 2) i (by omega), div_two_pow]
theorem num_append : ∀ (a b : Nat) (x : Int), num x (a + b) = num x a ++ num (x / 2 ^ a) b
  | 0, b, x => by simp [num]
  | a + 1, b, x => by
    rw [show a + 1 + b = (a + b) + 1 by omega, num, num_append a b, div_two_pow]
    rfl
theorem val_bd : ∀ {l : List Int}, Bit l → 0 ≤ val l ∧ val l < 2 ^ l.length
  | [], _ => by simp [val]
  | b :: l, h => by
    have h1 := val_bd (l := l) fun x hx => h x (List.mem_cons_of_mem _ hx)
    have h2 := h b (List.mem_cons_self ..)
    simp only [val, List.length_cons, Int.pow_succ]
    omega
theorem val_append : ∀ (a b : List Int), val (a ++ b) = val a + 2 ^ a.length * val b
  | [], b => by simp [val]
  | x :: a, b => by
    simp only [List.cons_append, val, val_append a b, List.length_cons, Int.pow_succ]
    rw [Int.mul_comm (2 ^ a.length) 2, Int.mul_assoc, Int.mul_add]
    omega
theorem val_zeros : ∀ n, val (List.replicate n 0) = 0
  | 0 => rfl
  | n + 1 => by simp [List.replicate_succ, val, val_zeros n]
theorem val_append_zeros (l : List Int) (n : Nat) : val (l ++ List.replicate n 0) = val l := by rw [val_append, val_zeros]; omega
theorem val_num : ∀ (n : Nat) (x : Int), val (num x n) = x % 2 ^ n
  | 0, x => by simp [num, val, Int.emod_one]
  | n + 1, x => by
    rw [num, val, val_num n (x / 2), Int.pow_succ, Int.mul_comm (2 ^ n) 2]
    have h1 := Int.mul_ediv_add_emod (x / 2) (2 ^ n)
    have h2 := Int.emod_nonneg (x / 2) (by have := p2_pos n; omega : (2 : Int) ^ n ≠ 0)
    have h3 := Int.emod_lt_of_pos (x / 2) (p2_pos n)
    have h4 : x = (x % 2 + 2 * (x / 2 % 2 ^ n)) + 2 * 2 ^ n * (x / 2 / 2 ^ n) := by
      rw [Int.mul_assoc]
      omega
    have h5 : x % (2 * 2 ^ n) = (x % 2 + 2 * (x / 2 % 2 ^ n)) % (2 * 2 ^ n) := by
      conv => lhs; rw [h4]
      exact Int.add_mul_emod_self_left ..
    rw [h5]
    exact (Int.emod_eq_of_lt (by omega) (by omega)).symm
theorem num_val : ∀ {l : List Int}, Bit l → num (val l) l.length = l
  | [], _ => rfl
  | b :: l, h => by
    have h2 := h b (List.mem_cons_self ..)
    have h3 := num_val (l := l) fun x hx => h x (List.mem_cons_of_mem _ hx)
    rw [List.length_cons, num, val, show (b + 2 * val l) % 2 = b by omega, show (b + 2 * val l) / 2 = val l by omega, h3]
theorem val_take_drop (l : List Int) (n : Nat) (h : n ≤ l.length) : val l = val (l.take n) + 2 ^ n * val (l.drop n) := by
  have := val_append (l.take n) (l.drop n)
  rwa [List.take_append_drop, List.length_take, Nat.min_eq_left h] at this
theorem val_mod {l : List Int} (hb : Bit l) (n : Nat) (h : n ≤ l.length) : val l % 2 ^ n = val (l.take n) ∧ val l / 2 ^ n = val (l.drop n) := by
  have h1 := val_bd (hb.take n)
  rw [List.length_take, Nat.min_eq_left h] at h1
  rw [val_take_drop l n h]
  exact ⟨by rw [Int.add_mul_emod_self_left, Int.emod_eq_of_lt h1.1 h1.2], by rw [Int.add_mul_ediv_left _ _ (by have := p2_pos n; omega), Int.ediv_eq_zero_of_lt h1.1 h1.2]; omega⟩
theorem val_mod_small {l : List Int} (hb : Bit l) (n : Nat) (h : l.length ≤ n) : val l % 2 ^ n = val l := by
  have h1 := val_bd hb
  have h2 : (2 : Int) ^ l.length ≤ 2 ^ n := by
    rw [show n = l.length + (n - l.length) by omega, Int.pow_add]
    have := p2_pos l.length
    have := p2_pos (n - l.length)
    calc (2 : Int) ^ l.length = 2 ^ l.length * 1 := by omega
      _ ≤ _ := Int.mul_le_mul_of_nonneg_left (by omega) (by omega)
  exact Int.emod_eq_of_lt h1.1 (by omega)

theorem bytesOf_length : ∀ (k : Nat) (l : List Int), (bytesOf k l).length = k
  | 0, _ => rfl
  | k + 1, l => by simp [bytesOf, bytesOf_length k]
theorem val8_bd {l : List Int} (h : Bit l) : 0 ≤ val (l.take 8) ∧ val (l.take 8) ≤ 255 := by
  have h1 := val_bd (h.take 8)
  have h2 : (2 : Int) ^ (l.take 8).length ≤ 256 := by
    have : (l.take 8).length ≤ 8 := List.length_take_le 8 l
    generalize (l.take 8).length = n at this
    match n, this with
    | 0, _ | 1, _ | 2, _ | 3, _ | 4, _ | 5, _ | 6, _ | 7, _ | 8, _ => decide
  omega
theorem bytesOf_octets : ∀ (k : Nat) {l : List Int}, Bit l → Octets (bytesOf k l)
  | 0, _, _ => fun _ h => by simp [bytesOf] at h
  | k + 1, l, h => fun x hx => by
    rcases List.mem_cons.1 hx with rfl | hx
    · exact val8_bd h
    · exact bytesOf_octets k (h.drop 8) x hx
theorem bytesOf_snoc : ∀ (k : Nat) (l : List Int), bytesOf (k + 1) l = bytesOf k l ++ [val ((l.drop (8 * k)).take 8)]
  | 0, l => by simp [bytesOf]
  | k + 1, l => by
    rw [bytesOf, bytesOf_snoc k (l.drop 8), List.drop_drop, bytesOf, show 8 + 8 * k = 8 * (k + 1) by omega]
    rfl
theorem bytesOf_left : ∀ (k : Nat) (a b : List Int), 8 * k ≤ a.length → bytesOf k (a ++ b) = bytesOf k a
  | 0, _, _, _ => rfl
  | k + 1, a, b, h => by
    rw [bytesOf, bytesOf, List.take_append_of_le_length (by omega), List.drop_append_of_le_length (by omega), bytesOf_left k (a.drop 8) b (by simp; omega)]
theorem bytesOf_zeros : ∀ (k : Nat) (l : List Int) (z : Nat), bytesOf k (l ++ List.replicate z 0) = bytesOf k l
  | 0, _, _ => rfl
  | k + 1, l, z => by
    have h1 : val ((l ++ List.replicate z 0).take 8) = val (l.take 8) := by
      rw [List.take_append, List.take_replicate, val_append_zeros]
    have h2 : (l ++ List.replicate z 0).drop 8 = l.drop 8 ++ List.replicate (z - (8 - l.length)) 0 := by
      rw [List.drop_append, List.drop_replicate]
    rw [bytesOf, h1, h2, bytesOf_zeros k (l.drop 8)]
    rfl
theorem bytesOf_bits : ∀ (b : List Int), Octets b → bytesOf b.length (bitsOf b) = b
  | [], _ => rfl
  | x :: b, h => by
    have hx := h x (List.mem_cons_self ..)
    rw [List.length_cons, bytesOf, bitsOf, List.take_append_of_le_length (by simp [num_length]), List.drop_append_of_le_length (by simp [num_length])]
    rw [List.take_of_length_le (by simp [num_length]), List.drop_eq_nil_of_le (by simp [num_length]), val_num, List.nil_append, bytesOf_bits b fun y hy => h y (List.mem_cons_of_mem _ hy)]
    rw [show (2 : Int) ^ 8 = 256 by decide]
    congr 1
    omega
theorem bytesOf_join : ∀ (k n : Nat) (a b : List Int), a.length = 8 * k → bytesOf (k + n) (a ++ b) = bytesOf k a ++ bytesOf n b
  | 0, n, a, b, h => by
    obtain rfl : a = [] := List.eq_nil_of_length_eq_zero (by omega)
    simp [bytesOf]
  | k + 1, n, a, b, h => by
    rw [show k + 1 + n = (k + n) + 1 by omega, bytesOf, bytesOf, List.take_append_of_le_length (by omega), List.drop_append_of_le_length (by omega), bytesOf_join k n (a.drop 8) b (by simp; omega)]
    rfl
theorem bitsOf_length : ∀ (b : List Int), (bitsOf b).length = 8 * b.length
  | [] => rfl
  | x :: b => by simp [bitsOf, num_length, bitsOf_length b]; omega
theorem bitsOf_bit : ∀ (b : List Int), Bit (bitsOf b)
  | [] => Bit.nil
  | x :: b => (num_bit 8 x).append (bitsOf_bit b)
theorem bitsOf_append : ∀ (a b : List Int), bitsOf (a ++ b) = bitsOf a ++ bitsOf b
  | [], _ => rfl
  | x :: a, b => by simp [bitsOf, bitsOf_append a b]
theorem bits_bytesOf : ∀ (k : Nat) {l : List Int}, Bit l → l.length = 8 * k → bitsOf (bytesOf k l) = l
  | 0, l, _, h => by
    obtain rfl : l = [] := List.eq_nil_of_length_eq_zero (by omega)
    rfl
  | k + 1, l, hb, h => by
    have hlen : (l.take 8).length = 8 := by simp; omega
    have h1 := num_val (hb.take 8)
    rw [hlen] at h1
    rw [bytesOf, bitsOf, h1, bits_bytesOf k (hb.drop 8) (by simp; omega), List.take_append_drop]
theorem pad_length (l : List Int) : (pad l).length = 8 * ((l.length + 7) / 8) := by simp [pad]; omega
theorem pad_bit {l : List Int} (h : Bit l) : Bit (pad l) := h.append (Bit.zeros _)
theorem bits_bytes_pad {l : List Int} (h : Bit l) : bitsOf (bytesOf ((l.length + 7) / 8) l) = pad l := by
  have h1 := bits_bytesOf ((l.length + 7) / 8) (pad_bit h) (pad_length l)
  rw [← h1, pad, bytesOf_zeros]

/-- One bit more, in the document's row of bytes: a new byte. -/
theorem bytes_new (l : List Int) (b : Int) (k : Nat) (h : l.length = 8 * k) : bytesOf (k + 1) (l ++ [b]) = bytesOf k l ++ [b] := by
  rw [bytesOf_join k 1 l [b] h]
  simp [bytesOf, val]
/-- One bit more, in the document's row of bytes: in the last one. -/
theorem bytes_more (l : List Int) (b : Int) (k j : Nat) (h : l.length = 8 * k + j) (hj : 0 < j ∧ j < 8) :
    bytesOf (k + 1) (l ++ [b]) = (bytesOf (k + 1) l).set k (val (l.drop (8 * k)) + b * 2 ^ j) ∧ (bytesOf (k + 1) l)[k]? = some (val (l.drop (8 * k))) := by
  have hd : (l.drop (8 * k)).length = j := by simp; omega
  have h1 : (l.drop (8 * k)).take 8 = l.drop (8 * k) := List.take_of_length_le (by omega)
  have h2 : ((l ++ [b]).drop (8 * k)).take 8 = l.drop (8 * k) ++ [b] := by
    rw [List.drop_append_of_le_length (by omega)]
    exact List.take_of_length_le (by simp; omega)
  have h3 : bytesOf k (l ++ [b]) = bytesOf k l := bytesOf_left k l [b] (by omega)
  rw [bytesOf_snoc, bytesOf_snoc, h1, h2, h3, val_append, hd]
  refine ⟨?_, ?_⟩
  · rw [List.set_append_right _ _ (by rw [bytesOf_length]; omega), bytesOf_length, Nat.sub_self, List.set_cons_zero]
    simp [val, Int.mul_comm]
  · rw [List.getElem?_append_right (by rw [bytesOf_length]; omega), bytesOf_length, Nat.sub_self]
    rfl

theorem p2_le {a b : Nat} (h : a ≤ b) : (2 : Int) ^ a ≤ 2 ^ b := by
  obtain ⟨c, rfl⟩ : ∃ c, b = a + c := ⟨b - a, by omega⟩
  rw [Int.pow_add]
  have h1 := p2_pos a
  have h2 := p2_pos c
  calc (2 : Int) ^ a = 2 ^ a * 1 := by omega
    _ ≤ _ := Int.mul_le_mul_of_nonneg_left (by omega) (by omega)

/-- x & (1<<n - 1), in 64 bits. -/
theorem and_low (x : Int) (N : Nat) (hx : 0 ≤ x ∧ x < 18446744073709551616) (hN : N ≤ 62) :
    bits BinOp.and IntKind.u64 x (IntKind.u64.wrap (IntKind.u64.wrap (2 ^ N) - 1)) = x % 2 ^ N := by
  have h1 := p2_pos N
  have h2 : (2 : Int) ^ N ≤ 2 ^ 62 := p2_le hN
  have h3 : (2 : Int) ^ 62 = 4611686018427387904 := by decide
  obtain ⟨X, rfl⟩ := Int.eq_ofNat_of_zero_le hx.1
  rw [IntWalk.u64_in ((2 : Int) ^ N) (by omega), IntWalk.u64_in ((2 : Int) ^ N - 1) (by omega)]
  have h4 : (2 : Int) ^ N - 1 = ((2 ^ N - 1 : Nat) : Int) := by
    have h5 : ((2 ^ N : Nat) : Int) = (2 : Int) ^ N := by simp
    have h6 := Nat.two_pow_pos N
    omega
  have h6 : 2 ^ N - 1 < 18446744073709551616 := by omega
  rw [h4, u64_and_nat X (2 ^ N - 1) (by omega) h6, Nat.and_two_pow_sub_one_eq_mod]
  simp

/-- r | y<<f, r below 2^f, in 64 bits. -/
theorem or_high (r y : Int) (f n : Nat) (hr : 0 ≤ r ∧ r < 2 ^ f) (hy : 0 ≤ y ∧ y < 2 ^ n) (h : f + n ≤ 62) :
    bits BinOp.or IntKind.u64 r (IntKind.u64.wrap (y * 2 ^ f)) = r + 2 ^ f * y := by
  have h1 := p2_pos f
  have h3 : (2 : Int) ^ 62 = 4611686018427387904 := by decide
  have h2 : (2 : Int) ^ (f + n) ≤ 2 ^ 62 := p2_le h
  have h4 : y * 2 ^ f < 2 ^ (f + n) := by
    rw [Int.pow_add, Int.mul_comm]
    exact Int.mul_lt_mul_of_pos_left hy.2 h1
  have h5 : 0 ≤ y * 2 ^ f := Int.mul_nonneg hy.1 (by omega)
  have h7 : (2 : Int) ^ f ≤ 2 ^ 62 := p2_le (by omega)
  obtain ⟨R, rfl⟩ := Int.eq_ofNat_of_zero_le hr.1
  obtain ⟨Y, rfl⟩ := Int.eq_ofNat_of_zero_le hy.1
  rw [IntWalk.u64_in _ (by omega)]
  have h6 : (Y : Int) * 2 ^ f = ((Y * 2 ^ f : Nat) : Int) := by simp
  have h8 : R < 2 ^ f := by
    have : (R : Int) < ((2 ^ f : Nat) : Int) := by simpa using hr.2
    omega
  rw [h6] at h4 h5 ⊢
  rw [u64_or_nat R (Y * 2 ^ f) (by omega) (by omega), Nat.or_comm, nat_join f _ _ (by simp) h8, Int.natCast_add, Int.mul_comm (2 ^ f), ← h6]
  omega

/-- What Put makes of the bits that make no byte yet. -/
theorem put_bits (l : List Int) (x : Int) (N : Nat) (hl : Bit l) (hf : l.length < 8) (hN : N ≤ 32) (hx : 0 ≤ x ∧ x < 4294967296) :
    bits BinOp.or IntKind.u64 (val l) (IntKind.u64.wrap (bits BinOp.and IntKind.u64 x (IntKind.u64.wrap (IntKind.u64.wrap (2 ^ N) - 1)) * 2 ^ l.length)) = val (l ++ num x N) := by
  rw [and_low x N (by omega) (by omega), or_high (val l) (x % 2 ^ N) l.length N (val_bd hl) ⟨Int.emod_nonneg _ (by have := p2_pos N; omega), Int.emod_lt_of_pos _ (p2_pos N)⟩ (by omega), val_append, val_num]
end Go.Proofs.YthflefdchgpbdaaDoor.Bits

namespace Go.Proofs.YthflefdchgpbdaaDoor.Huf
open Go.RowKit Go.Proofs.YthflefdchgpbdaaDoor.Kit Go.Proofs.YthflefdchgpbdaaDoor.Bits

/-- How much of all codes a code of so many bits takes, in 32768ths. -/
def part1 (n : Int) : Int := if 0 < n then 2 ^ (15 - n.toNat) else 0
def kr : List Int → Int
  | [] => 0
  | n :: l => part1 n + kr l
def nz : List Int → Int
  | [] => 0
  | n :: l => (if 0 < n then 1 else 0) + nz l
/-- The last length above 0. -/
def lastNz (l : List Int) : Int := l.foldl (fun f n => if 0 < n then n else f) 0
def mayB (l : List Int) : Bool := decide (l.length ≤ 300) && (l.all fun n => decide (n ≤ 15)) && (decide (kr l = 32768) || (decide (nz l = 0) || (decide (nz l = 1) && decide (kr l = 16384))))

theorem kr_append : ∀ (a b : List Int), kr (a ++ b) = kr a + kr b
  | [], b => by simp [kr]
  | n :: a, b => by simp only [List.cons_append, kr, kr_append a b]; omega
theorem nz_append : ∀ (a b : List Int), nz (a ++ b) = nz a + nz b
  | [], b => by simp [nz]
  | n :: a, b => by simp only [List.cons_append, nz, nz_append a b]; omega
theorem last_snoc (a : List Int) (n : Int) : lastNz (a ++ [n]) = if 0 < n then n else lastNz a := by simp [lastNz, List.foldl_append]
theorem part1_bd (n : Int) : 0 ≤ part1 n ∧ part1 n ≤ 16384 := by
  unfold part1
  by_cases h : 0 < n
  · rw [if_pos h]
    have h1 := p2_pos (15 - n.toNat)
    have h2 : (2 : Int) ^ (15 - n.toNat) ≤ 2 ^ 14 := p2_le (by omega)
    rw [show (2 : Int) ^ 14 = 16384 by decide] at h2
    omega
  · rw [if_neg h]; omega
theorem kr_bd : ∀ (l : List Int), 0 ≤ kr l ∧ kr l ≤ 16384 * l.length
  | [] => by simp [kr]
  | n :: l => by
    have h1 := kr_bd l
    have h2 := part1_bd n
    simp only [kr, List.length_cons]
    omega
theorem nz_bd : ∀ (l : List Int), 0 ≤ nz l ∧ nz l ≤ l.length
  | [] => by simp [nz]
  | n :: l => by
    have h1 := nz_bd l
    simp only [nz, List.length_cons]
    split <;> omega
theorem last_bd (l : List Int) (h : Octets l) : 0 ≤ lastNz l ∧ lastNz l ≤ 255 := by
  have gen : ∀ (l : List Int) (f : Int), Octets l → (0 ≤ f ∧ f ≤ 255) → 0 ≤ l.foldl (fun f n => if 0 < n then n else f) f ∧ l.foldl (fun f n => if 0 < n then n else f) f ≤ 255 := by
    intro l
    induction l with
    | nil => exact fun f _ hf => hf
    | cons n l ih =>
      intro f hl hf
      refine ih _ (fun x hx => hl x (List.mem_cons_of_mem _ hx)) ?_
      have := hl n (List.mem_cons_self ..)
      by_cases hn : 0 < n <;> simp only [hn, if_true, if_false] <;> omega
  exact gen l 0 h (by omega)

/-- What the sum and the last length are where there are few. -/
def J (l : List Int) : Prop := (nz l = 0 → kr l = 0) ∧ (nz l = 1 → kr l = part1 (lastNz l) ∧ 0 < lastNz l)
theorem J_nil : J [] := ⟨fun _ => rfl, fun h => by simp [nz] at h⟩
theorem J_snoc {l : List Int} (h : J l) (n : Int) : J (l ++ [n]) := by
  have hz := nz_bd l
  unfold J at *
  rw [nz_append, kr_append, last_snoc]
  by_cases hn : 0 < n
  · simp only [nz, kr, hn, if_true]
    refine ⟨fun h0 => by omega, fun h1 => ?_⟩
    have h0 := h.1 (by omega)
    exact ⟨by omega, trivial⟩
  · have hp : part1 n = 0 := by unfold part1; rw [if_neg hn]
    simp only [nz, kr, hn, if_false, hp]
    simp only [Int.add_zero]
    exact h

theorem part1_one {f : Int} (h0 : 0 < f) (h : f ≤ 15) : part1 f = 16384 ↔ f = 1 := by
  unfold part1
  rw [if_pos h0]
  constructor
  · intro hp
    by_cases h1 : f = 1
    · exact h1
    · have h2 : (2 : Int) ^ (15 - f.toNat) ≤ 2 ^ 13 := p2_le (by omega)
      rw [show (2 : Int) ^ 13 = 8192 by decide] at h2
      omega
  · rintro rfl
    decide

/-- The program's way to say that lengths may be. -/
theorem may_first {l : List Int} (hj : J l) (hl : l.length ≤ 300) (ha : ∀ n ∈ l, n ≤ 15) (ho : Octets l) :
    mayB l = (decide (kr l = 32768) || (decide (nz l = 0) || (decide (nz l = 1) && decide (lastNz l = 1)))) := by
  have h1 : (l.all fun n => decide (n ≤ 15)) = true := List.all_eq_true.2 fun n hn => decide_eq_true (ha n hn)
  have h2 : (decide (nz l = 1) && decide (kr l = 16384)) = (decide (nz l = 1) && decide (lastNz l = 1)) := by
    by_cases hz : nz l = 1
    · obtain ⟨e, h0⟩ := hj.2 hz
      have hle : lastNz l ≤ 15 := by
        have gen : ∀ (l : List Int) (f : Int), (∀ n ∈ l, n ≤ 15) → f ≤ 15 → l.foldl (fun f n => if 0 < n then n else f) f ≤ 15 := by
          intro l
          induction l with
          | nil => exact fun f _ hf => hf
          | cons n l ih =>
            intro f hl hf
            refine ih _ (fun x hx => hl x (List.mem_cons_of_mem _ hx)) ?_
            have := hl n (List.mem_cons_self ..)
            by_cases hn : 0 < n <;> simp only [hn, if_true, if_false] <;> omega
        exact gen l 0 ha (by omega)
      have := part1_one h0 hle
      rw [e]
      simp only [hz, decide_true, Bool.true_and, decide_eq_decide]
      exact this
    · simp [hz]
  unfold mayB
  rw [h1, h2, decide_eq_true hl]
  rfl
theorem may_ref {l : List Int} (hl : l.length ≤ 300) (ha : ∀ n ∈ l, n ≤ 15) :
    mayB l = (decide (kr l = 32768) || (decide (nz l = 0) || (decide (nz l = 1) && decide (kr l = 16384)))) := by
  have h1 : (l.all fun n => decide (n ≤ 15)) = true := List.all_eq_true.2 fun n hn => decide_eq_true (ha n hn)
  unfold mayB
  rw [h1, decide_eq_true hl]
  rfl
theorem may_long {l : List Int} (hl : ¬ l.length ≤ 300) : mayB l = false := by unfold mayB; rw [decide_eq_false hl]; rfl
theorem may_great {l : List Int} {n : Int} (h : n ∈ l) (hn : 15 < n) : mayB l = false := by
  have : (l.all fun n => decide (n ≤ 15)) = false := by
    rw [List.all_eq_false]
    exact ⟨n, h, by simp; omega⟩
  unfold mayB
  rw [this]
  simp
end Go.Proofs.YthflefdchgpbdaaDoor.Huf

namespace Go.Proofs.YthflefdchgpbdaaDoor.Kit
open Go.ChangeShapes Go.WideShapes Go.ChangeAt Go.RowKit

/-- v is a slice of the call's own, at the head of a row from block B on (or nil), and reads xs. -/
def Own (w : World) (B : Nat) (e : TypeId) (k : IntKind) (v : Value) (xs : List Int) : Prop := w.ownsRow B e 1 v xs.length (xs.map (Value.int k))

/-- t is the type of slices over e, integers of kind k. -/
def IntElem (P : Program) (t e : TypeId) (k : IntKind) (bytes : Nat) : Prop :=
  P.underlying t = some (.slice e) ∧ (P.info? e).map (fun i => (i.zero, i.size, i.bytes)) = some (some (.int k 0), 1, bytes) ∧ bytes ≤ 8

section
variable {w w' : World} {B B' : Nat} {e : TypeId} {k : IntKind} {v : Value} {xs ys : List Int}

theorem ints_one (k : IntKind) (xs : List Int) : ∀ u ∈ xs.map (Value.int k), u.oneCell' = true := by
  intro u hu
  obtain ⟨n, _, rfl⟩ := List.mem_map.1 hu
  rfl

theorem get_ints {k : IntKind} {xs : List Int} {j : Nat} {u : Value} (h : (xs.map (Value.int k))[j]? = some u) : j < xs.length ∧ u = .int k (xs.getD j 0) := by
  rcases Nat.lt_or_ge j xs.length with hj | hj
  · simp [List.getElem?_eq_getElem hj] at h
    exact ⟨hj, by rw [← h]; simp [List.getD, List.getElem?_eq_getElem hj]⟩
  · simp [List.getElem?_eq_none hj] at h

theorem Own.nil (w : World) (B : Nat) (e : TypeId) (k : IntKind) : Own w B e k (.slice none 0 0) [] := World.ownsRow_nil w B e 1

theorem Own.empty (w : World) (e : TypeId) (k : IntKind) (hB : B ≤ w.heap.size) : Own (w.alloc (.cells #[] e)) B e k (.slice (some ⟨w.heap.size, 0, none⟩) 0 0) [] :=
  World.ownsRow_lit (size := 1) w #[] 0 hB (Nat.zero_le _) rfl

theorem Own.opened (h : Own w B e k v xs) : ∃ (A : Option Addr) (cap : Nat), v = .slice A xs.length cap ∧ xs.length ≤ cap ∧ cap ≤ maxLen ∧ Holds w w.heap.size k A xs := by
  rcases h.2 with ⟨rfl, h0⟩ | ⟨g, cap, cur, rfl, hb, hg, hnc, hcm, hcs, htake⟩
  · obtain rfl : xs = [] := List.eq_nil_of_length_eq_zero h0
    exact ⟨none, 0, rfl, Nat.le_refl _, Nat.zero_le _, Holds.nil⟩
  · refine ⟨some ⟨g, 0, none⟩, cap, rfl, hnc, hcm, fun _ => ⟨g, 0, rfl, (Array.getElem?_eq_some_iff.1 hg).1, fun j hj => ?_⟩⟩
    have := World.ownsRow.cellAt h j (by omega)
    rw [Nat.zero_add, this]
    simp [List.getD, List.getElem?_eq_getElem hj]

theorem Own.form (h : Own w B e k v xs) (hx : 0 < xs.length) : ∃ g cap : Nat, v = .slice (some ⟨g, 0, none⟩) xs.length cap ∧ B ≤ g ∧ g < w.heap.size ∧ xs.length ≤ cap ∧ cap ≤ maxLen := by
  rcases h.2 with ⟨rfl, h0⟩ | ⟨g, cap, cur, rfl, hb, hg, hnc, hcm, hcs, htake⟩
  · omega
  · exact ⟨g, cap, rfl, hb, (Array.getElem?_eq_some_iff.1 hg).1, hnc, hcm⟩

theorem Own.kept {row : Option Nat} (h : Own w B e k v xs) (hg : w.grownBy w' row) (hne : v.ownBlock = none ∨ v.ownBlock ≠ row) : Own w' B e k v xs := World.ownsRow.kept h hg hne
theorem Own.alloc (h : Own w B e k v xs) (o : Obj) : Own (w.alloc o) B e k v xs := World.ownsRow.alloc h o
theorem Own.drewN (h : Own w B e k v xs) (n : Nat) : Own (w.drewN n) B e k v xs := h
theorem Own.mono (h : Own w B e k v xs) (hb : B' ≤ B) : Own w B' e k v xs := by
  rcases h.2 with ⟨rfl, h0⟩ | ⟨g, cap, cur, rfl, hbg, hrest⟩
  · exact ⟨h.1, .inl ⟨rfl, h0⟩⟩
  · exact ⟨h.1, .inr ⟨g, cap, cur, rfl, by omega, hrest⟩⟩
theorem Own.lt (h : Own w B e k v xs) : ∀ g, v.ownBlock = some g → B ≤ g ∧ g < w.heap.size := World.ownsRow.lt h

/-- v[i] = z, v a row of the call's own. -/
theorem Own.stored {g cap n : Nat} (h : Own w B e k (.slice (some ⟨g, 0, none⟩) n cap) xs) (hn : n = xs.length) (i : Nat) (z : Int) :
    Own (w.setCell ⟨g, i, none⟩ (.int k z)) B e k (.slice (some ⟨g, 0, none⟩) n cap) (xs.set i z) ∧ w.grownBy (w.setCell ⟨g, i, none⟩ (.int k z)) (some g) := by
  subst hn
  obtain ⟨h1, h2⟩ := World.ownsRow.stored h i (.int k z)
  refine ⟨?_, h2⟩
  unfold Own
  rw [List.length_set, List.map_set]
  exact h1

theorem Own.cellAt {g cap n : Nat} (h : Own w B e k (.slice (some ⟨g, 0, none⟩) n cap) xs) (hn : n = xs.length) {i : Nat} (hi : i < xs.length) : w.cell? ⟨g, i, none⟩ = some (.int k (xs[i]?.getD 0)) := by
  subst hn
  rw [World.ownsRow.cellAt h i (by omega)]
  simp [List.getElem?_eq_getElem hi]

theorem Own.frozenAt {g cap n : Nat} (h : Own w B e k (.slice (some ⟨g, 0, none⟩) n cap) xs) (hn : n = xs.length) (i : Nat) : w.frozen? ⟨g, i, none⟩ = false := by
  subst hn
  exact World.ownsRow.frozenAt h i

theorem Own.below (h : Own w B e k v xs) (hb : Below w.heap.size w w') : Own w' B e k v xs := by
  refine h.kept (row := none) ⟨hb.os, hb.tape, hb.output, hb.size, fun g hg _ => hb.block g hg⟩ ?_
  cases hv : v.ownBlock with
  | none => exact .inl rfl
  | some g => exact .inr (by simp)

/-- Kept where all that turns lies from another row's base on. -/
theorem Own.under {C : Nat} (h : Own w B e k v xs) (hb : Below C w w') (hv : ∀ g, v.ownBlock = some g → g < C) : Own w' B e k v xs := by
  rcases h.2 with ⟨rfl, h0⟩ | ⟨g, cap, cur, rfl, hbg, hg, hnc, hcm, hcs, htake⟩
  · exact ⟨h.1, .inl ⟨rfl, h0⟩⟩
  · exact ⟨h.1, .inr ⟨g, cap, cur, rfl, hbg, (hb.block g (hv g rfl)).trans hg, hnc, hcm, hcs, htake⟩⟩

/-- Block g is just these cells of type t, none of them frozen. -/
def Block (w : World) (g : Nat) (t : TypeId) (cs : Array Value) : Prop := w.heap[g]? = some (.cells cs t (0, 0))

theorem Block.new (w : World) (t : TypeId) (cs : Array Value) : Block (w.alloc (.cells cs t)) w.heap.size t cs := heap_alloc_new w _
theorem Block.lt {g : Nat} {t : TypeId} {cs : Array Value} (h : Block w g t cs) : g < w.heap.size := (Array.getElem?_eq_some_iff.1 h).1
theorem Block.cell {g : Nat} {t : TypeId} {cs : Array Value} (h : Block w g t cs) (i : Nat) : w.cell? ⟨g, i, none⟩ = cs[i]? := cell_of_row w g i cs t (0, 0) h
theorem Block.frozen {g : Nat} {t : TypeId} {cs : Array Value} (h : Block w g t cs) (i : Nat) : w.frozen? ⟨g, i, none⟩ = false := frozen_of_row w g i cs t h
theorem Block.below {g : Nat} {t : TypeId} {cs : Array Value} (h : Block w g t cs) (hb : Below B w w') (hg : g < B) : Block w' g t cs := (hb.block g hg).trans h
theorem Block.grown {g : Nat} {t : TypeId} {cs : Array Value} {row : Option Nat} (h : Block w g t cs) (hb : w.grownBy w' row) (hg : row ≠ some g) : Block w' g t cs := (hb.block g h.lt (Ne.symm hg)).trans h
theorem Block.alloc {g : Nat} {t : TypeId} {cs : Array Value} (h : Block w g t cs) (o : Obj) : Block (w.alloc o) g t cs := (Below.heap_alloc w o g h.lt).trans h
theorem Block.drewN {g : Nat} {t : TypeId} {cs : Array Value} (h : Block w g t cs) (n : Nat) : Block (w.drewN n) g t cs := h
theorem Block.set_ {g : Nat} {t : TypeId} {cs : Array Value} (h : Block w g t cs) (i : Nat) (u : Value) : Block (w.setCell ⟨g, i, none⟩ u) g t (cs.setIfInBounds i u) := heap_setCell_same w g i cs t u h
theorem Block.far {g : Nat} {t : TypeId} {cs : Array Value} (h : Block w g t cs) {p : Addr} (hp : g ≠ p.block) (u : Value) : Block (w.setCell p u) g t cs := (Below.heap_setCell w p u g hp).trans h

/-- Rows of different types of elements never share a block. -/
theorem Own.ne_block {g : Nat} {t : TypeId} {cs : Array Value} (h : Own w B e k v xs) (hg : Block w g t cs) (hne : e ≠ t) : v.ownBlock ≠ some g := by
  rcases h.2 with ⟨rfl, _⟩ | ⟨g', cap, cur, rfl, _, hh, _⟩
  · simp [Value.ownBlock]
  · intro he
    obtain rfl : g' = g := by simpa [Value.ownBlock] using he
    unfold Block at hg
    rw [hh] at hg
    injection hg with hg
    injection hg with _ ht
    exact hne ht

theorem below_of_grown {row : Option Nat} (hg : w.grownBy w' row) (hB : B ≤ w.heap.size) (hr : ∀ g, row = some g → B ≤ g) : Below B w w' := (Below.refl B w).grown hg hB hr
end

section
variable {P : Program} (w : World)

theorem run_append_no_source (t ty e : TypeId) (i : TypeInfo) (ht : P.underlying t = some (.slice e)) (hi : P.info? e = some i) {B size : Nat}
    (v : Value) (n : Nat) (xs : List Value) (hown : w.ownsRow B e size v n xs) (c : Nat) : (Builtin.append_ #[t, t] ty #[v, .slice none 0 c]).run P w = .ok v w := by
  rcases hown.2 with ⟨rfl, _⟩ | ⟨g, cap, cur, rfl, _, _, hnc, _⟩
  · simp [Builtin.append_, run_underlying ht, sizeOf, typeInfo, hi, Builtin.lenOf, Builtin.firstCells]
  · simp [Builtin.append_, run_underlying ht, sizeOf, typeInfo, hi, Builtin.lenOf, Builtin.firstCells, hnc, storeCells]

theorem run_append_ints {t ty e : TypeId} {k : IntKind} {bytes : Nat} (he : IntElem P t e k bytes) {B B' : Nat} {v : Value} {xs ys : List Int} (hown : Own w B e k v xs)
    {A : Option Addr} (c : Nat) (hr : Holds w B' k A ys) (hsz : xs.length + ys.length ≤ 1099511627776) (hbase : B ≤ w.heap.size) :
    ∃ v' w', (Builtin.append_ #[t, t] ty #[v, .slice A ys.length c]).run P w = .ok v' w' ∧ Own w' B e k v' (xs ++ ys) ∧ w.grownBy w' v.ownBlock ∧
      (v'.ownBlock = v.ownBlock ∨ v'.ownBlock = some w.heap.size) := by
  obtain ⟨ht, hinfo, hb8⟩ := he
  obtain ⟨i, hi, hz, hs, hby⟩ := info_parts hinfo
  cases A with
  | none =>
    have h0 : ys = [] := by
      rcases Nat.eq_zero_or_pos ys.length with h | h
      · exact List.eq_nil_of_length_eq_zero h
      · obtain ⟨_, _, h', _⟩ := hr h
        cases h'
    subst h0
    exact ⟨v, w, run_append_no_source w t ty e i ht hi v _ _ hown c, by simpa using hown, World.grownBy.refl w _, .inl rfl⟩
  | some ad =>
    have hcells : ∀ j u, (ys.map (Value.int k))[j]? = some u → w.cell? (ad.add j) = some u := by
      intro j u hu
      obtain ⟨hj, rfl⟩ := get_ints hu
      obtain ⟨b, off, h', _, hc⟩ := hr (by omega)
      injection h' with h'
      subst h'
      rw [add_plain]
      exact hc j hj
    have hmul : (xs.length + ys.length) * bytes ≤ (xs.length + ys.length) * 8 := Nat.mul_le_mul_left _ hb8
    obtain ⟨v', w', hrun, h2, h3, _, h5⟩ := run_append_own_at (P := P) w B t ty e i (.int k 0) 1 bytes ht hi hz hs hby rfl (by omega) v xs.length (xs.map (Value.int k)) hown
      ad ys.length c (ys.map (Value.int k)) (by simp) hcells (ints_one k ys) (by unfold maxLen; omega) (by omega) hbase
    exact ⟨v', w', hrun, by simpa [Own] using h2, h3, h5⟩

/-- append(v, ys...): v a row of the call's own, ys any slice of the same integers. -/
theorem wpList_append_ints {ops : Array Oper} {rest : List Oper} {o : Oper} {a : Act} {Q : Exit → Act → World → Prop} (hgd : o.guard = none) (s x : Operand) (t : TypeId)
    (ho : o.op = .call { callee := .builtin .append, args := #[s, x], argTypes := #[t, t] }) {e : TypeId} {k : IntKind} {bytes : Nat} (he : IntElem P t e k bytes)
    {B B' : Nat} {v : Value} {xs ys : List Int} (hown : Own w B e k v xs) (hs : a.eval s = v)
    {A : Option Addr} {c : Nat} (hx : a.eval x = .slice A ys.length c) (hr : Holds w B' k A ys) (hsz : xs.length + ys.length ≤ 1099511627776) (hbase : B ≤ w.heap.size)
    (h : ∀ v' w', Own w' B e k v' (xs ++ ys) → w.grownBy w' v.ownBlock → Below B w w' → (v'.ownBlock = v.ownBlock ∨ v'.ownBlock = some w.heap.size) → wpList P ops Q rest (a.put o.dst v') w') :
    wpList P ops Q (o :: rest) a w := by
  refine wpList_plain hgd fun K hK => ?_
  obtain ⟨v', w', hrun, h2, h3, h4⟩ := run_append_ints (P := P) w (ty := o.type) he hown c hr hsz hbase
  unfold Oper.wp
  simp only [execOp, ho, resolve, invoke, builtin, Sem.run_bind, Sem.run_pure, Result.andThen_ok, List.map_toArray, List.map_cons, List.map_nil, hs, hx, hrun]
  exact hK _ _ (h v' w' h2 h3 (below_of_grown h3 hbase fun g hg => (hown.lt g hg).1) h4)

theorem Holds.new (w : World) (k : IntKind) (z : Int) (e : TypeId) : Holds (w.alloc (.cells #[.int k z] e)) (w.heap.size + 1) k (some ⟨w.heap.size, 0, none⟩) [z] := by
  intro _
  refine ⟨w.heap.size, 0, rfl, by omega, fun j hj => ?_⟩
  obtain rfl : j = 0 := by simpa using hj
  exact cell_of_row (w.alloc (.cells #[.int k z] e)) w.heap.size 0 #[.int k z] e (0, 0) (heap_alloc_new w _)

/-- append(v, z): v a row of the call's own; z lies alone in the newest block. -/
theorem wpList_append_one {ops : Array Oper} {rest : List Oper} {o : Oper} {a : Act} {Q : Exit → Act → World → Prop} (hgd : o.guard = none) (s x : Operand) (t : TypeId)
    (ho : o.op = .call { callee := .builtin .append, args := #[s, x], argTypes := #[t, t] }) {e : TypeId} {k : IntKind} {bytes : Nat} (he : IntElem P t e k bytes)
    {B : Nat} {v : Value} {xs : List Int} (hown : Own w B e k v xs) (hs : a.eval s = v)
    {z : Int} {c : Nat} (hx : a.eval x = .slice (some ⟨w.heap.size, 0, none⟩) 1 c) (hsz : xs.length + 1 ≤ 1099511627776) (hbase : B ≤ w.heap.size)
    (h : ∀ v' w', Own w' B e k v' (xs ++ [z]) → (w.alloc (.cells #[.int k z] e)).grownBy w' v.ownBlock → Below B w w' → wpList P ops Q rest (a.put o.dst v') w') :
    wpList P ops Q (o :: rest) a (w.alloc (.cells #[.int k z] e)) := by
  refine wpList_append_ints (ys := [z]) (B' := w.heap.size + 1) _ hgd s x t ho he (hown.alloc _) hs hx (Holds.new w k z e) (by simpa using hsz) (by simp; omega) ?_
  intro v' w' h1 h2 h3 _
  exact h v' w' h1 h2 (((Below.refl B w).alloc hbase _).trans h3)

/-- make([]T, n, m), both variables. -/
theorem wpList_make_ints {ops : Array Oper} {rest : List Oper} {o : Oper} {a : Act} {Q : Exit → Act → World → Prop} (hgd : o.guard = none) (l c : Operand) (t : TypeId)
    (ho : o.op = Op.makeSlice t l c) {e : TypeId} {k : IntKind} {bytes : Nat} (he : IntElem P t e k bytes) {kl kc : IntKind} {L C : Int} (n m : Nat)
    (hl : a.eval l = .int kl L) (hc : a.eval c = .int kc C) (hL : L = (n : Int)) (hC : C = (m : Int)) (hnm : n ≤ m) (hsz : m ≤ 1099511627776)
    (h : ∀ w', Own w' w.heap.size e k (.slice (some ⟨w.heap.size, 0, none⟩) n m) (List.replicate n 0) → Below w.heap.size w w' → w.heap.size < w'.heap.size →
      wpList P ops Q rest (a.put o.dst (.slice (some ⟨w.heap.size, 0, none⟩) n m)) w') :
    wpList P ops Q (o :: rest) a w := by
  obtain ⟨ht, hinfo, hb8⟩ := he
  obtain ⟨i, hi, hz, hs, hby⟩ := info_parts hinfo
  subst hL; subst hC
  refine wpList_plain hgd fun K hK => ?_
  have hmul : m * bytes ≤ m * 8 := Nat.mul_le_mul_left _ hb8
  have hmul2 : (bytes : Int) * (m : Int) = ((m * bytes : Nat) : Int) := by push_cast; rw [Int.mul_comm]
  have hrun := run_make (P := P) w t e i (.int k 0) ht hi hz kl kc n m (by omega) (by omega) (by rw [hby, hmul2]; omega) (by omega)
  unfold Oper.wp
  simp [execOp, ho, hl, hc, hrun, Result.andThen]
  refine hK _ _ ?_
  have hcells : (madeCells (Value.int k 0).cells ((m : Int).toNat * i.size)) = (List.replicate m (Value.int k 0)).toArray := by
    apply Array.toList_inj.1
    rw [hs, show (Value.int k 0).cells = #[Value.int k 0] from rfl, toList_madeCells_one]
    simp
  rw [Int.toNat_natCast] at hcells
  rw [hcells]
  refine h _ ⟨by simp, .inr ⟨w.heap.size, m, _, by simp, Nat.le_refl _, heap_alloc_new w _, by simpa using hnm, by unfold maxLen; omega, by simp, ?_⟩⟩ ((Below.refl _ _).alloc (Nat.le_refl _) _) (by simp)
  simp [Nat.min_eq_left hnm]

/-- copy(v, ys): v a row of the call's own, whole; ys any slice of the same integers, no longer than v. -/
theorem wpList_copy_ints {ops : Array Oper} {rest : List Oper} {o : Oper} {a : Act} {Q : Exit → Act → World → Prop} (hgd : o.guard = none) (d s : Operand) (t : TypeId)
    (ho : o.op = .call { callee := .builtin .copy, args := #[d, s], argTypes := #[t, t] }) {e : TypeId} {k : IntKind} {bytes : Nat} (he : IntElem P t e k bytes)
    {B B' : Nat} {v : Value} {xs ys : List Int} (hown : Own w B e k v xs) (hd : a.eval d = v) {A : Option Addr} {c : Nat} (hs : a.eval s = .slice A ys.length c) (hr : Holds w B' k A ys)
    (hle : ys.length ≤ xs.length) (hbase : B ≤ w.heap.size)
    (h : ∀ w', Own w' B e k v (ys ++ xs.drop ys.length) → w.grownBy w' v.ownBlock → Below B w w' → wpList P ops Q rest (a.put o.dst (goInt ys.length)) w') :
    wpList P ops Q (o :: rest) a w := by
  obtain ⟨ht, hinfo, hb8⟩ := he
  obtain ⟨i, hi, hz, hsi, hby⟩ := info_parts hinfo
  have hsz : (P.info? e).map (·.size) = some 1 := by rw [hi]; simp [hsi]
  rcases Nat.eq_zero_or_pos ys.length with h0 | h0
  · obtain rfl : ys = [] := List.eq_nil_of_length_eq_zero h0
    obtain ⟨A', cap', rfl, _⟩ := hown.opened
    refine wpList_copy_nothing hgd d s t t ho e ht hsz _ _ _ _ _ _ hd hs (by simp) ?_
    exact h w (by simpa using hown) (World.grownBy.refl w _) (Below.refl _ _)
  · obtain ⟨b, off, rfl, hb, hc⟩ := hr h0
    have hxl : xs.length ≠ 0 := by omega
    rcases hown.2 with ⟨rfl, h1⟩ | ⟨g, cap, cur, rfl, hbg, hg, hnc, hcm, hcs, htake⟩
    · omega
    · refine wpList_copy_own hgd d s t t ho e ht hsz g 0 xs.length cap ⟨b, off, none⟩ ys.length c hd hs cur e hg (ys.map (Value.int k)) (by simp [Nat.min_eq_left hle]) ?_ (by simp; omega) (ints_one k ys) ?_
      · intro j u hu
        obtain ⟨hj, rfl⟩ := get_ints hu
        rw [add_plain]
        exact hc j hj
      · have hlen : (ys ++ xs.drop ys.length).length = xs.length := by simp; omega
        have hgrown : w.grownBy (w.setRow g (cur.toList.take 0 ++ (ys.map (Value.int k) ++ cur.toList.drop (0 + (ys.map (Value.int k)).length))).toArray) (some g) :=
          ⟨rfl, rfl, rfl, by simp [World.setRow], fun j _ hj => setRow_other w g j _ (fun e => hj (by rw [e]))⟩
        rw [show goInt (ys.map (Value.int k)).length = goInt ys.length by simp]
        refine h _ ?_ hgrown (below_of_grown hgrown hbase fun g' hg' => by simp at hg'; omega)
        refine ⟨by simp, .inr ⟨g, cap, _, by rw [hlen], hbg, setRow_heap w g _ _ e _ hg, by omega, hcm, ?_, ?_⟩⟩
        · simp; omega
        · rw [hlen]
          simp only [Nat.mul_one] at htake ⊢
          simp only [List.take_zero, List.nil_append, Nat.zero_add, List.length_map, List.map_append, List.map_drop]
          rw [List.take_append, List.length_map, List.take_of_length_le (by simp; omega), ← htake, List.drop_take]
end
end Go.Proofs.YthflefdchgpbdaaDoor.Kit

namespace Go.Proofs.YthflefdchgpbdaaDoor.Kit
open Go.ChangeShapes Go.WideShapes Go.ChangeAt Go.RowKit

/-- From w to w' nothing has turned but blocks in S and new ones. -/
structure TurnsIn (S : Nat → Prop) (w w' : World) : Prop where
  os : w'.os = w.os
  tape : w'.tape = w.tape
  output : w'.output = w.output
  size : w.heap.size ≤ w'.heap.size
  block : ∀ b, b < w.heap.size → ¬ S b → w'.heap[b]? = w.heap[b]?

section
variable {S T : Nat → Prop} {w w' w1 w2 : World} {B : Nat} {e : TypeId} {k : IntKind} {v : Value} {xs : List Int}

theorem TurnsIn.refl (S : Nat → Prop) (w : World) : TurnsIn S w w := ⟨rfl, rfl, rfl, Nat.le_refl _, fun _ _ _ => rfl⟩
theorem TurnsIn.trans (h : TurnsIn S w w1) (g : TurnsIn S w1 w2) : TurnsIn S w w2 :=
  ⟨g.os.trans h.os, g.tape.trans h.tape, g.output.trans h.output, Nat.le_trans h.size g.size, fun b hb hs => (g.block b (Nat.lt_of_lt_of_le hb h.size) hs).trans (h.block b hb hs)⟩
/-- The second step may turn what is new in the first one, too. -/
theorem TurnsIn.then_ (h : TurnsIn S w w1) (g : TurnsIn T w1 w2) (hT : ∀ b, b < w.heap.size → T b → S b) : TurnsIn S w w2 :=
  ⟨g.os.trans h.os, g.tape.trans h.tape, g.output.trans h.output, Nat.le_trans h.size g.size, fun b hb hs => (g.block b (Nat.lt_of_lt_of_le hb h.size) (fun ht => hs (hT b hb ht))).trans (h.block b hb hs)⟩
theorem TurnsIn.mono (h : TurnsIn S w w') (hT : ∀ b, b < w.heap.size → S b → T b) : TurnsIn T w w' := ⟨h.os, h.tape, h.output, h.size, fun b hb hs => h.block b hb (fun hx => hs (hT b hb hx))⟩
theorem TurnsIn.ofBelow (h : Below B w w') (hs : ∀ b, b < w.heap.size → B ≤ b → S b) : TurnsIn S w w' :=
  ⟨h.os, h.tape, h.output, h.size, fun b hb hn => h.block b (Nat.lt_of_not_le fun hle => hn (hs b hb hle))⟩
theorem TurnsIn.ofNew (h : Below w.heap.size w w') : TurnsIn S w w' := .ofBelow h fun b hb hle => absurd hb (by omega)
theorem TurnsIn.ofGrown {row : Option Nat} (h : w.grownBy w' row) (hs : ∀ b, row = some b → S b) : TurnsIn S w w' :=
  ⟨h.os, h.tape, h.output, h.size, fun b hb hn => h.block b hb fun he => hn (hs b he.symm)⟩
theorem TurnsIn.toBelow (h : TurnsIn S w w') (hB : B ≤ w.heap.size) (hs : ∀ b, b < B → ¬ S b) : Below B w w' :=
  ⟨h.os, h.tape, h.output, h.size, fun b hb => h.block b (by omega) (hs b hb)⟩
theorem TurnsIn.drewN (h : TurnsIn S w w') (n : Nat) : TurnsIn S w (w'.drewN n) := ⟨h.os, h.tape, h.output, h.size, h.block⟩
theorem TurnsIn.alloc (h : TurnsIn S w w') (o : Obj) : TurnsIn S w (w'.alloc o) :=
  ⟨h.os, h.tape, h.output, Nat.le_trans h.size (by simp), fun b hb hn => (Below.heap_alloc w' o b (Nat.lt_of_lt_of_le hb h.size)).trans (h.block b hb hn)⟩
theorem TurnsIn.setCell (h : TurnsIn S w w') {p : Addr} (hp : S p.block ∨ w.heap.size ≤ p.block) (u : Value) : TurnsIn S w (w'.setCell p u) :=
  ⟨h.os, h.tape, h.output, by simpa [World.setCell] using h.size, fun b hb hn => (Below.heap_setCell w' p u b (by
    rintro rfl
    rcases hp with hp | hp
    · exact hn hp
    · omega)).trans (h.block b hb hn)⟩

theorem Own.out (h : Own w B e k v xs) (ho : TurnsIn S w w') (hv : ∀ g, v.ownBlock = some g → ¬ S g) : Own w' B e k v xs := by
  rcases h.2 with ⟨rfl, h0⟩ | ⟨g, cap, cur, rfl, hbg, hg, hnc, hcm, hcs, htake⟩
  · exact ⟨h.1, .inl ⟨rfl, h0⟩⟩
  · exact ⟨h.1, .inr ⟨g, cap, cur, rfl, hbg, (ho.block g (Array.getElem?_eq_some_iff.1 hg).1 (hv g rfl)).trans hg, hnc, hcm, hcs, htake⟩⟩
theorem Block.out {g : Nat} {t : TypeId} {cs : Array Value} (h : Block w g t cs) (ho : TurnsIn S w w') (hg : ¬ S g) : Block w' g t cs := (ho.block g h.lt hg).trans h
theorem Holds.out {A : Option Addr} (h : Holds w B k A xs) (ho : TurnsIn S w w') (hB : B ≤ w.heap.size) (hs : ∀ b, b < B → ¬ S b) : Holds w' B k A xs := h.below (ho.toBelow hB hs)

/-- What turned keeps a block's kind of row: a row that grew lies where it lay, or is new. -/
def Newer (w : World) (v v' : Value) : Prop := v'.ownBlock = v.ownBlock ∨ ∀ g, v'.ownBlock = some g → w.heap.size ≤ g
theorem Newer.refl (w : World) (v : Value) : Newer w v v := .inl rfl
theorem Newer.trans {v1 v2 : Value} (h : Newer w v v1) (hs : w.heap.size ≤ w1.heap.size) (g : Newer w1 v1 v2) : Newer w v v2 := by
  rcases g with g | g
  · rcases h with h | h
    · exact .inl (g.trans h)
    · exact .inr fun x hx => h x (g ▸ hx)
  · exact .inr fun x hx => Nat.le_trans hs (g x hx)
theorem Newer.ofApp {v' : Value} (h : v'.ownBlock = v.ownBlock ∨ v'.ownBlock = some w.heap.size) : Newer w v v' := by
  rcases h with h | h
  · exact .inl h
  · exact .inr fun g hg => by rw [h] at hg; injection hg with hg; omega
/-- A row of one's own that lies apart from another one stays apart. -/
theorem Newer.apart {v' u : Value} {g : Nat} (h : Newer w v v') (hu : u.ownBlock = some g) (hl : g < w.heap.size) (hn : v.ownBlock ≠ some g) : v'.ownBlock ≠ some g := by
  rcases h with h | h
  · rw [h]; exact hn
  · intro he; have := h g he; omega
end

/-- append(v, ys...), as one step of a region that draws its order. -/
theorem step_append_ints {P : Program} {ops : Array Oper} {o : Oper} {a : Act} {w : World} {K : Act → World → Prop} {Q : Exit → Act → World → Prop} {E : Prop}
    (hg : o.guard = none) (s x : Operand) (t : TypeId) (ho : o.op = Op.call { callee := Callee.builtin Builtin.append, args := #[s, x], argTypes := #[t, t] })
    {e : TypeId} {k : IntKind} {bytes : Nat} (he : IntElem P t e k bytes) {B B' : Nat} {v : Value} {xs ys : List Int} (hown : Own w B e k v xs) (hs : a.eval s = v)
    {A : Option Addr} {c : Nat} (hx : a.eval x = .slice A ys.length c) (hr : Holds w B' k A ys) (hsz : xs.length + ys.length ≤ 1099511627776) (hbase : B ≤ w.heap.size)
    (hK : ∀ v' w', Own w' B e k v' (xs ++ ys) → w.grownBy w' v.ownBlock → Below B w w' → (v'.ownBlock = v.ownBlock ∨ v'.ownBlock = some w.heap.size) → K (a.put o.dst v') w') :
    if Region.wanted o (yielded ops a.tmps) = true then Oper.wp P o a w K Q else E := by
  have hw : Region.wanted o (yielded ops a.tmps) = true := by simp [Region.wanted, hg]
  rw [if_pos hw]
  obtain ⟨v', w', hrun, h2, h3, h4⟩ := run_append_ints (P := P) w (ty := o.type) he hown c hr hsz hbase
  unfold Oper.wp
  simp [execOp, ho, resolve, invoke, builtin, hs, hx, hrun, Result.andThen]
  exact hK _ _ h2 h3 (below_of_grown h3 hbase fun g hg => (hown.lt g hg).1) h4

/-- append(v, z), z alone in the newest block, as one step of a region that draws its order; a block of other cells stays as it is. -/
theorem step_append_one {P : Program} {ops : Array Oper} {o : Oper} {a : Act} {w : World} {K : Act → World → Prop} {Q : Exit → Act → World → Prop} {E : Prop}
    (hg : o.guard = none) (s x : Operand) (t : TypeId) (ho : o.op = Op.call { callee := Callee.builtin Builtin.append, args := #[s, x], argTypes := #[t, t] })
    {e : TypeId} {k : IntKind} {bytes : Nat} (he : IntElem P t e k bytes) {B : Nat} {v : Value} {xs : List Int} {z : Int} (hown : Own w B e k v xs) (hs : a.eval s = v)
    {c : Nat} (hx : a.eval x = .slice (some ⟨w.heap.size, 0, none⟩) 1 c) (hsz : xs.length + 1 ≤ 1099511627776) (hbase : B ≤ w.heap.size)
    {g : Nat} {tg : TypeId} {cs : Array Value} (hblk : Block w g tg cs) (hne : e ≠ tg)
    (hK : ∀ A' c' w', Own w' B e k (.slice A' (xs.length + 1) c') (xs ++ [z]) → TurnsIn (fun b => v.ownBlock = some b) w w' → Newer w v (.slice A' (xs.length + 1) c') → Block w' g tg cs → K (a.put o.dst (.slice A' (xs.length + 1) c')) w') :
    if Region.wanted o (yielded ops a.tmps) = true then Oper.wp P o a (w.alloc (.cells #[.int k z] e)) K Q else E := by
  refine step_append_ints (ys := [z]) hg s x t ho he (hown.alloc _) hs hx (Holds.new w k z e) (by simpa using hsz) (by simp; omega) ?_
  intro v' w' h1 h2 h3 h4
  obtain ⟨A', c', rfl, _, _, _⟩ := h1.opened
  have hlen : (xs ++ [z]).length = xs.length + 1 := by simp
  have hk := hK A' c' w'
  rw [hlen] at h1 h4
  rw [hlen]
  refine hk h1 (((TurnsIn.refl _ w).alloc _).trans (.ofGrown h2 fun b hb => hb)) ?_ ((hblk.alloc _).grown h2 (hown.ne_block hblk hne))
  rcases h4 with h4 | h4
  · exact .inl h4
  · exact .inr fun g hg => by rw [h4] at hg; simp at hg; omega

/-- The same behind the region's draw. -/
theorem step_append_one_drew {P : Program} {ops : Array Oper} {o : Oper} {a : Act} {w : World} {K : Act → World → Prop} {Q : Exit → Act → World → Prop} {E : Prop}
    (hg : o.guard = none) (s x : Operand) (t : TypeId) (ho : o.op = Op.call { callee := Callee.builtin Builtin.append, args := #[s, x], argTypes := #[t, t] })
    {e : TypeId} {k : IntKind} {bytes : Nat} (he : IntElem P t e k bytes) {B : Nat} {v : Value} {xs : List Int} {z : Int} (hown : Own w B e k v xs) (hs : a.eval s = v)
    {c : Nat} (hx : a.eval x = .slice (some ⟨w.heap.size, 0, none⟩) 1 c) (hsz : xs.length + 1 ≤ 1099511627776) (hbase : B ≤ w.heap.size)
    {g : Nat} {tg : TypeId} {cs : Array Value} (hblk : Block w g tg cs) (hne : e ≠ tg)
    (hK : ∀ A' c' w', Own w' B e k (.slice A' (xs.length + 1) c') (xs ++ [z]) → TurnsIn (fun b => v.ownBlock = some b) w w' → Newer w v (.slice A' (xs.length + 1) c') → Block w' g tg cs → K (a.put o.dst (.slice A' (xs.length + 1) c')) w') :
    if Region.wanted o (yielded ops a.tmps) = true then Oper.wp P o a (w.alloc (.cells #[.int k z] e)).drew K Q else E := by
  have h := step_append_one (E := E) (K := K) (Q := Q) (ops := ops) (w := w.drew) (z := z) hg s x t ho he (by exact hown) hs hx hsz hbase (by exact hblk) hne
    (fun A' c' w' h1 h2 h3 h4 => hK A' c' w' h1 ⟨h2.os, h2.tape, h2.output, h2.size, h2.block⟩ h3 h4)
  exact h
end Go.Proofs.YthflefdchgpbdaaDoor.Kit

namespace Go.Proofs.YthflefdchgpbdaaDoor.Bits
open Go.ChangeShapes Go.WideShapes Go.ChangeAt Go.RowKit Go.Proofs.YthflefdchgpbdaaDoor.Kit

theorem left_nil (w : World) : Calls Tryd.prog 36 #[.pointer none] w fun e w' => e = .returned (.int .i64 0) ∧ w' = w := by
  go_enter Tryd.func36, Tryd.ntmps36
  go_wp2
  go_ret
  exact ⟨rfl, rfl⟩

theorem at_nil (w : World) : Calls Tryd.prog 22 #[.pointer none] w fun e w' => e = .returned (.int .i64 0) ∧ w' = w := by
  go_enter Tryd.func22, Tryd.ntmps22
  go_wp2
  go_ret
  exact ⟨rfl, rfl⟩

theorem seek_nil (n : Int) (w : World) : Calls Tryd.prog 20 #[.pointer none, .int .i64 n] w fun e w' => e = .returned (.int .i64 1) ∧ w' = w := by
  go_enter Tryd.func20, Tryd.ntmps20
  go_wp2
  go_ret
  exact ⟨rfl, rfl⟩

theorem get_nil (n : Int) (w : World) : Calls Tryd.prog 58 #[.pointer none, .int .i64 n] w fun e w' => e = .returned (.tuple #[.int .u32 0, .int .i64 1]) ∧ w' = w := by
  go_enter Tryd.func58, Tryd.ntmps58
  go_wp2
  go_ret2
  exact ⟨rfl, rfl⟩

theorem ralign_nil (w : World) : Calls Tryd.prog 34 #[.pointer none] w fun e w' => e = .returned (.tuple #[]) ∧ w' = w := by
  go_enter Tryd.func34, Tryd.ntmps34
  go_wp2
  go_end0
  exact ⟨rfl, rfl⟩

theorem rraw_nil (n : Int) (w : World) : Calls Tryd.prog 47 #[.pointer none, .int .i64 n] w fun e w' => e = .returned (.tuple #[.slice none 0 0, .int .i64 1]) ∧ w' = w := by
  have G := Lib.hid ralign_nil
  go_enter Tryd.func47, Tryd.ntmps47
  go_wp2_with (go_at_call 34; refine (G.out _).mono ?_; rintro e w1 ⟨rfl, rfl⟩)
  go_ret2
  exact ⟨rfl, rfl⟩

end Go.Proofs.YthflefdchgpbdaaDoor.Bits

namespace Go.Proofs.YthflefdchgpbdaaDoor.Bits
open Go.ChangeShapes Go.WideShapes Go.ChangeAt Go.RowKit Go.Proofs.YthflefdchgpbdaaDoor.Kit

theorem elem8 : IntElem Tryd.prog 22 5 .u8 1 := ⟨Tryd.underlying22, by kernel_rfl, by omega⟩

/-- How many bits count: from 0 to 32. -/
def clampN (n : Int) : Nat := if n < 0 then 0 else if 32 < n then 32 else n.toNat

theorem clamp_le (n : Int) : clampN n ≤ 32 := by
  unfold clampN
  by_cases h : n < 0
  · rw [if_pos h]; omega
  · rw [if_neg h]
    by_cases h' : 32 < n
    · rw [if_pos h']; omega
    · rw [if_neg h']; omega
theorem clamp_eq (n : Int) : (if 32 < (if n < 0 then 0 else n) then 32 else (if n < 0 then 0 else n)) = ((clampN n : Nat) : Int) := by
  unfold clampN
  by_cases h : n < 0
  · rw [if_pos h, if_pos h]; rfl
  · rw [if_neg h, if_neg h]
    by_cases h' : 32 < n
    · rw [if_pos h', if_pos h']; rfl
    · rw [if_neg h', if_neg h']; omega

def foot (g : Nat) (v : Value) : Nat → Prop := fun b => b = g ∨ v.ownBlock = some b

theorem new_foot {w : World} {v v' : Value} {g b : Nat} (h : Newer w v v') (hb : b < w.heap.size) (he : v'.ownBlock = some b) : foot g v b := by
  rcases h with h | h
  · exact .inr (h ▸ he)
  · have := h b he
    omega

theorem wrap_low {l : List Int} (hb : Bit l) : IntKind.u8.wrap (val l) = val (l.take 8) := by
  rw [IntKind.wrap_u8]
  rcases Nat.le_total 8 l.length with h | h
  · exact (val_mod hb 8 h).1
  · rw [List.take_of_length_le h]
    exact val_mod_small hb 8 h

end Go.Proofs.YthflefdchgpbdaaDoor.Bits

namespace Go.Proofs.YthflefdchgpbdaaDoor.Bits
open Go.RowKit Go.Proofs.YthflefdchgpbdaaDoor.Kit

theorem bitsOf_drop : ∀ (i : Nat) (bs : List Int), (bitsOf bs).drop (8 * i) = bitsOf (bs.drop i)
  | 0, _ => by simp
  | i + 1, [] => by simp [bitsOf]
  | i + 1, b :: bs => by
    rw [bitsOf, List.drop_succ_cons, ← bitsOf_drop i bs, show 8 * (i + 1) = (num b 8).length + 8 * i by rw [num_length]; omega, List.drop_append, List.drop_eq_nil_of_le (by omega), Nat.add_sub_cancel_left, List.nil_append]
theorem bitsOf_take : ∀ (i : Nat) (bs : List Int), (bitsOf bs).take (8 * i) = bitsOf (bs.take i)
  | 0, _ => by simp [bitsOf]
  | i + 1, [] => by simp [bitsOf]
  | i + 1, b :: bs => by
    rw [bitsOf, List.take_succ_cons, bitsOf, ← bitsOf_take i bs, show 8 * (i + 1) = (num b 8).length + 8 * i by rw [num_length]; omega, List.take_append, List.take_of_length_le (by omega), Nat.add_sub_cancel_left]
theorem val_num8 (b : Int) (hb : 0 ≤ b ∧ b ≤ 255) : val (num b 8) = b := by
  rw [val_num, show (2 : Int) ^ 8 = 256 by decide]
  omega
theorem val_bits_snoc (bs : List Int) (b : Int) (hb : 0 ≤ b ∧ b ≤ 255) : val (bitsOf (bs ++ [b])) = val (bitsOf bs) + 2 ^ (8 * bs.length) * b := by
  rw [bitsOf_append, val_append, bitsOf_length, bitsOf, bitsOf, List.append_nil, val_num8 b hb]
/-- What the bytes from the one on that a bit lies in tell of n bits from that bit on. -/
theorem read_val (bs : List Int) (at_ n : Nat) (hn : n ≤ 32) (h : at_ + n ≤ 8 * bs.length) :
    val (bitsOf ((bs.drop (at_ / 8)).take 5)) / 2 ^ (at_ % 8) % 2 ^ n = val (((bitsOf bs).drop at_).take n) := by
  rw [← bitsOf_take, ← bitsOf_drop]
  have hb : Bit (((bitsOf bs).drop (8 * (at_ / 8))).take (8 * 5)) := ((bitsOf_bit bs).drop _).take _
  have hl : (((bitsOf bs).drop (8 * (at_ / 8))).take (8 * 5)).length = min 40 (8 * bs.length - 8 * (at_ / 8)) := by simp [bitsOf_length]
  rw [(val_mod hb (at_ % 8) (by rw [hl]; omega)).2, (val_mod (hb.drop (at_ % 8)) n (by rw [List.length_drop, hl]; omega)).1]
  congr 1
  apply List.ext_getElem?
  intro i
  rcases Nat.lt_or_ge i n with hi | hi
  · rw [List.getElem?_take_of_lt hi, List.getElem?_take_of_lt hi, List.getElem?_drop, List.getElem?_take_of_lt (by omega), List.getElem?_drop, List.getElem?_drop]
    congr 1
    omega
  · rw [List.getElem?_eq_none (by simp; omega), List.getElem?_eq_none (by simp; omega)]
end Go.Proofs.YthflefdchgpbdaaDoor.Bits

namespace Go.Proofs.YthflefdchgpbdaaDoor.Kit
open Go.ChangeShapes Go.WideShapes Go.ChangeAt Go.RowKit

/-- The array's value. -/
def arrV (k : IntKind) (xs : List Int) : Value := .agg (xs.map (Value.int k)).toArray

/-- Block g is just the array xs, of elements of type t. -/
def Arr (w : World) (g : Nat) (t : TypeId) (k : IntKind) (xs : List Int) : Prop := Block w g t (xs.map (Value.int k)).toArray

section
variable {w w' : World} {B g : Nat} {t e : TypeId} {k : IntKind} {xs ys : List Int}

theorem Arr.new (w : World) (t : TypeId) (k : IntKind) (xs : List Int) : Arr (w.alloc (.cells (xs.map (Value.int k)).toArray t)) w.heap.size t k xs := Block.new w t _
theorem Arr.lt (h : Arr w g t k xs) : g < w.heap.size := Block.lt h
theorem Arr.cell (h : Arr w g t k xs) {i : Nat} (hi : i < xs.length) : w.cell? ⟨g, i, none⟩ = some (.int k (xs[i]?.getD 0)) := by
  rw [Block.cell h i]
  simp [List.getElem?_eq_getElem hi]
theorem Arr.frozen (h : Arr w g t k xs) (i : Nat) : w.frozen? ⟨g, i, none⟩ = false := Block.frozen h i
theorem Arr.below (h : Arr w g t k xs) (hb : Below B w w') (hg : g < B) : Arr w' g t k xs := Block.below h hb hg
theorem Arr.grown {row : Option Nat} (h : Arr w g t k xs) (hb : w.grownBy w' row) (hg : row ≠ some g) : Arr w' g t k xs := Block.grown h hb hg
theorem Arr.alloc (h : Arr w g t k xs) (o : Obj) : Arr (w.alloc o) g t k xs := Block.alloc h o
theorem Arr.drewN (h : Arr w g t k xs) (n : Nat) : Arr (w.drewN n) g t k xs := h
theorem Arr.set_ (h : Arr w g t k xs) (i : Nat) (z : Int) : Arr (w.setCell ⟨g, i, none⟩ (.int k z)) g t k (xs.set i z) := by
  have := Block.set_ h i (.int k z)
  unfold Arr
  rwa [List.setIfInBounds_toArray, ← List.map_set] at this
theorem Arr.far (h : Arr w g t k xs) {p : Addr} (hp : g ≠ p.block) (u : Value) : Arr (w.setCell p u) g t k xs := Block.far h hp u

/-- The array as a slice, from a on, n cells of it. -/
theorem Arr.holds (h : Arr w g t k xs) (a n : Nat) : Holds w w.heap.size k (some ⟨g, a, none⟩) ((xs.drop a).take n) := by
  intro hx
  refine ⟨g, a, rfl, h.lt, fun j hj => ?_⟩
  simp only [List.length_take, List.length_drop] at hj
  rw [h.cell (i := a + j) (by omega)]
  simp [List.getD, show j < n by omega]

theorem Arr.holds_all (h : Arr w g t k xs) : Holds w w.heap.size k (some ⟨g, 0, none⟩) xs := by
  have := h.holds 0 xs.length
  rwa [List.drop_zero, List.take_of_length_le (Nat.le_refl _)] at this

theorem Arr.range (h : Arr w g t k xs) : w.rangeAt g 0 (xs.map (Value.int k)) := by
  intro j v hj
  obtain ⟨hl, rfl⟩ := get_ints hj
  rw [Nat.zero_add, h.cell hl]
  simp [List.getD]

theorem Arr.there (h : Arr w g t k xs) {n : Nat} (hn : n ≤ xs.length) : w.there g 0 n := fun j hj => by
  rw [Nat.zero_add, h.cell (i := j) (by omega)]
  exact ⟨rfl, h.frozen j⟩

theorem setCells_grown (g : Nat) : ∀ (vs : List Value) (o : Nat) (w : World), w.grownBy (w.setCells g o vs) (some g)
  | [], o, w => World.grownBy.refl w _
  | v :: r, o, w => by
    have h1 : w.grownBy (w.setCell ⟨g, o, none⟩ v) (some g) := ⟨rfl, rfl, rfl, by simp, fun k _ hk => heap_setCell_other w ⟨g, o, none⟩ k v (fun e => hk (by rw [e]))⟩
    have h2 := setCells_grown g r (o + 1) (w.setCell ⟨g, o, none⟩ v)
    exact ⟨h2.os.trans h1.os, h2.tape.trans h1.tape, h2.output.trans h1.output, Nat.le_trans h1.size h2.size, fun j hj hne => (h2.block j (Nat.lt_of_lt_of_le hj h1.size) hne).trans (h1.block j hj hne)⟩

theorem setCells_block : ∀ (vs : List Value) (o : Nat) (w : World) (cs : Array Value), Block w g t cs → o + vs.length ≤ cs.size →
    Block (w.setCells g o vs) g t (cs.toList.take o ++ (vs ++ cs.toList.drop (o + vs.length))).toArray
  | [], o, w, cs, h, _ => by
    have e : (cs.toList.take o ++ ([] ++ cs.toList.drop (o + 0))).toArray = cs := by simp
    show Block w g t (cs.toList.take o ++ ([] ++ cs.toList.drop (o + 0))).toArray
    rw [e]; exact h
  | v :: r, o, w, cs, h, hl => by
    simp only [List.length_cons] at hl
    have h1 := setCells_block r (o + 1) (w.setCell ⟨g, o, none⟩ v) _ (h.set_ o v) (by simp; omega)
    have e : ((cs.setIfInBounds o v).toList.take (o + 1) ++ (r ++ (cs.setIfInBounds o v).toList.drop (o + 1 + r.length))) = cs.toList.take o ++ (v :: r ++ cs.toList.drop (o + (v :: r).length)) := by
      rw [Array.toList_setIfInBounds, List.take_add_one]
      have hd : (cs.toList.set o v).drop (o + 1 + r.length) = cs.toList.drop (o + (v :: r).length) := by
        rw [List.drop_set, if_pos (by omega), List.length_cons]; congr 1; omega
      rw [hd]
      have ht : (cs.toList.set o v).take o = cs.toList.take o := by
        apply List.ext_getElem?
        intro j
        rw [List.getElem?_take, List.getElem?_take]
        split
        · rw [List.getElem?_set_ne (by omega)]
        · rfl
      rw [ht]
      simp [List.getElem?_set, show o < cs.size by omega]
    rw [e] at h1
    exact h1
end

section
variable {P : Program} {w : World}

/-- A whole array is loaded. -/
theorem wpList_load_arr {ops : Array Oper} {rest : List Oper} {o : Oper} {a : Act} {Q : Exit → Act → World → Prop} (hgd : o.guard = none) (ty : TypeId) (x : Operand) (ho : o.op = .load ty x)
    {g : Nat} {t : TypeId} {k : IntKind} {xs : List Int} (h : Arr w g t k xs) (hx : a.eval x = .pointer (some ⟨g, 0, none⟩)) {d : TypeDesc} (hu : P.underlying ty = some d) (hd : d.isRow = true) (hi : (P.info? ty).map (·.size) = some xs.length)
    (hK : wpList P ops Q rest (a.put o.dst (arrV k xs)) w) : wpList P ops Q (o :: rest) a w :=
  wpList_load_mid hgd ty x ho g 0 hx (xs.map (Value.int k)) d h.range hu hd (by simpa using hi) hK

/-- A whole array is stored over another. -/
theorem wpList_store_arr {ops : Array Oper} {rest : List Oper} {o : Oper} {a : Act} {Q : Exit → Act → World → Prop} (hgd : o.guard = none) (ty : TypeId) (x y : Operand) (ho : o.op = .store ty x y)
    {g : Nat} {t : TypeId} {k : IntKind} {xs ys : List Int} (h : Arr w g t k xs) (hx : a.eval x = .pointer (some ⟨g, 0, none⟩)) (hy : a.eval y = arrV k ys) (hl : ys.length = xs.length) (hi : (P.info? ty).map (·.size) = some ys.length)
    (hK : ∀ w', Arr w' g t k ys → w.grownBy w' (some g) → wpList P ops Q rest (a.put o.dst undef) w') : wpList P ops Q (o :: rest) a w := by
  refine wpList_store_mid hgd ty x y ho g 0 (ys.map (Value.int k)).toArray hx hy (by simpa using h.there (by omega)) (by simpa using hi) (all_oneCell_toArray (ints_one k ys)) ?_
  refine hK _ ?_ (setCells_grown g _ 0 w)
  have := setCells_block (ys.map (Value.int k)) 0 w _ h (by simp; omega)
  unfold Arr
  have e : ((xs.map (Value.int k)).toArray.toList.take 0 ++ (ys.map (Value.int k) ++ (xs.map (Value.int k)).toArray.toList.drop (0 + (ys.map (Value.int k)).length))).toArray = (ys.map (Value.int k)).toArray := by
    simp [hl]
  rw [e] at this
  simpa using this

theorem run_eqItems_ints (d : Nat) {e : TypeId} {k k' : IntKind} (he : P.plainKey e = true) (hu : P.underlying e = some (.int k')) (hc : P.cellsOf e = 1) (xs ys : List Int) :
    ∀ is : List Nat, (∀ i ∈ is, i < xs.length ∧ i < ys.length) → (Op.eqItems (d + 1) e (P.cellsOf e) (xs.map (Value.int k)).toArray (ys.map (Value.int k)).toArray is).run P w = .ok (decide (∀ i ∈ is, xs[i]?.getD 0 = ys[i]?.getD 0)) w
  | [], _ => by simp [Op.eqItems]
  | i :: is, h => by
    obtain ⟨h1, h2⟩ := h i (by simp)
    have ih := run_eqItems_ints (k := k) d he hu hc xs ys is (fun j hj => h j (by simp [hj]))
    have p1 := run_part_plain (P := P) w he (xs := (xs.map (Value.int k)).toArray) (off := i * P.cellsOf e) (v := .int k (xs[i]?.getD 0)) (by rw [hc]; simp [h1])
    have p2 := run_part_plain (P := P) w he (xs := (ys.map (Value.int k)).toArray) (off := i * P.cellsOf e) (v := .int k (ys[i]?.getD 0)) (by rw [hc]; simp [h2])
    have p3 : (Op.equalIn (d + 1) e (.int k (xs[i]?.getD 0)) (.int k (ys[i]?.getD 0))).run P w = .ok (xs[i]?.getD 0 == ys[i]?.getD 0) w := by
      simp [Op.equalIn, run_underlying hu]
    simp only [Op.eqItems, Sem.run_bind, p1, p2, p3, Result.andThen_ok]
    by_cases hq : xs[i]?.getD 0 = ys[i]?.getD 0
    · simp only [hq, beq_self_eq_true, Bool.not_true, Bool.false_eq_true, if_false]
      rw [ih]
      congr 1
      simp [hq]
    · have hq' : (xs[i]?.getD 0 == ys[i]?.getD 0) = false := by simpa using hq
      simp only [hq', Bool.not_false, if_true, Sem.run_pure]
      congr 1
      simp [hq]

/-- == of two arrays of integers. -/
theorem run_eql_arr {t e : TypeId} {k k' : IntKind} {i : TypeInfo} (xs ys : List Int) (ht : P.underlying t = some (.array xs.length e)) (hi : P.info? e = some i) (he : P.plainKey e = true) (hu : P.underlying e = some (.int k')) (hc : P.cellsOf e = 1) (hl : xs.length = ys.length) :
    (binOp .eql t (arrV k xs) (arrV k ys)).run P w = .ok (.bool (decide (xs = ys))) w := by
  have h1 := run_equalIn_array (P := P) (w := w) 9999 (xs.map (Value.int k)).toArray (ys.map (Value.int k)).toArray ht hi
  have h2 := run_eqItems_ints (P := P) (w := w) 9998 (k := k) he hu hc xs ys (List.range xs.length) (fun j hj => by have := List.mem_range.1 hj; omega)
  have e1 : decide (∀ j ∈ List.range xs.length, xs[j]?.getD 0 = ys[j]?.getD 0) = decide (xs = ys) := by
    rw [decide_eq_decide]
    constructor
    · intro h
      apply List.ext_getElem hl
      intro j hj hj'
      have := h j (List.mem_range.2 hj)
      simpa [hj, hj'] using this
    · rintro rfl j _; rfl
  rw [e1] at h2
  rw [h2] at h1
  unfold arrV
  simp only [binOp]
  simp [Op.equal, Op.maxDepth, h1]
end

section
variable {H : Type} {enc : TypeId × Value → H} {P : Program} {w : World} {base b0 : Nat} {sp : Nat → Bool} {held : Bool}

/-- An array of integers that came in by value. -/
theorem open_array {r : Reach} {t e : TypeId} {n : Nat} {k : IntKind} (ht : P.underlying t = some (.array n e)) (he : P.underlying e = some (.int k)) (hc : P.cellsOf e = 1) (hct : P.cellsOf t = n)
    {v : Value} {d : DataW H} {ps : List MemPlace} (hv : Value.okWide P w r b0 t v) (h : DataW.Trod enc P w base sp held t v d ps) :
    ∃ xs : List Int, xs.length = n ∧ v = arrV k xs ∧ ∀ z ∈ xs, (Lit.int k z).wf = true := by
  simp only [Value.okWide, ht] at hv
  obtain ⟨cs, rfl, hsz, _⟩ := hv
  obtain ⟨fuel, hf⟩ := h
  obtain ⟨ys, m, _, _, hl, hyl, hg⟩ := DataW.trod_array ht hf
  simp only [Value.cells] at hl hg
  have each : ∀ i, i < n → ∃ q, cs.toList[i]? = some (.int k q) ∧ (Lit.int k q).wf = true := by
    intro i hi
    have h1 := hg i hi
    rw [hc, Nat.mul_one] at h1
    have hx : ys[i]? = some (ys[i]'(by omega)) := List.getElem?_eq_getElem (by omega)
    rw [hx] at h1
    obtain ⟨q, hq, _, hw⟩ := DataW.trod_int he h1
    refine ⟨q, ?_, hw⟩
    rw [List.drop_eq_getElem_cons (by rw [hl, hct]; exact hi)] at hq
    simp only [List.take_succ_cons, List.take_zero, List.cons.injEq, and_true] at hq
    rw [List.getElem?_eq_getElem (by rw [hl, hct]; exact hi), hq]
  have hlen : cs.toList.length = n := by rw [hl, hct]
  refine ⟨cs.toList.map (fun v => match v with | .int _ q => q | _ => 0), by rw [List.length_map, hlen], ?_, fun z hz => ?_⟩
  · unfold arrV
    congr 1
    apply Array.toList_inj.1
    apply List.ext_getElem?
    intro i
    by_cases hi : i < n
    · obtain ⟨q, hq, _⟩ := each i hi
      simp only [List.map_map, List.getElem?_map, hq]
      rfl
    · rw [List.getElem?_eq_none (by omega), List.getElem?_eq_none (by simp; have := hlen; simp at this; omega)]
  · obtain ⟨v, hv, rfl⟩ := List.mem_map.1 hz
    obtain ⟨i, hi, rfl⟩ := List.mem_iff_getElem.1 hv
    obtain ⟨q, hq, hw⟩ := each i (by omega)
    rw [List.getElem?_eq_getElem hi] at hq
    injection hq with hq
    rw [hq]
    exact hw
end
end Go.Proofs.YthflefdchgpbdaaDoor.Kit

namespace Go.Proofs.YthflefdchgpbdaaDoor.Kit
open Go.ChangeShapes Go.WideShapes Go.ChangeAt Go.RowKit

theorem conv_bytes {P : Program} {t e ts : TypeId} (ht : P.underlying t = some (.slice e)) (he : P.underlying e = some (.int .u8)) (hs : P.underlying ts = some .string)
    (w : World) (A : Option Addr) (xs : List Int) (c B : Nat) (hr : Holds w B .u8 A xs) :
    (convert t ts (.slice A xs.length c)).run P w = .ok (.string (strOfNums xs)) w := by
  rcases Nat.eq_zero_or_pos xs.length with h0 | h0
  · obtain rfl : xs = [] := List.eq_nil_of_length_eq_zero h0
    cases A with
    | none => exact run_convert_bytes_nil w _ _ ht he _ _ _ hs
    | some ad =>
      have hl : (loadCells ad 0).run P w = .ok (([] : List Int).map (Value.int .u8)).toArray w := by simpa using run_loadCells_list (P := P) w ad [] (by simp)
      rw [run_convert_bytes_string w _ _ e _ _ c ht he hs]
      rw [show ([] : List Int).length = 0 from rfl, run_bytesToString w ad 0 c [] hl]
      rfl
  · obtain ⟨b, off, rfl, _, hc⟩ := hr h0
    exact run_convert_bytes_arg w _ _ ht he b off xs.length c xs rfl hc _ hs

/-- No block is both rows'. -/
def Apart (u v : Value) : Prop := ∀ b, u.ownBlock = some b → v.ownBlock ≠ some b
theorem Apart.symm {u v : Value} (h : Apart u v) : Apart v u := fun b hb hu => h b hu hb
theorem Apart.newer {w : World} {u v v' : Value} (h : Apart u v) (hu : ∀ b, u.ownBlock = some b → b < w.heap.size) (n : Newer w v v') : Apart u v' := by
  intro b hb
  rcases n with n | n
  · rw [n]; exact h b hb
  · intro he
    have h1 := n b he
    have h2 := hu b hb
    omega
theorem Own.top {w : World} {B : Nat} {e : TypeId} {k : IntKind} {v : Value} {xs : List Int} (h : Own w B e k v xs) : ∀ b, v.ownBlock = some b → b < w.heap.size := fun b hb => (h.lt b hb).2
/-- A new row is apart from all that was there. -/
theorem Apart.new {w w' : World} {B : Nat} {e : TypeId} {k : IntKind} {u v : Value} {xs : List Int} (h : Own w' B e k v xs) (hB : w.heap.size ≤ B) (hu : ∀ b, u.ownBlock = some b → b < w.heap.size) : Apart u v := by
  intro b hb he
  have h1 := h.lt b he
  have h2 := hu b hb
  omega

/-- n elements from the p-th on. -/
theorem Holds.sub {w : World} {B : Nat} {k : IntKind} {b off : Nat} {xs : List Int} (h : Holds w B k (some ⟨b, off, none⟩) xs) (p n : Nat) (hn : p + n ≤ xs.length) : Holds w B k (some ⟨b, off + p, none⟩) ((xs.drop p).take n) := by
  intro hx
  have hl : ((xs.drop p).take n).length = n := by simp; omega
  rw [hl] at hx
  obtain ⟨b2, o2, hA, hb, hc⟩ := h (by omega)
  injection hA with hA
  injection hA with e1 e2
  subst e1 e2
  refine ⟨b, off + p, rfl, hb, fun j hj => ?_⟩
  rw [hl] at hj
  rw [Nat.add_assoc, hc (p + j) (by omega)]
  simp [List.getD, List.getElem?_take, hj]
end Go.Proofs.YthflefdchgpbdaaDoor.Kit

namespace Go.Proofs.YthflefdchgpbdaaDoor.Df

def lens : List Int := [3, 4, 5, 6, 7, 8, 9, 10, 11, 13, 15, 17, 19, 23, 27, 31, 35, 43, 51, 59, 67, 83, 99, 115, 131, 163, 195, 227, 258]
def dists : List Int := [1, 2, 3, 4, 5, 7, 9, 13, 17, 25, 33, 49, 65, 97, 129, 193, 257, 385, 513, 769, 1025, 1537, 2049, 3073, 4097, 6145, 8193, 12289, 16385, 24577]

/-- How many of them are no greater. -/
def cntLe : List Int → Int → Nat
  | [], _ => 0
  | x :: l, n => if x ≤ n then cntLe l n + 1 else cntLe l n

theorem cnt_le : ∀ (l : List Int) (n : Int), cntLe l n ≤ l.length
  | [], _ => Nat.le_refl _
  | x :: l, n => by
    have := cnt_le l n
    rw [cntLe]
    split <;> simp <;> omega

theorem cnt_zero : ∀ (l : List Int) (n : Int), (∀ x ∈ l, n < x) → cntLe l n = 0
  | [], _, _ => rfl
  | x :: l, n, h => by
    have h1 := h x (by simp)
    rw [cntLe, if_neg (by omega), cnt_zero l n fun y hy => h y (by simp [hy])]

theorem cnt_iff : ∀ (l : List Int), l.Pairwise (· < ·) → ∀ (n : Int) (k : Nat), k < l.length → (l.getD k 0 ≤ n ↔ k < cntLe l n)
  | [], _, _, k, hk => by simp at hk
  | x :: l, hp, n, k, hk => by
    rw [List.pairwise_cons] at hp
    by_cases hx : x ≤ n
    · rw [cntLe, if_pos hx]
      cases k with
      | zero => simp [hx]
      | succ k =>
        have := cnt_iff l hp.2 n k (by simpa using hk)
        simp only [List.getD_cons_succ]
        omega
    · rw [cntLe, if_neg hx, cnt_zero l n fun y hy => by have := hp.1 y hy; omega]
      cases k with
      | zero => simp only [List.getD_cons_zero]; omega
      | succ k =>
        simp only [List.getD_cons_succ]
        have hk' : k < l.length := by simpa using hk
        have := hp.1 (l.getD k 0) (by rw [List.getD_eq_getElem?_getD, List.getElem?_eq_getElem hk']; exact List.getElem_mem hk')
        omega

theorem lens_rise : lens.Pairwise (· < ·) := by decide
theorem dists_rise : dists.Pairwise (· < ·) := by decide

/-- The place of the greatest one that isn't greater. -/
def at_ (l : List Int) (n : Int) : Nat := cntLe l n - 1
def lmore (k : Int) : Int := if 8 ≤ k ∧ k < 28 then k / 4 - 1 else 0
def dmore (k : Int) : Int := if k < 4 then 0 else k / 2 - 1

theorem at_lens (n : Int) (h : 3 ≤ n) : at_ lens n ≤ 28 ∧ cntLe lens n = at_ lens n + 1 ∧ lens.getD (at_ lens n) 0 ≤ n := by
  have h1 := cnt_le lens n
  have h2 : 0 < cntLe lens n := (cnt_iff lens lens_rise n 0 (by decide)).1 (by simpa [lens] using h)
  have h3 : lens.length = 29 := rfl
  unfold at_
  exact ⟨by omega, by omega, (cnt_iff lens lens_rise n _ (by omega)).2 (by omega)⟩
theorem at_dists (n : Int) (h : 1 ≤ n) : at_ dists n ≤ 29 ∧ cntLe dists n = at_ dists n + 1 ∧ dists.getD (at_ dists n) 0 ≤ n := by
  have h1 := cnt_le dists n
  have h2 : 0 < cntLe dists n := (cnt_iff dists dists_rise n 0 (by decide)).1 (by simpa [dists] using h)
  have h3 : dists.length = 30 := rfl
  unfold at_
  exact ⟨by omega, by omega, (cnt_iff dists dists_rise n _ (by omega)).2 (by omega)⟩
theorem lens_bd : ∀ k, k < 29 → 3 ≤ lens.getD k 0 ∧ lens.getD k 0 ≤ 258 := by decide
theorem dists_bd : ∀ k, k < 30 → 1 ≤ dists.getD k 0 ∧ dists.getD k 0 ≤ 24577 := by decide
/-- The least distances, reckoned. -/
theorem dists_are : ∀ s, s < 30 → 4 ≤ s → dists.getD s 0 = (2 + (s : Int) % 2) * 2 ^ (s / 2 - 1) + 1 := by decide
theorem dists_low : ∀ s, s < 4 → dists.getD s 0 = (s : Int) + 1 := by decide
end Go.Proofs.YthflefdchgpbdaaDoor.Df

namespace Go.Proofs.YthflefdchgpbdaaDoor.Kit
open Go.ChangeShapes Go.WideShapes Go.ChangeAt Go.RowKit

theorem wp_exits {P : Program} {o : Oper} {a : Act} {w : World} {K : Act → World → Prop} {Q Q' : Exit → Act → World → Prop} (h : ∀ e a w, Q e a w → Q' e a w) (hh : o.wp P a w K Q) : o.wp P a w K Q' := by
  unfold Oper.wp at *
  generalize (execOp a.eval o).run P w = r at *
  cases r with
  | ok n w' =>
    cases n <;> simp only [Oper.upon] at hh ⊢ <;>
      first
        | exact hh
        | exact Calls.mono hh (fun e w'' he => by
            cases e with
            | returned v => exact he
            | panicked c => exact h _ _ _ he
            | outgrown => obtain ⟨a, w, he⟩ := he; exact ⟨a, w, h _ _ _ he⟩)
  | halt x w' => cases x <;> simp only [Oper.upon] at hh ⊢ <;> first | exact hh | exact h _ _ _ hh

/-- K behind the operation, Q at a panic, and never out of room. -/
def Behind (K : Act → World → Prop) (Q : Exit → Act → World → Prop) : Exit → Act → World → Prop
  | .normal, a, w => K a w
  | .outgrown, _, _ => False
  | e, a, w => Q e a w

theorem step_of_list {P : Program} {ops : Array Oper} {o : Oper} {a : Act} {w : World} {K : Act → World → Prop} {Q : Exit → Act → World → Prop} {E : Prop}
    (hw : Region.wanted o (yielded ops a.tmps) = true) (h : ∀ Q', (∀ a w, K a w → wpList P ops Q' [] a w) → wpList P ops Q' [o] a w) :
    if Region.wanted o (yielded ops a.tmps) = true then Oper.wp P o a w K Q else E := by
  rw [if_pos hw]
  have h1 := h (Behind K Q) (fun _ _ h => h)
  unfold wpList at h1
  rw [if_pos hw] at h1
  rcases h1 with h1 | ⟨_, a', w', h2⟩
  · unfold Oper.wp at *
    generalize (execOp a.eval o).run P w = r at *
    cases r with
    | ok n w' =>
      cases n <;> simp only [Oper.upon] at h1 ⊢ <;>
        first
          | exact h1
          | exact Calls.mono h1 (fun e w'' he => by
              cases e with
              | returned v => exact he
              | panicked c => exact he
              | outgrown => obtain ⟨_, _, he⟩ := he; exact (he : False).elim)
    | halt x w' => cases x <;> simp only [Oper.upon] at h1 ⊢ <;> exact h1
  · exact (h2 : False).elim
end Go.Proofs.YthflefdchgpbdaaDoor.Kit

namespace Go.Proofs.YthflefdchgpbdaaDoor.Kit
open Go.ChangeShapes Go.WideShapes Go.ChangeAt Go.RowKit

/-- The fields are integers of these kinds, a cell each, in their order. -/
def intFields (P : Program) (fs : Array Field) (ks : List IntKind) : Bool :=
  fs.size == ks.length && (List.range fs.size).all fun i => match fs[i]?, ks[i]? with
    | some f, some k => f.offset == i && P.cellsOf f.type == 1 && (match P.underlying f.type with | some (.int k') => decide (k' = k) | _ => false)
    | _, _ => false

theorem intFields_of {P : Program} {fs : Array Field} {ks : List IntKind} (h : intFields P fs ks = true) : fs.size = ks.length ∧
    ∀ i, i < ks.length → ∃ f k, fs[i]? = some f ∧ ks[i]? = some k ∧ f.offset = i ∧ P.cellsOf f.type = 1 ∧ P.underlying f.type = some (.int k) := by
  unfold intFields at h
  simp only [Bool.and_eq_true, beq_iff_eq, List.all_eq_true, List.mem_range] at h
  refine ⟨h.1, fun i hi => ?_⟩
  have h2 := h.2 i (by omega)
  cases hf : fs[i]? with
  | none => rw [hf] at h2; simp at h2
  | some f =>
    cases hk : ks[i]? with
    | none => rw [hf, hk] at h2; simp at h2
    | some k =>
      rw [hf, hk] at h2
      simp only [Bool.and_eq_true, beq_iff_eq] at h2
      refine ⟨f, k, rfl, rfl, h2.1.1, h2.1.2, ?_⟩
      have h3 := h2.2
      split at h3
      · rename_i k' hu
        rw [hu, of_decide_eq_true h3]
      · cases h3

def numOfV : Value → Int
  | .int _ n => n
  | _ => 0

section
variable {H : Type} {enc : TypeId × Value → H} {P : Program} {w : World} {base b0 : Nat} {sp : Nat → Bool} {held : Bool}

theorem struct_row {e : TypeId} {fs : Array Field} {ks : List IntKind} (he : P.underlying e = some (.struct fs)) (hf : intFields P fs ks = true) (hc : P.cellsOf e = ks.length)
    {n : Nat} {cs : List Value} {y : DataW H × List MemPlace} (h : DataW.trod enc P w base sp held n e cs = some y) :
    ∃ row : List Int, row.length = ks.length ∧ cs = List.zipWith Value.int ks row ∧ ∀ (j : Nat) (k : IntKind), ks[j]? = some k → (Lit.int k (row[j]?.getD 0)).wf = true := by
  obtain ⟨xs, m, _, _, hl, hxl, hg⟩ := DataW.trod_struct he h
  obtain ⟨hsz, hi⟩ := intFields_of hf
  have each : ∀ i (hi' : i < ks.length), ∃ q, cs[i]? = some (.int ks[i] q) ∧ (Lit.int ks[i] q).wf = true := by
    intro i hi'
    obtain ⟨f, k, h1, h2, h3, h4, h5⟩ := hi i hi'
    have hk : ks[i] = k := by rw [List.getElem?_eq_getElem hi'] at h2; exact Option.some.inj h2
    have h6 := hg i f h1
    rw [h3, h4] at h6
    have hx : xs[i]? = some (xs[i]'(by omega)) := List.getElem?_eq_getElem (by omega)
    rw [hx] at h6
    obtain ⟨q, hq, _, hw⟩ := DataW.trod_int h5 h6
    refine ⟨q, ?_, by rw [hk]; exact hw⟩
    rw [hk]
    rw [List.drop_eq_getElem_cons (by omega)] at hq
    simp only [List.take_succ_cons, List.take_zero, List.cons.injEq, and_true] at hq
    rw [List.getElem?_eq_getElem (by omega), hq]
  refine ⟨cs.map numOfV, by simp; omega, ?_, fun j k hk => ?_⟩
  · apply List.ext_getElem?
    intro i
    by_cases hi' : i < ks.length
    · obtain ⟨q, hq, _⟩ := each i hi'
      rw [List.getElem?_zipWith, List.getElem?_map, hq, List.getElem?_eq_getElem hi']
      rfl
    · rw [List.getElem?_eq_none (by omega), List.getElem?_zipWith, List.getElem?_eq_none (by omega : ks.length ≤ i)]
  · have hj : j < ks.length := by
      rcases Nat.lt_or_ge j ks.length with h' | h'
      · exact h'
      · rw [List.getElem?_eq_none h'] at hk; cases hk
    obtain ⟨q, hq, hw⟩ := each j hj
    rw [List.getElem?_eq_getElem hj] at hk
    injection hk with hk
    rw [List.getElem?_map, hq, ← hk]
    exact hw

/-- A struct of integers by value. -/
theorem open_struct {r : Reach} {t : TypeId} {fs : Array Field} {ks : List IntKind} (ht : P.underlying t = some (.struct fs)) (hf : intFields P fs ks = true) (hc : P.cellsOf t = ks.length)
    {v : Value} {d : DataW H} {ps : List MemPlace} (hv : Value.okWide P w r b0 t v) (h : DataW.Trod enc P w base sp held t v d ps) :
    ∃ row : List Int, row.length = ks.length ∧ v = .agg (List.zipWith Value.int ks row).toArray ∧ ∀ (j : Nat) (k : IntKind), ks[j]? = some k → (Lit.int k (row[j]?.getD 0)).wf = true := by
  obtain ⟨cs, rfl, hsz⟩ := okWide_struct ht hv
  obtain ⟨fuel, hfu⟩ := h
  obtain ⟨row, h1, h2, h3⟩ := struct_row ht hf hc hfu
  exact ⟨row, h1, by rw [← h2]; simp [Value.cells], h3⟩

/-- The slice at A holds rows of integers of these kinds; its memory lies below block B. -/
def HoldsR (w : World) (B : Nat) (ks : List IntKind) (A : Option Addr) (rows : List (List Int)) : Prop :=
  0 < rows.length → ∃ b off : Nat, A = some ⟨b, off, none⟩ ∧ b < B ∧ ∀ (i : Nat) (row : List Int), rows[i]? = some row → ∀ (j : Nat) (k : IntKind), ks[j]? = some k → w.cell? ⟨b, off + i * ks.length + j, none⟩ = some (.int k (row[j]?.getD 0))

/-- A slice of structs of integers that came in. -/
theorem open_rows {t e : TypeId} {fs : Array Field} {ks : List IntKind} (ht : P.underlying t = some (.slice e)) (he : P.underlying e = some (.struct fs)) (hf : intFields P fs ks = true) (hc : P.cellsOf e = ks.length) (hks : 0 < ks.length)
    {v : Value} {d : DataW H} {ps : List MemPlace} (hval : Value.okWide P w .any b0 t v) (h : DataW.Trod enc P w 0 (fun _ => true) true t v d ps) (hlt : ∀ x ∈ ps, x.block < w.heap.size) :
    ∃ (A : Option Addr) (cap : Nat) (rows : List (List Int)), v = .slice A rows.length cap ∧ rows.length ≤ cap ∧ cap ≤ maxLen ∧ HoldsR w w.heap.size ks A rows ∧
      ∀ (i : Nat) (row : List Int), rows[i]? = some row → row.length = ks.length ∧ ∀ (j : Nat) (k : IntKind), ks[j]? = some k → (Lit.int k (row[j]?.getD 0)).wf = true := by
  obtain ⟨a0, len, cap, rfl⟩ := okWide_slice ht hval
  obtain ⟨fuel, hfu⟩ := h
  rcases DataW.trod_slice ht hfu with ⟨hcs, _⟩ | ⟨a, len', cap', elems, rest, n, _, hcs, hx, _, hl, hm, hlen, hel, _, _⟩
  · simp [Value.cells] at hcs
    obtain ⟨rfl, rfl, rfl⟩ := hcs
    exact ⟨none, 0, [], rfl, Nat.le_refl _, Nat.zero_le _, fun h => absurd h (by simp), fun i row hi => by simp at hi⟩
  · simp [Value.cells] at hcs
    obtain ⟨rfl, rfl, rfl⟩ := hcs
    have each : ∀ i, i < len → ∃ row : List Int, row.length = ks.length ∧ (∀ (j : Nat) (k : IntKind), ks[j]? = some k → w.cell? (a.add (i * ks.length + j)) = some (.int k (row[j]?.getD 0)) ∧ (Lit.int k (row[j]?.getD 0)).wf = true) := by
      intro i hi
      have h1 := hel i hi
      have hx' : elems[i]? = some (elems[i]'(by omega)) := List.getElem?_eq_getElem (by omega)
      rw [hx'] at h1
      obtain ⟨cs, h2, h3⟩ := Option.bind_eq_some_iff.1 h1
      obtain ⟨_, h5, h6⟩ := World.cells?_some h2
      obtain ⟨row, r1, r2, r3⟩ := struct_row he hf hc h3
      refine ⟨row, r1, fun j k hk => ⟨?_, r3 j k hk⟩⟩
      have hj : j < ks.length := by
        rcases Nat.lt_or_ge j ks.length with h' | h'
        · exact h'
        · rw [List.getElem?_eq_none h'] at hk; cases hk
      have h7 := h6 j (by omega)
      rw [hc] at h7
      have hadd : (a.add (i * ks.length)).add j = a.add (i * ks.length + j) := by
        unfold Addr.add
        by_cases h1 : i * ks.length = 0 <;> by_cases h2 : j = 0 <;> simp [h1, h2, Nat.add_assoc]
      rw [hadd] at h7
      rw [h7, r2, List.getElem?_zipWith, hk, List.getElem?_eq_getElem (by omega : j < row.length)]
      rfl
    have all : ∃ rows : List (List Int), rows.length = len ∧ ∀ (i : Nat) (row : List Int), rows[i]? = some row → row.length = ks.length ∧ (∀ (j : Nat) (k : IntKind), ks[j]? = some k → w.cell? (a.add (i * ks.length + j)) = some (.int k (row[j]?.getD 0)) ∧ (Lit.int k (row[j]?.getD 0)).wf = true) := by
      have build : ∀ m, m ≤ len → ∃ rows : List (List Int), rows.length = m ∧ ∀ (i : Nat) (row : List Int), rows[i]? = some row → row.length = ks.length ∧ (∀ (j : Nat) (k : IntKind), ks[j]? = some k → w.cell? (a.add (i * ks.length + j)) = some (.int k (row[j]?.getD 0)) ∧ (Lit.int k (row[j]?.getD 0)).wf = true) := by
        intro m
        induction m with
        | zero => exact fun _ => ⟨[], rfl, fun i row hi => by simp at hi⟩
        | succ m ih =>
          intro hm'
          obtain ⟨rows, q1, q2⟩ := ih (by omega)
          obtain ⟨row, r1, r2⟩ := each m (by omega)
          refine ⟨rows ++ [row], by simp [q1], fun i row' hi => ?_⟩
          by_cases hi' : i < m
          · rw [List.getElem?_append_left (by omega)] at hi
            exact q2 i row' hi
          · have him : i = m := by
              rcases Nat.lt_or_ge i (rows ++ [row]).length with h' | h'
              · simp at h'; omega
              · rw [List.getElem?_eq_none h'] at hi; cases hi
            subst him
            rw [List.getElem?_append_right (by omega), q1] at hi
            simp at hi
            subst hi
            exact ⟨r1, r2⟩
      exact build len (Nat.le_refl _)
    obtain ⟨rows, q1, q2⟩ := all
    refine ⟨some a, cap, rows, by rw [q1], by omega, hm, fun hx0 => ?_, fun i row hi => ⟨(q2 i row hi).1, fun j k hk => ((q2 i row hi).2 j k hk).2⟩⟩
    obtain ⟨b, off, spot⟩ := a
    have hk0 : ks[0]? = some ks[0] := List.getElem?_eq_getElem hks
    have hr0 : rows[0]? = some (rows[0]'hx0) := List.getElem?_eq_getElem hx0
    have hspot : spot = none := by simpa [Addr.add] using World.cell?_spot ((q2 0 _ hr0).2 0 _ hk0).1
    subst hspot
    simp only [Prod.mk.injEq] at hx
    have hpos : 0 < (elems.length + rest.length) * P.cellsOf e := Nat.mul_pos (by omega) (by omega)
    refine ⟨b, off, rfl, hlt (.cell b (off + 0)) (by rw [hx.2]; exact List.mem_append_left _ (MemPlace.mem_row.2 ⟨0, hpos, by simp⟩)), fun i row hi j k hk => ?_⟩
    have := ((q2 i row hi).2 j k hk).1
    rw [add_plain] at this
    rw [Nat.add_assoc]
    exact this
end
end Go.Proofs.YthflefdchgpbdaaDoor.Kit

namespace Go.Proofs.YthflefdchgpbdaaDoor.Kit
open Go.ChangeShapes Go.WideShapes Go.ChangeAt Go.RowKit

/-- Field i is an integer of kind k in cell o. -/
def isInt (P : Program) (fs : Array Field) (i o : Nat) (k : IntKind) : Bool := match fs[i]? with
  | some f => f.offset == o && P.cellsOf f.type == 1 && (match P.underlying f.type with | some (.int k') => decide (k' = k) | _ => false)
  | none => false

/-- Field i is a slice of bytes in cell o. -/
def isBytes (P : Program) (fs : Array Field) (i o : Nat) : Bool := match fs[i]? with
  | some f => f.offset == o && P.cellsOf f.type == 1 && (match P.underlying f.type with
    | some (.slice e) => P.cellsOf e == 1 && (match P.underlying e with | some (.int k') => decide (k' = .u8) | _ => false)
    | _ => false)
  | none => false

theorem isInt_of {P : Program} {fs : Array Field} {i o : Nat} {k : IntKind} (h : isInt P fs i o k = true) : ∃ f, fs[i]? = some f ∧ f.offset = o ∧ P.cellsOf f.type = 1 ∧ P.underlying f.type = some (.int k) := by
  unfold isInt at h
  cases hf : fs[i]? with
  | none => rw [hf] at h; simp at h
  | some f =>
    rw [hf] at h
    simp only [Bool.and_eq_true, beq_iff_eq] at h
    refine ⟨f, rfl, h.1.1, h.1.2, ?_⟩
    have h3 := h.2
    split at h3
    · rename_i k' hu
      rw [hu, of_decide_eq_true h3]
    · cases h3

theorem isBytes_of {P : Program} {fs : Array Field} {i o : Nat} (h : isBytes P fs i o = true) : ∃ f e, fs[i]? = some f ∧ f.offset = o ∧ P.cellsOf f.type = 1 ∧ P.underlying f.type = some (.slice e) ∧ P.underlying e = some (.int .u8) ∧ P.cellsOf e = 1 := by
  unfold isBytes at h
  cases hf : fs[i]? with
  | none => rw [hf] at h; simp at h
  | some f =>
    rw [hf] at h
    simp only [Bool.and_eq_true, beq_iff_eq] at h
    have h3 := h.2
    split at h3
    · rename_i e hu
      simp only [Bool.and_eq_true, beq_iff_eq] at h3
      have h4 := h3.2
      split at h4
      · rename_i k' hk
        exact ⟨f, e, rfl, h.1.1, h.1.2, hu, by rw [hk, of_decide_eq_true h4], h3.1⟩
      · cases h4
    · cases h3

theorem get_of_one {cs : List Value} {o : Nat} {v : Value} (h : (cs.drop o).take 1 = [v]) : cs[o]? = some v := by
  have h1 : ((cs.drop o).take 1)[0]? = some v := by rw [h]; rfl
  simpa [List.getElem?_take, List.getElem?_drop] using h1

section
variable {H : Type} {enc : TypeId × Value → H} {P : Program} {w : World} {b0 : Nat}

theorem octets_of {n : Nat} {t e : TypeId} {cs : List Value} {x : DataW H × List MemPlace} (ht : P.underlying t = some (.slice e)) (he : P.underlying e = some (.int .u8)) (hc : P.cellsOf e = 1)
    (h : DataW.trod enc P w 0 (fun _ => true) true n t cs = some x) (hlt : ∀ p ∈ x.2, p.block < w.heap.size) :
    ∃ (A : Option Addr) (cap : Nat) (zs : List Int), cs = [.slice A zs.length cap] ∧ zs.length ≤ cap ∧ cap ≤ maxLen ∧ Octets zs ∧ Holds w w.heap.size .u8 A zs := by
  rcases open_ints ht he hc h with ⟨hcs, hx⟩ | ⟨a, len, cap, zs, hcs, _, hl, hm, hz, hx, hcell, hwz⟩
  · exact ⟨none, 0, [], hcs, Nat.le_refl _, Nat.zero_le _, fun _ h => by simp at h, Holds.nil⟩
  · simp only [if_true] at hz
    have hlen : (zs.take len).length = len := by simp [hz, Nat.min_eq_left hl]
    refine ⟨some a, cap, zs.take len, by rw [hlen]; exact hcs, by rw [hlen]; exact hl, hm, fun n hn => bounds_u8 (hwz n (List.mem_of_mem_take hn)), fun hp => ?_⟩
    rw [hlen] at hp
    obtain ⟨b, off, spot⟩ := a
    have hspot : spot = none := by simpa [Addr.add] using World.cell?_spot (hcell 0 (by omega))
    subst hspot
    refine ⟨b, off, rfl, hlt (.cell b (off + 0)) (by rw [hx]; exact MemPlace.mem_row.2 ⟨0, by omega, by simp⟩), fun j hj => ?_⟩
    rw [hlen] at hj
    rw [← add_plain, hcell j (by omega)]
    simp [List.getD, show j < len by omega]

theorem open_iiib {t : TypeId} {fs : Array Field} {k0 k1 k2 : IntKind} (ht : P.underlying t = some (.struct fs)) (h0 : isInt P fs 0 0 k0 = true) (h1 : isInt P fs 1 1 k1 = true) (h2 : isInt P fs 2 2 k2 = true) (h3 : isBytes P fs 3 3 = true)
    (hsz : fs.size = 4) (hc : P.cellsOf t = 4) {v : Value} {d : DataW H} {ps : List MemPlace} (hv : Value.okWide P w .any b0 t v) (h : DataW.Trod enc P w 0 (fun _ => true) true t v d ps) (hlt : ∀ x ∈ ps, x.block < w.heap.size) :
    ∃ (a b x : Int) (A : Option Addr) (cap : Nat) (zs : List Int), v = .agg #[.int k0 a, .int k1 b, .int k2 x, .slice A zs.length cap] ∧ (Lit.int k0 a).wf = true ∧ (Lit.int k1 b).wf = true ∧ (Lit.int k2 x).wf = true ∧
      zs.length ≤ cap ∧ cap ≤ maxLen ∧ Octets zs ∧ Holds w w.heap.size .u8 A zs := by
  obtain ⟨cs, rfl, hcs⟩ := okWide_struct ht hv
  obtain ⟨fuel, hfu⟩ := h
  obtain ⟨xs, m, _, hx, hl, hxl, hg⟩ := DataW.trod_struct ht hfu
  simp only [Value.cells] at hg
  obtain ⟨f0, e0, o0, s0, u0⟩ := isInt_of h0
  obtain ⟨f1, e1, o1, s1, u1⟩ := isInt_of h1
  obtain ⟨f2, e2, o2, s2, u2⟩ := isInt_of h2
  obtain ⟨f3, e, e3, o3, s3, u3, ue, ce⟩ := isBytes_of h3
  have x0 : xs[0]? = some (xs[0]'(by omega)) := List.getElem?_eq_getElem (by omega)
  have x1 : xs[1]? = some (xs[1]'(by omega)) := List.getElem?_eq_getElem (by omega)
  have x2 : xs[2]? = some (xs[2]'(by omega)) := List.getElem?_eq_getElem (by omega)
  have x3 : xs[3]? = some (xs[3]'(by omega)) := List.getElem?_eq_getElem (by omega)
  have g0 := hg 0 f0 e0
  have g1 := hg 1 f1 e1
  have g2 := hg 2 f2 e2
  have g3 := hg 3 f3 e3
  rw [o0, s0, x0] at g0
  rw [o1, s1, x1] at g1
  rw [o2, s2, x2] at g2
  rw [o3, s3, x3] at g3
  obtain ⟨a, ha, _, wa⟩ := DataW.trod_int u0 g0
  obtain ⟨b, hb, _, wb⟩ := DataW.trod_int u1 g1
  obtain ⟨x, hxx, _, wx⟩ := DataW.trod_int u2 g2
  obtain ⟨A, cap, zs, hs, r1, r2, r3, r4⟩ := octets_of u3 ue ce g3 (fun p hp => hlt p (by
    have hps : ps = xs.flatMap (·.2) := congrArg Prod.snd hx
    rw [hps]
    exact List.mem_flatMap.2 ⟨_, List.getElem_mem _, hp⟩))
  refine ⟨a, b, x, A, cap, zs, ?_, wa, wb, wx, r1, r2, r3, r4⟩
  have q0 := get_of_one ha
  have q1 := get_of_one hb
  have q2 := get_of_one hxx
  have q3 := get_of_one hs
  obtain ⟨l⟩ := cs
  have hl4 : l.length = 4 := by simpa [hc] using hcs
  match l, hl4, q0, q1, q2, q3 with
  | [y0, y1, y2, y3], _, q0, q1, q2, q3 =>
    simp at q0 q1 q2 q3
    subst q0 q1 q2 q3
    rfl
end
end Go.Proofs.YthflefdchgpbdaaDoor.Kit

namespace Go.Proofs.YthflefdchgpbdaaDoor.Kit
open Go.ChangeShapes Go.WideShapes Go.ChangeAt Go.RowKit

/-- The slice at A holds these elements, each of sz cells that E tells; its memory lies below block B. -/
def HoldsE {R : Type} (E : R → List Value → Prop) (sz : Nat) (w : World) (B : Nat) (A : Option Addr) (rs : List R) : Prop :=
  0 < rs.length → ∃ b off : Nat, A = some ⟨b, off, none⟩ ∧ b < B ∧ ∀ (i : Nat) (r : R), rs[i]? = some r → ∃ cs, E r cs ∧ cs.length = sz ∧ ∀ (j : Nat) (c : Value), cs[j]? = some c → w.cell? ⟨b, off + i * sz + j, none⟩ = some c

theorem HoldsE.keep {R : Type} {E E' : R → List Value → Prop} {sz : Nat} {w w' : World} {B : Nat} {A : Option Addr} {rs : List R} (h : HoldsE E sz w B A rs) (hk : ∀ p : Addr, p.block < B → w'.cell? p = w.cell? p) (hE : ∀ r cs, E r cs → E' r cs) : HoldsE E' sz w' B A rs := by
  intro hx
  obtain ⟨b, off, e, hb, hc⟩ := h hx
  refine ⟨b, off, e, hb, fun i r hi => ?_⟩
  obtain ⟨cs, h1, h2, h3⟩ := hc i r hi
  exact ⟨cs, hE r cs h1, h2, fun j c hj => (hk _ hb).trans (h3 j c hj)⟩

section
variable {H : Type} {enc : TypeId × Value → H} {P : Program} {w : World} {b0 : Nat}

theorem list_of {R : Type} {Q : Nat → R → Prop} : ∀ (n : Nat), (∀ i, i < n → ∃ r, Q i r) → ∃ rs : List R, rs.length = n ∧ ∀ (i : Nat) (r : R), rs[i]? = some r → Q i r
  | 0, _ => ⟨[], rfl, fun i r hi => by simp at hi⟩
  | n + 1, h => by
    obtain ⟨rs, q1, q2⟩ := list_of n fun i hi => h i (by omega)
    obtain ⟨r, hr⟩ := h n (by omega)
    refine ⟨rs ++ [r], by simp [q1], fun i r' hi => ?_⟩
    by_cases hi' : i < n
    · rw [List.getElem?_append_left (by omega)] at hi
      exact q2 i r' hi
    · have him : i = n := by
        rcases Nat.lt_or_ge i (rs ++ [r]).length with h' | h'
        · simp at h'; omega
        · rw [List.getElem?_eq_none h'] at hi; cases hi
      subst him
      rw [List.getElem?_append_right (by omega), q1] at hi
      simp at hi
      subst hi
      exact hr

theorem open_slice_of {R : Type} (E : R → List Value → Prop) {t e : TypeId} (sz : Nat) (ht : P.underlying t = some (.slice e)) (hc : P.cellsOf e = sz) (hsz : 0 < sz)
    (hE : ∀ (n : Nat) (cs : List Value) (y : DataW H × List MemPlace), DataW.trod enc P w 0 (fun _ => true) true n e cs = some y → (∀ x ∈ y.2, x.block < w.heap.size) → ∃ r, E r cs)
    {v : Value} {d : DataW H} {ps : List MemPlace} (hval : Value.okWide P w .any b0 t v) (h : DataW.Trod enc P w 0 (fun _ => true) true t v d ps) (hlt : ∀ x ∈ ps, x.block < w.heap.size) :
    ∃ (A : Option Addr) (cap : Nat) (rs : List R), v = .slice A rs.length cap ∧ rs.length ≤ cap ∧ cap ≤ maxLen ∧ HoldsE E sz w w.heap.size A rs := by
  obtain ⟨a0, len, cap, rfl⟩ := okWide_slice ht hval
  obtain ⟨fuel, hfu⟩ := h
  rcases DataW.trod_slice ht hfu with ⟨hcs, _⟩ | ⟨a, len', cap', elems, rest, n, _, hcs, hx, _, hl, hm, hlen, hel, _, _⟩
  · simp [Value.cells] at hcs
    obtain ⟨rfl, rfl, rfl⟩ := hcs
    exact ⟨none, 0, [], rfl, Nat.le_refl _, Nat.zero_le _, fun h => absurd h (by simp)⟩
  · simp [Value.cells] at hcs
    obtain ⟨rfl, rfl, rfl⟩ := hcs
    simp only [Prod.mk.injEq] at hx
    have each : ∀ i, i < len → ∃ r, ∃ cs, E r cs ∧ cs.length = sz ∧ ∀ (j : Nat) (c : Value), cs[j]? = some c → w.cell? (a.add (i * sz + j)) = some c := by
      intro i hi
      have h1 := hel i hi
      have hx' : elems[i]? = some (elems[i]'(by omega)) := List.getElem?_eq_getElem (by omega)
      rw [hx'] at h1
      obtain ⟨cs, h2, h3⟩ := Option.bind_eq_some_iff.1 h1
      obtain ⟨_, h5, h6⟩ := World.cells?_some h2
      obtain ⟨r, hr⟩ := hE _ _ _ h3 (fun x hxx => hlt x (by
        rw [hx.2]
        refine List.mem_append_right _ ?_
        refine List.mem_flatMap.2 ⟨elems[i]'(by omega), ?_, hxx⟩
        first | exact List.getElem_mem _ | exact List.mem_append_left _ (List.getElem_mem _)))
      refine ⟨r, cs, hr, by rw [h5, hc], fun j c hj => ?_⟩
      have hj' : j < cs.length := by
        rcases Nat.lt_or_ge j cs.length with h' | h'
        · exact h'
        · rw [List.getElem?_eq_none h'] at hj; cases hj
      have h7 := h6 j (by omega)
      rw [hc] at h7
      have hadd : (a.add (i * sz)).add j = a.add (i * sz + j) := by
        unfold Addr.add
        by_cases h1 : i * sz = 0 <;> by_cases h2 : j = 0 <;> simp [h1, h2, Nat.add_assoc]
      rw [hadd] at h7
      rw [h7, hj]
    obtain ⟨rs, q1, q2⟩ := list_of len each
    refine ⟨some a, cap, rs, by rw [q1], by omega, hm, fun hx0 => ?_⟩
    obtain ⟨b, off, spot⟩ := a
    have hr0 : rs[0]? = some (rs[0]'hx0) := List.getElem?_eq_getElem hx0
    obtain ⟨cs0, _, hl0, hc0⟩ := q2 0 _ hr0
    have hspot : spot = none := by simpa [Addr.add] using World.cell?_spot (hc0 0 _ (List.getElem?_eq_getElem (by omega)))
    subst hspot
    have hpos : 0 < (elems.length + rest.length) * P.cellsOf e := Nat.mul_pos (by omega) (by omega)
    refine ⟨b, off, rfl, hlt (.cell b (off + 0)) (by rw [hx.2]; exact List.mem_append_left _ (MemPlace.mem_row.2 ⟨0, hpos, by simp⟩)), fun i r hi => ?_⟩
    obtain ⟨cs, h1, h2, h3⟩ := q2 i r hi
    refine ⟨cs, h1, h2, fun j c hj => ?_⟩
    have := h3 j c hj
    rw [add_plain] at this
    rw [Nat.add_assoc]
    exact this

/-- Three integers and bytes. -/
structure Stp where
  a : Int
  b : Int
  x : Int
  A : Option Addr
  cap : Nat
  zs : List Int

/-- How such a one lies in memory. -/
def StpIn (k0 k1 k2 : IntKind) (w : World) (B : Nat) (s : Stp) (cs : List Value) : Prop :=
  cs = [.int k0 s.a, .int k1 s.b, .int k2 s.x, .slice s.A s.zs.length s.cap] ∧ (Lit.int k0 s.a).wf = true ∧ (Lit.int k1 s.b).wf = true ∧ (Lit.int k2 s.x).wf = true ∧
    s.zs.length ≤ s.cap ∧ s.cap ≤ maxLen ∧ Octets s.zs ∧ Holds w B .u8 s.A s.zs

theorem read_iiib {t : TypeId} {fs : Array Field} {k0 k1 k2 : IntKind} (ht : P.underlying t = some (.struct fs)) (h0 : isInt P fs 0 0 k0 = true) (h1 : isInt P fs 1 1 k1 = true) (h2 : isInt P fs 2 2 k2 = true) (h3 : isBytes P fs 3 3 = true)
    (hsz : fs.size = 4) (hc : P.cellsOf t = 4) {n : Nat} {cs : List Value} {y : DataW H × List MemPlace} (h : DataW.trod enc P w 0 (fun _ => true) true n t cs = some y) (hlt : ∀ x ∈ y.2, x.block < w.heap.size) :
    ∃ s : Stp, StpIn k0 k1 k2 w w.heap.size s cs := by
  obtain ⟨xs, m, _, hx, hl, hxl, hg⟩ := DataW.trod_struct ht h
  obtain ⟨f0, e0, o0, s0, u0⟩ := isInt_of h0
  obtain ⟨f1, e1, o1, s1, u1⟩ := isInt_of h1
  obtain ⟨f2, e2, o2, s2, u2⟩ := isInt_of h2
  obtain ⟨f3, e, e3, o3, s3, u3, ue, ce⟩ := isBytes_of h3
  have x0 : xs[0]? = some (xs[0]'(by omega)) := List.getElem?_eq_getElem (by omega)
  have x1 : xs[1]? = some (xs[1]'(by omega)) := List.getElem?_eq_getElem (by omega)
  have x2 : xs[2]? = some (xs[2]'(by omega)) := List.getElem?_eq_getElem (by omega)
  have x3 : xs[3]? = some (xs[3]'(by omega)) := List.getElem?_eq_getElem (by omega)
  have g0 := hg 0 f0 e0
  have g1 := hg 1 f1 e1
  have g2 := hg 2 f2 e2
  have g3 := hg 3 f3 e3
  rw [o0, s0, x0] at g0
  rw [o1, s1, x1] at g1
  rw [o2, s2, x2] at g2
  rw [o3, s3, x3] at g3
  obtain ⟨a, ha, _, wa⟩ := DataW.trod_int u0 g0
  obtain ⟨b, hb, _, wb⟩ := DataW.trod_int u1 g1
  obtain ⟨x, hxx, _, wx⟩ := DataW.trod_int u2 g2
  obtain ⟨A, cap, zs, hs, r1, r2, r3, r4⟩ := octets_of u3 ue ce g3 (fun p hp => hlt p (by
    have hps : y.2 = xs.flatMap (·.2) := congrArg Prod.snd hx
    rw [hps]
    exact List.mem_flatMap.2 ⟨_, List.getElem_mem _, hp⟩))
  refine ⟨⟨a, b, x, A, cap, zs⟩, ?_, wa, wb, wx, r1, r2, r3, r4⟩
  have q0 := get_of_one ha
  have q1 := get_of_one hb
  have q2 := get_of_one hxx
  have q3 := get_of_one hs
  have hl4 : cs.length = 4 := by omega
  match cs, hl4, q0, q1, q2, q3 with
  | [y0, y1, y2, y3], _, q0, q1, q2, q3 =>
    simp at q0 q1 q2 q3
    subst q0 q1 q2 q3
    rfl

/-- A slice of such ones that came in. -/
theorem open_steps {t e : TypeId} {fs : Array Field} {k0 k1 k2 : IntKind} (ht : P.underlying t = some (.slice e)) (he : P.underlying e = some (.struct fs)) (h0 : isInt P fs 0 0 k0 = true) (h1 : isInt P fs 1 1 k1 = true) (h2 : isInt P fs 2 2 k2 = true) (h3 : isBytes P fs 3 3 = true)
    (hsz : fs.size = 4) (hc : P.cellsOf e = 4) {v : Value} {d : DataW H} {ps : List MemPlace} (hval : Value.okWide P w .any b0 t v) (h : DataW.Trod enc P w 0 (fun _ => true) true t v d ps) (hlt : ∀ x ∈ ps, x.block < w.heap.size) :
    ∃ (A : Option Addr) (cap : Nat) (ss : List Stp), v = .slice A ss.length cap ∧ ss.length ≤ cap ∧ cap ≤ maxLen ∧ HoldsE (StpIn k0 k1 k2 w w.heap.size) 4 w w.heap.size A ss :=
  open_slice_of (StpIn k0 k1 k2 w w.heap.size) 4 ht hc (by omega) (fun _ _ _ h hp => read_iiib he h0 h1 h2 h3 hsz hc h hp) hval h hlt

/-- The steps at A, element by element. -/
theorem stepAt {k0 k1 k2 : IntKind} {w : World} {B : Nat} {A : Option Addr} {ss : List Stp} (h : HoldsE (StpIn k0 k1 k2 w B) 4 w B A ss) {i : Nat} (hi : i < ss.length) :
    ∃ b off : Nat, A = some ⟨b, off, none⟩ ∧ b < B ∧ w.cell? ⟨b, off + i * 4, none⟩ = some (.int k0 ss[i].a) ∧ w.cell? ⟨b, off + i * 4 + 1, none⟩ = some (.int k1 ss[i].b) ∧ w.cell? ⟨b, off + i * 4 + 2, none⟩ = some (.int k2 ss[i].x) ∧
      w.cell? ⟨b, off + i * 4 + 3, none⟩ = some (.slice ss[i].A ss[i].zs.length ss[i].cap) ∧ (Lit.int k0 ss[i].a).wf = true ∧ (Lit.int k1 ss[i].b).wf = true ∧ (Lit.int k2 ss[i].x).wf = true ∧
      ss[i].zs.length ≤ ss[i].cap ∧ ss[i].cap ≤ maxLen ∧ Octets ss[i].zs ∧ Holds w B .u8 ss[i].A ss[i].zs := by
  obtain ⟨b, off, rfl, hb, hc⟩ := h (by omega)
  obtain ⟨cs, ⟨rfl, r1, r2, r3, r4, r5, r6, r7⟩, _, hcs⟩ := hc i ss[i] (List.getElem?_eq_getElem hi)
  exact ⟨b, off, rfl, hb, by simpa using hcs 0 _ rfl, hcs 1 _ rfl, hcs 2 _ rfl, hcs 3 _ rfl, r1, r2, r3, r4, r5, r6, r7⟩

theorem steps_below {k0 k1 k2 : IntKind} {w w' : World} {B : Nat} {A : Option Addr} {ss : List Stp} (h : HoldsE (StpIn k0 k1 k2 w B) 4 w B A ss) (hb : Below B w w') : HoldsE (StpIn k0 k1 k2 w' B) 4 w' B A ss :=
  h.keep (fun _ hp => hb.cell hp) fun _ _ ⟨r0, r1, r2, r3, r4, r5, r6, r7⟩ => ⟨r0, r1, r2, r3, r4, r5, r6, r7.below hb⟩
end
end Go.Proofs.YthflefdchgpbdaaDoor.Kit

namespace Go.Proofs.YthflefdchgpbdaaDoor.Kit
open Go.ChangeShapes Go.WideShapes Go.ChangeAt Go.RowKit

/-- A row of bytes. -/
structure Rw where
  A : Option Addr
  cap : Nat
  zs : List Int

/-- How such a one lies in memory. -/
def RwIn (w : World) (B : Nat) (r : Rw) (cs : List Value) : Prop := cs = [.slice r.A r.zs.length r.cap] ∧ r.zs.length ≤ r.cap ∧ r.cap ≤ maxLen ∧ Octets r.zs ∧ Holds w B .u8 r.A r.zs

/-- The slice at A holds these rows of bytes, all below block B. -/
def HoldsW (w : World) (B : Nat) (A : Option Addr) (rs : List Rw) : Prop := HoldsE (RwIn w B) 1 w B A rs

section
variable {H : Type} {enc : TypeId × Value → H} {P : Program} {w w' : World} {b0 : Nat}
theorem open_rowsB {t u e : TypeId} (ht : P.underlying t = some (.slice u)) (hu : P.underlying u = some (.slice e)) (he : P.underlying e = some (.int .u8)) (hcu : P.cellsOf u = 1) (hce : P.cellsOf e = 1)
    {v : Value} {d : DataW H} {ps : List MemPlace} (hval : Value.okWide P w .any b0 t v) (h : DataW.Trod enc P w 0 (fun _ => true) true t v d ps) (hlt : ∀ x ∈ ps, x.block < w.heap.size) :
    ∃ (A : Option Addr) (cap : Nat) (rs : List Rw), v = .slice A rs.length cap ∧ rs.length ≤ cap ∧ cap ≤ maxLen ∧ HoldsW w w.heap.size A rs :=
  open_slice_of (RwIn w w.heap.size) 1 ht hcu (by omega) (fun _ _ _ h hp => by
    obtain ⟨A, cap, zs, rfl, r1, r2, r3, r4⟩ := octets_of hu he hce h hp
    exact ⟨⟨A, cap, zs⟩, rfl, r1, r2, r3, r4⟩) hval h hlt

theorem rwAt {B : Nat} {A : Option Addr} {rs : List Rw} (h : HoldsW w B A rs) {i : Nat} (hi : i < rs.length) :
    ∃ b off : Nat, A = some ⟨b, off, none⟩ ∧ b < B ∧ w.cell? ⟨b, off + i, none⟩ = some (.slice rs[i].A rs[i].zs.length rs[i].cap) ∧ rs[i].zs.length ≤ rs[i].cap ∧ rs[i].cap ≤ maxLen ∧ Octets rs[i].zs ∧ Holds w B .u8 rs[i].A rs[i].zs := by
  obtain ⟨b, off, rfl, hb, hc⟩ := h (by omega)
  obtain ⟨cs, ⟨rfl, r4, r5, r6, r7⟩, _, hcs⟩ := hc i rs[i] (List.getElem?_eq_getElem hi)
  exact ⟨b, off, rfl, hb, by simpa using hcs 0 _ rfl, r4, r5, r6, r7⟩

theorem HoldsW.below {B : Nat} {A : Option Addr} {rs : List Rw} (h : HoldsW w B A rs) (hb : Below B w w') : HoldsW w' B A rs :=
  h.keep (fun _ hp => hb.cell hp) fun _ _ ⟨r0, r4, r5, r6, r7⟩ => ⟨r0, r4, r5, r6, r7.below hb⟩

theorem HoldsW.more {B B' : Nat} {A : Option Addr} {rs : List Rw} (h : HoldsW w B A rs) (hB : B ≤ B') : HoldsW w B' A rs := by
  intro hx
  obtain ⟨b, off, e, hb, hc⟩ := h hx
  refine ⟨b, off, e, by omega, fun i r hi => ?_⟩
  obtain ⟨cs, ⟨r0, r4, r5, r6, r7⟩, h2, h3⟩ := hc i r hi
  exact ⟨cs, ⟨r0, r4, r5, r6, r7.more hB⟩, h2, h3⟩

/-- The first n rows. -/
theorem HoldsW.head {B : Nat} {A : Option Addr} {rs : List Rw} (h : HoldsW w B A rs) (n : Nat) : HoldsW w B A (rs.take n) := by
  intro hx
  simp only [List.length_take] at hx
  obtain ⟨b, off, e, hb, hc⟩ := h (by omega)
  refine ⟨b, off, e, hb, fun i r hi => hc i r ?_⟩
  rw [List.getElem?_take] at hi
  split at hi
  · exact hi
  · cases hi

/-- All rows' bytes. -/
def joinL (rs : List Rw) : List Int := rs.flatMap (·.zs)
theorem joinL_next {rs : List Rw} {i : Nat} (hi : i < rs.length) : joinL (rs.take (i + 1)) = joinL (rs.take i) ++ rs[i].zs := by
  unfold joinL
  rw [List.take_succ_eq_append_getElem hi, List.flatMap_append]
  simp
theorem joinL_le {rs : List Rw} {m : Nat} (h : ∀ r ∈ rs, r.zs.length ≤ m) : (joinL rs).length ≤ rs.length * m := by
  induction rs with
  | nil => simp [joinL]
  | cons r rs ih =>
    have h1 := ih (fun x hx => h x (by simp [hx]))
    have h2 := h r (by simp)
    unfold joinL at h1 ⊢
    rw [List.flatMap_cons, List.length_append, List.length_cons, Nat.succ_mul]
    omega
theorem joinL_octets {rs : List Rw} (h : ∀ r ∈ rs, Octets r.zs) : Octets (joinL rs) := by
  intro x hx
  obtain ⟨r, hr, hx⟩ := List.mem_flatMap.1 hx
  exact h r hr x hx
theorem HoldsW.octets {B : Nat} {A : Option Addr} {rs : List Rw} (h : HoldsW w B A rs) : ∀ r ∈ rs, Octets r.zs := by
  intro r hr
  obtain ⟨i, hi, rfl⟩ := List.mem_iff_getElem.1 hr
  obtain ⟨_, _, _, _, _, _, _, h6, _⟩ := rwAt h hi
  exact h6
end
end Go.Proofs.YthflefdchgpbdaaDoor.Kit

namespace Go.Proofs.YthflefdchgpbdaaDoor.Kit
open Go.ChangeShapes Go.WideShapes Go.ChangeAt Go.RowKit

/-- The head of the list is an array of integers: its cells; and the rest. -/
theorem laid_ints {P : Program} {w : World} {nm : String} {d : DataW Unit} {r : List (String × DataW Unit)} {ps : List MemPlace} (h : DataW.LaidVars P w ((nm, d) :: r) ps)
    {k : IntKind} (xs : List Int) (hd : d = .agg (xs.map fun z => .lit (.int k z))) {g : Nat} {t e : TypeId} (hg : P.globalNamed nm = some g) (ht : (P.globals[g]?).map (·.type) = some t)
    (hu : P.underlying t = some (.array xs.length e)) (he : P.underlying e = some (.int k)) (hc : P.cellsOf e = 1) :
    (∀ i, i < xs.length → w.cell? ⟨g, i, none⟩ = some (.int k (xs.getD i 0))) ∧ ∃ q, DataW.LaidVars P w r q := by
  obtain ⟨g', t', cs, fuel, p, q, hg', ht', hv, htr, hrest, _⟩ := h
  obtain rfl := Option.some.inj (hg.symm.trans hg')
  obtain rfl := Option.some.inj (ht.symm.trans ht')
  refine ⟨fun i hi => ?_, q, hrest⟩
  obtain ⟨ys, m, _, hy, hl, hn, hel⟩ := DataW.trod_array hu htr
  subst hd
  simp only [Prod.mk.injEq, DataW.agg.injEq] at hy
  have hyi : ys[i]? = some (ys[i]'(by omega)) := List.getElem?_eq_getElem (by omega)
  have h1 := hel i hi
  rw [hc, Nat.mul_one, hyi] at h1
  obtain ⟨z, hz, hz2, _⟩ := DataW.trod_int he h1
  have h2 : (ys.map (·.1))[i]? = (xs.map fun z => (DataW.lit (.int k z) : DataW Unit))[i]? := by rw [hy.1]
  rw [List.getElem?_map, hyi, List.getElem?_map, List.getElem?_eq_getElem hi, Option.map_some, Option.map_some, hz2] at h2
  injection h2 with h2
  simp only [DataW.lit.injEq, Lit.int.injEq] at h2
  have h3 := World.var?_cell hg' hv i
  rw [h3, List.getD_eq_getElem?_getD, List.getElem?_eq_getElem hi, Option.getD_some, ← h2.2]
  have h4 : ((cs.toList.drop i).take 1)[0]? = some (.int k z) := by rw [hz]; rfl
  rw [List.getElem?_take, List.getElem?_drop] at h4
  simpa using h4
end Go.Proofs.YthflefdchgpbdaaDoor.Kit
