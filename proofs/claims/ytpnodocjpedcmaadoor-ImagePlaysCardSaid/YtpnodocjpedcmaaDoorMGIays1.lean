/-
  Layer 1, sha: two ways to choose bits, one answer; the words of a block and the rounds, as plain functions. No program. No conditions beyond what each theorem names.
  Layer 1, sha: the words of a block, the rounds, the state behind bytes: plain words. No program. No conditions beyond what each theorem names.
  Layer 1, sha: the words of a block: contract. Conditions: as each theorem names.
  Layer 1, sha: a block mixed into a state: contract. Conditions: as each theorem names.
  Layer 1, sha: the state behind bytes, the sum: plain words; what a hash's block has. No program but its types. No conditions beyond what each theorem names.
  Layer 1, sha: a hash: new, its length, a copy: contracts. Conditions: as each theorem names.
  Layer 24, journal: records in memory; whether a record may be: contracts. Conditions: as each theorem names.
  Own words for rows of values of one cell each (slices, strings) that a call makes itself: append, and rows of bytes among them. No program. No conditions beyond what each theorem names.
  Layer 24, journal: whether a record may be: contracts. Conditions: as each theorem names.
  Layer 2, octet: the plain arithmetic. No program. No conditions beyond what each theorem names.
  Layer 2, octet: contracts of the program's and the document's functions. Conditions: as each theorem names.
  Own words: append of one integer, as one step of a plain region, with all that a caller wants to know. No program. No conditions beyond what each theorem names.
  Own words: two rows of bytes that read as one string are the same. No program. No conditions beyond what each theorem names.
  Own words for struct parameters of integers, arrays of integers and slices of integers, in any order, and slices of such. No program. No conditions beyond what each theorem names.
  Layer 24, journal: a record that comes in. Conditions: as each theorem names.
  Own words for package-level arrays of integers that the program's own text lays. No program. No conditions beyond what each theorem names.
-/
import Derived.Test.YtpnodocjpedcmaaDoorMGIays0
import Derived.Laws.BitsAllLaws
import Derived.StillTailTactics
import Derived.Outline
import Derived.Deep.DeepCutAuto
import Derived.BigQuiet
import Derived.Deep.QuietTactic
import Derived.IntWalk
import Derived.Deep.RegionWith
import Derived.Laws.CopyOwn
import Derived.Test.YtpnodocjpedcmaaDoorRows
import Derived.LoopTactic
import Derived.OpenShut
import Derived.LaidMore
import Derived.MakeChecks
import Derived.Stop.Joined
namespace Go.Proofs.YtpnodocjpedcmaaDoor.Sha
open Go.ChangeShapes Go.WideShapes Go.ChangeAt Go.RowKit Go.Proofs.YtpnodocjpedcmaaDoor.Kit

theorem pick_nat (e f g : Nat) (he : e < 4294967296) : ((e &&& f) ^^^ ((4294967295 ^^^ e) &&& g)) = ((e &&& f) ||| ((4294967295 ^^^ e) &&& g)) := by
  apply Nat.eq_of_testBit_eq
  intro i
  rw [Nat.testBit_xor, Nat.testBit_or, Nat.testBit_and, Nat.testBit_and, Nat.testBit_xor]
  have h1 : Nat.testBit 4294967295 i = decide (i < 32) := Nat.testBit_two_pow_sub_one 32 i
  rw [h1]
  by_cases hi : i < 32
  · rw [decide_eq_true hi]
    cases e.testBit i <;> cases f.testBit i <;> cases g.testBit i <;> rfl
  · have h2 : e.testBit i = false := Nat.testBit_lt_two_pow (Nat.lt_of_lt_of_le (show e < 2 ^ 32 by omega) (Nat.pow_le_pow_right (n := 2) (by decide) (by omega)))
    rw [h2, decide_eq_false hi]
    cases f.testBit i <;> cases g.testBit i <;> rfl

theorem most_nat (a b c : Nat) : (((a &&& b) ^^^ (a &&& c)) ^^^ (b &&& c)) = (((a &&& b) ||| (a &&& c)) ||| (b &&& c)) := by
  apply Nat.eq_of_testBit_eq
  intro i
  simp only [Nat.testBit_xor, Nat.testBit_or, Nat.testBit_and]
  cases a.testBit i <;> cases b.testBit i <;> cases c.testBit i <;> rfl

def W32 (x : Int) : Prop := 0 ≤ x ∧ x ≤ 4294967295

theorem W32.nat {x : Int} (h : W32 x) : ∃ n : Nat, x = n ∧ n < 4294967296 := by
  obtain ⟨n, rfl⟩ := Int.eq_ofNat_of_zero_le h.1
  exact ⟨n, rfl, by have := h.2; omega⟩

def picks (e f g : Int) : Int := bits BinOp.xor .u32 (bits BinOp.and .u32 e f) (bits BinOp.and .u32 (bits BinOp.xor .u32 IntKind.u32.max e) g)
def most (a b c : Int) : Int := bits BinOp.xor .u32 (bits BinOp.xor .u32 (bits BinOp.and .u32 a b) (bits BinOp.and .u32 a c)) (bits BinOp.and .u32 b c)

theorem and_lt {a : Nat} (b : Nat) (h : a < 4294967296) : a &&& b < 4294967296 := Nat.lt_of_le_of_lt Nat.and_le_left h
theorem xor_lt {a b : Nat} (h : a < 4294967296) (h2 : b < 4294967296) : a ^^^ b < 4294967296 := Nat.xor_lt_two_pow (n := 32) h h2
theorem or_lt {a b : Nat} (h : a < 4294967296) (h2 : b < 4294967296) : a ||| b < 4294967296 := Nat.or_lt_two_pow (n := 32) h h2

theorem picks_or {e f g : Int} (he : W32 e) (hf : W32 f) (hg : W32 g) : bits BinOp.or .u32 (bits BinOp.and .u32 e f) (bits BinOp.and .u32 (bits BinOp.xor .u32 IntKind.u32.max e) g) = picks e f g := by
  obtain ⟨e, rfl, ke⟩ := he.nat
  obtain ⟨f, rfl, kf⟩ := hf.nat
  obtain ⟨g, rfl, kg⟩ := hg.nat
  unfold picks
  rw [show IntKind.u32.max = ((4294967295 : Nat) : Int) by rfl, u32_xor_nat _ _ (by decide) ke, u32_and_nat e f ke kf, u32_and_nat _ g (xor_lt (by decide) ke) kg, u32_or_nat _ _ (and_lt f ke) (and_lt g (xor_lt (by decide) ke)), u32_xor_nat _ _ (and_lt f ke) (and_lt g (xor_lt (by decide) ke)), pick_nat e f g ke]

theorem most_or {a b c : Int} (ha : W32 a) (hb : W32 b) (hc : W32 c) : bits BinOp.or .u32 (bits BinOp.or .u32 (bits BinOp.and .u32 a b) (bits BinOp.and .u32 a c)) (bits BinOp.and .u32 b c) = most a b c := by
  obtain ⟨a, rfl, ka⟩ := ha.nat
  obtain ⟨b, rfl, kb⟩ := hb.nat
  obtain ⟨c, rfl, kc⟩ := hc.nat
  unfold most
  rw [u32_and_nat a b ka kb, u32_and_nat a c ka kc, u32_and_nat b c kb kc, u32_or_nat _ _ (and_lt b ka) (and_lt c ka), u32_xor_nat _ _ (and_lt b ka) (and_lt c ka), u32_or_nat _ _ (or_lt (and_lt b ka) (and_lt c ka)) (and_lt c kb), u32_xor_nat _ _ (xor_lt (and_lt b ka) (and_lt c ka)) (and_lt c kb), most_nat a b c]
end Go.Proofs.YtpnodocjpedcmaaDoor.Sha

namespace Go.Proofs.YtpnodocjpedcmaaDoor.Sha
open Go.ChangeShapes Go.WideShapes Go.ChangeAt Go.RowKit Go.Proofs.YtpnodocjpedcmaaDoor.Kit

/-- The sum of two words. -/
def add32 (a b : Int) : Int := (a + b) % 4294967296
theorem add32_bd (a b : Int) : W32 (add32 a b) := by unfold add32 W32; omega
theorem add32_wrap (a b : Int) : IntKind.u32.wrap (a + b) = add32 a b := by rw [IntKind.wrap_u32]; rfl
theorem add32_comm (a b : Int) : add32 a b = add32 b a := by unfold add32; rw [Int.add_comm]

theorem add32_4 (a b c d : Int) : add32 (add32 (add32 a b) c) d = (a + b + c + d) % 4294967296 := by unfold add32; omega
theorem add32_5 (a b c d e : Int) : add32 (add32 (add32 (add32 a b) c) d) e = (a + b + c + d + e) % 4294967296 := by unfold add32; omega

def sig0 (x : Int) : Int := bits BinOp.xor .u32 (bits BinOp.xor .u32 (rot x 7) (rot x 18)) (x / 8)
def sig1 (x : Int) : Int := bits BinOp.xor .u32 (bits BinOp.xor .u32 (rot x 17) (rot x 19)) (x / 1024)
def sum0 (x : Int) : Int := bits BinOp.xor .u32 (bits BinOp.xor .u32 (rot x 2) (rot x 13)) (rot x 22)
def sum1 (x : Int) : Int := bits BinOp.xor .u32 (bits BinOp.xor .u32 (rot x 6) (rot x 11)) (rot x 25)

/-- The i-th word of bytes. -/
def wordB (bs : List Int) (i : Nat) : Int :=
  bits BinOp.or .u32 (bits BinOp.or .u32 (bits BinOp.or .u32 (bs.getD (4 * i) 0 * 16777216) (bs.getD (4 * i + 1) 0 * 65536)) (bs.getD (4 * i + 2) 0 * 256)) (bs.getD (4 * i + 3) 0)
def mixW (l : List Int) (n : Nat) : Int := add32 (add32 (add32 (l.getD (n - 16) 0) (sig0 (l.getD (n - 15) 0))) (l.getD (n - 7) 0)) (sig1 (l.getD (n - 2) 0))
/-- The first n words of a block. -/
def sched (bs : List Int) : Nat → List Int
  | 0 => []
  | n + 1 => sched bs n ++ [if n < 16 then wordB bs n else mixW (sched bs n) n]

theorem sched_length (bs : List Int) : ∀ n, (sched bs n).length = n
  | 0 => rfl
  | n + 1 => by rw [sched, List.length_append, sched_length bs n]; rfl

theorem sched_bd (bs : List Int) : ∀ n, ∀ x ∈ sched bs n, W32 x
  | 0, x, h => by simp [sched] at h
  | n + 1, x, h => by
    rw [sched] at h
    rcases List.mem_append.1 h with h | h
    · exact sched_bd bs n x h
    · obtain rfl := List.mem_singleton.1 h
      split
      · exact or_bd _ _
      · exact add32_bd _ _

theorem sched_get (bs : List Int) (n i : Nat) : W32 ((sched bs n).getD i 0) := by
  rw [List.getD_eq_getElem?_getD]
  cases h : (sched bs n)[i]? with
  | none => unfold W32; simp
  | some x => exact sched_bd bs n x (List.mem_of_getElem? h)

/-- A list, with zeros up to 64. -/
def padZ (l : List Int) : List Int := l ++ List.replicate (64 - l.length) 0
theorem padZ_length {l : List Int} (h : l.length ≤ 64) : (padZ l).length = 64 := by unfold padZ; simp; omega
theorem padZ_nil : padZ [] = List.replicate 64 0 := rfl
theorem padZ_full {l : List Int} (h : l.length = 64) : padZ l = l := by unfold padZ; rw [h]; simp
theorem padZ_get {l : List Int} {i : Nat} (h : i < l.length) : (padZ l)[i]?.getD 0 = l.getD i 0 := by
  unfold padZ
  rw [List.getElem?_append_left h]
  rfl
theorem padZ_set {l : List Int} {x : Int} (h : l.length < 64) : (padZ l).set l.length x = padZ (l ++ [x]) := by
  unfold padZ
  obtain ⟨k, hk⟩ : ∃ k, 64 - l.length = k + 1 := ⟨63 - l.length, by omega⟩
  rw [hk, List.replicate_succ, List.set_append, if_neg (by omega), Nat.sub_self, List.set_cons_zero, List.length_append, List.length_singleton, show 64 - (l.length + 1) = k by omega, List.append_assoc]
  rfl

theorem sched_set (bs : List Int) (n : Nat) (h : n < 64) : (padZ (sched bs n)).set n (if n < 16 then wordB bs n else mixW (sched bs n) n) = padZ (sched bs (n + 1)) := by
  have := padZ_set (l := sched bs n) (x := if n < 16 then wordB bs n else mixW (sched bs n) n) (by rw [sched_length]; omega)
  rw [sched_length] at this
  rw [this, sched]

/-- l is the first n words. -/
structure IsSched (bs : List Int) (n : Nat) (l : List Int) : Prop where
  out : l = sched bs n
theorem IsSched.length {bs : List Int} {n : Nat} {l : List Int} (h : IsSched bs n l) : l.length = n := by rw [h.out, sched_length]
theorem IsSched.get {bs : List Int} {n : Nat} {l : List Int} (h : IsSched bs n l) (i : Nat) : W32 (l.getD i 0) := by rw [h.out]; exact sched_get bs n i
theorem IsSched.next {bs : List Int} {n : Nat} {l : List Int} (h : IsSched bs n l) (hn : n < 64) :
    ∃ l', IsSched bs (n + 1) l' ∧ (padZ l).set n (if n < 16 then wordB bs n else mixW l n) = padZ l' :=
  ⟨_, ⟨rfl⟩, by have := sched_set bs n hn; rw [← h.out] at this; exact this⟩

/-- One round over a state of eight words. -/
def roundS (s : List Int) (k x : Int) : List Int :=
  let t := add32 (add32 (add32 (add32 (s.getD 7 0) (sum1 (s.getD 4 0))) (picks (s.getD 4 0) (s.getD 5 0) (s.getD 6 0))) k) x
  let u := add32 (sum0 (s.getD 0 0)) (most (s.getD 0 0) (s.getD 1 0) (s.getD 2 0))
  [add32 t u, s.getD 0 0, s.getD 1 0, s.getD 2 0, add32 (s.getD 3 0) t, s.getD 4 0, s.getD 5 0, s.getD 6 0]

def cubesL : List Int := [0x428a2f98, 0x71374491, 0xb5c0fbcf, 0xe9b5dba5, 0x3956c25b, 0x59f111f1, 0x923f82a4, 0xab1c5ed5, 0xd807aa98, 0x12835b01, 0x243185be, 0x550c7dc3, 0x72be5d74, 0x80deb1fe, 0x9bdc06a7, 0xc19bf174, 0xe49b69c1, 0xefbe4786, 0x0fc19dc6, 0x240ca1cc, 0x2de92c6f, 0x4a7484aa, 0x5cb0a9dc, 0x76f988da, 0x983e5152, 0xa831c66d, 0xb00327c8, 0xbf597fc7, 0xc6e00bf3, 0xd5a79147, 0x06ca6351, 0x14292967, 0x27b70a85, 0x2e1b2138, 0x4d2c6dfc, 0x53380d13, 0x650a7354, 0x766a0abb, 0x81c2c92e, 0x92722c85, 0xa2bfe8a1, 0xa81a664b, 0xc24b8b70, 0xc76c51a3, 0xd192e819, 0xd6990624, 0xf40e3585, 0x106aa070, 0x19a4c116, 0x1e376c08, 0x2748774c, 0x34b0bcb5, 0x391c0cb3, 0x4ed8aa4a, 0x5b9cca4f, 0x682e6ff3, 0x748f82ee, 0x78a5636f, 0x84c87814, 0x8cc70208, 0x90befffa, 0xa4506ceb, 0xbef9a3f7, 0xc67178f2]

/-- The state behind n rounds. -/
def roundsS (ws : List Int) : Nat → List Int → List Int
  | 0, s => s
  | n + 1, s => roundS (roundsS ws n s) (cubesL.getD n 0) (ws.getD n 0)

/-- Eight words. -/
def St8 (s : List Int) : Prop := s.length = 8 ∧ ∀ x ∈ s, W32 x

theorem St8.open_ {s : List Int} (h : St8 s) : ∃ a b c d e f g i : Int, s = [a, b, c, d, e, f, g, i] ∧ W32 a ∧ W32 b ∧ W32 c ∧ W32 d ∧ W32 e ∧ W32 f ∧ W32 g ∧ W32 i := by
  obtain ⟨hl, hb⟩ := h
  match s, hl with
  | [a, b, c, d, e, f, g, i], _ => exact ⟨a, b, c, d, e, f, g, i, rfl, hb a (by simp), hb b (by simp), hb c (by simp), hb d (by simp), hb e (by simp), hb f (by simp), hb g (by simp), hb i (by simp)⟩

theorem roundS_st {s : List Int} (h : St8 s) (k x : Int) : St8 (roundS s k x) := by
  obtain ⟨a, b, c, d, e, f, g, i, rfl, h1, h2, h3, h4, h5, h6, h7, h8⟩ := h.open_
  refine ⟨rfl, fun y hy => ?_⟩
  simp only [roundS, List.mem_cons, List.not_mem_nil, or_false] at hy
  rcases hy with rfl | rfl | rfl | rfl | rfl | rfl | rfl | rfl
  · exact add32_bd _ _
  · exact h1
  · exact h2
  · exact h3
  · exact add32_bd _ _
  · exact h5
  · exact h6
  · exact h7

theorem roundsS_st (ws : List Int) {s : List Int} (h : St8 s) : ∀ n, St8 (roundsS ws n s)
  | 0 => h
  | n + 1 => roundS_st (roundsS_st ws h n) _ _

/-- A state, mixed with a block of 64 bytes. -/
def mixS (s bs : List Int) : List Int := List.zipWith add32 s (roundsS (sched bs 64) 64 s)

theorem mixS_st {s : List Int} (bs : List Int) (h : St8 s) : St8 (mixS s bs) := by
  obtain ⟨a, b, c, d, e, f, g, i, rfl, _⟩ := h.open_
  have h2 := roundsS_st (sched bs 64) h 64
  unfold mixS
  obtain ⟨a', b', c', d', e', f', g', i', hr, _⟩ := h2.open_
  rw [hr]
  refine ⟨rfl, fun y hy => ?_⟩
  simp only [List.zipWith_cons_cons, List.zipWith_nil_left, List.mem_cons, List.not_mem_nil, or_false] at hy
  rcases hy with rfl | rfl | rfl | rfl | rfl | rfl | rfl | rfl <;> exact add32_bd _ _

def ivL : List Int := [0x6a09e667, 0xbb67ae85, 0x3c6ef372, 0xa54ff53a, 0x510e527f, 0x9b05688c, 0x1f83d9ab, 0x5be0cd19]

/-- The state behind n blocks. -/
def foldN : Nat → List Int → List Int → List Int
  | 0, s, _ => s
  | n + 1, s, bs => foldN n (mixS s (bs.take 64)) (bs.drop 64)

theorem foldN_st : ∀ (n : Nat) {s : List Int} (bs : List Int), St8 s → St8 (foldN n s bs)
  | 0, _, _, h => h
  | n + 1, _, bs, h => foldN_st n (bs.drop 64) (mixS_st _ h)

theorem foldN_add : ∀ (m n : Nat) (s bs : List Int), foldN (m + n) s bs = foldN n (foldN m s bs) (bs.drop (64 * m))
  | 0, n, s, bs => by simp [foldN]
  | m + 1, n, s, bs => by
    rw [show m + 1 + n = (m + n) + 1 by omega, foldN, foldN_add m n, foldN, List.drop_drop, show 64 + 64 * m = 64 * (m + 1) by omega]

theorem foldN_next (n : Nat) (s bs : List Int) : foldN (n + 1) s bs = mixS (foldN n s bs) ((bs.drop (64 * n)).take 64) := foldN_add n 1 s bs

/-- What stands behind the blocks doesn't count. -/
theorem foldN_app : ∀ (n : Nat) (s x y : List Int), 64 * n ≤ x.length → foldN n s (x ++ y) = foldN n s x
  | 0, _, _, _, _ => rfl
  | n + 1, s, x, y, h => by
    rw [foldN, foldN, List.take_append_of_le_length (by omega), List.drop_append_of_le_length (by omega), foldN_app n _ _ _ (by simp; omega)]
end Go.Proofs.YtpnodocjpedcmaaDoor.Sha

namespace Go.Proofs.YtpnodocjpedcmaaDoor.Sha
open Go.ChangeShapes Go.WideShapes Go.ChangeAt Go.RowKit Go.Proofs.YtpnodocjpedcmaaDoor.Kit

def Z64 : Array Value := #[.int .u32 0, .int .u32 0, .int .u32 0, .int .u32 0, .int .u32 0, .int .u32 0, .int .u32 0, .int .u32 0, .int .u32 0, .int .u32 0, .int .u32 0, .int .u32 0, .int .u32 0, .int .u32 0, .int .u32 0, .int .u32 0, .int .u32 0, .int .u32 0, .int .u32 0, .int .u32 0, .int .u32 0, .int .u32 0, .int .u32 0, .int .u32 0, .int .u32 0, .int .u32 0, .int .u32 0, .int .u32 0, .int .u32 0, .int .u32 0, .int .u32 0, .int .u32 0, .int .u32 0, .int .u32 0, .int .u32 0, .int .u32 0, .int .u32 0, .int .u32 0, .int .u32 0, .int .u32 0, .int .u32 0, .int .u32 0, .int .u32 0, .int .u32 0, .int .u32 0, .int .u32 0, .int .u32 0, .int .u32 0, .int .u32 0, .int .u32 0, .int .u32 0, .int .u32 0, .int .u32 0, .int .u32 0, .int .u32 0, .int .u32 0, .int .u32 0, .int .u32 0, .int .u32 0, .int .u32 0, .int .u32 0, .int .u32 0, .int .u32 0, .int .u32 0]
theorem z64_eq : ((List.replicate 64 (0 : Int)).map (Value.int .u32)).toArray = Z64 := rfl

theorem getD_octet {xs : List Int} (h : Octets xs) (j : Nat) : 0 ≤ xs.getD j 0 ∧ xs.getD j 0 ≤ 255 := by
  rw [List.getD_eq_getElem?_getD]
  exact h.at_ j

theorem arr64 (W : World) : Arr (W.alloc (.cells Z64 166)) W.heap.size 166 .u32 (List.replicate 64 0) := by
  have := Arr.new W 166 .u32 (List.replicate 64 0)
  rw [z64_eq] at this
  exact this

set_option maxRecDepth 100000 in
set_option maxHeartbeats 3200000 in
theorem words_any (A : Option Addr) (bs : List Int) (c : Nat) (w : World) (hl : bs.length = 64) (hc : 64 ≤ c) (hm : c ≤ maxLen) (ho : Octets bs) (hr : Holds w w.heap.size .u8 A bs) :
    Calls Tryd.prog 103 #[.slice A 64 c] w fun e w' => e = .returned (arrV .u32 (sched bs 64)) ∧ Below w.heap.size w w' := by
  have hb0 : Below w.heap.size w ((w.alloc (.cells Z64 166)).alloc (.cells Z64 166)) := ((Below.refl _ _).alloc (Nat.le_refl _) _).alloc (by simp) _
  have a2 : Arr ((w.alloc (.cells Z64 166)).alloc (.cells Z64 166)) w.heap.size 166 .u32 (List.replicate 64 0) := (arr64 w).alloc _
  have a3 : Arr ((w.alloc (.cells Z64 166)).alloc (.cells Z64 166)) (w.heap.size + 1) 166 .u32 (padZ (sched bs 0)) := by
    have := arr64 (w.alloc (.cells Z64 166))
    rw [show (w.alloc (.cells Z64 166)).heap.size = w.heap.size + 1 by simp] at this
    exact this
  obtain ⟨b, off, rfl, hb, hcs⟩ := hr (by omega)
  unfold maxLen at hm
  go_enter Tryd.func103, Tryd.ntmps103
  go_wp2_with fail
  change Code.wp _ _ _ _ ((w.alloc (.cells Z64 166)).alloc (.cells Z64 166))
  generalize (w.alloc (.cells Z64 166)).alloc (.cells Z64 166) = w0 at *
  go_loopw [11] (fun s wx => ∃ i : Nat, i ≤ 16 ∧ s = .int .i64 i ∧ Arr wx (w.heap.size + 1) 166 .u32 (padZ (sched bs i)) ∧ Arr wx w.heap.size 166 .u32 (List.replicate 64 0) ∧ Below w.heap.size w wx) (fun s _ => 16 - (intOf s).toNat)
  case atStart => exact ⟨0, by omega, rfl, a3, a2, hb0⟩
  case round =>
    obtain ⟨i, hi, rfl, k3, k2, hbx⟩ := hrel
    by_cases hlt : i < 16
    · have d := fun j (hj : 4 * i + j < bs.length) => (hbx.cell (p := ⟨b, off + (4 * i + j), none⟩) hb).trans (hcs (4 * i + j) hj)
      have d0 := d 0 (by omega)
      have d1 := d 1 (by omega)
      have d2 := d 2 (by omega)
      have d3 := d 3 (by omega)
      rw [← Nat.add_assoc] at d0 d1 d2 d3
      rw [Nat.add_zero, Nat.add_zero] at d0
      have hsl : 4 * i + 4 - 4 * i = 4 := by omega
      have hix : (i : Int) < 64 := by omega
      have hi0 : (0 : Int) ≤ (i : Int) := by omega
      have k3d : Arr wr.drew (w.heap.size + 1) 166 .u32 (padZ (sched bs i)) := k3
      have k2d : Arr wr.drew w.heap.size 166 .u32 (List.replicate 64 0) := k2
      have hbd : Below w.heap.size w wr.drew := below_draws hbx 1
      have e3 := k3d.cell (i := i) (by rw [padZ_length (by rw [sched_length]; omega)]; omega)
      have z3 := k3d.frozen i
      have y0 := getD_octet ho (4 * i)
      have y1 := getD_octet ho (4 * i + 1)
      have y2 := getD_octet ho (4 * i + 2)
      have y3 := getD_octet ho (4 * i + 3)
      have hset : (padZ (sched bs i)).set i (wordB bs i) = padZ (sched bs (i + 1)) := by
        have := padZ_set (l := sched bs i) (x := wordB bs i) (by rw [sched_length]; omega)
        rw [sched_length] at this
        rw [this, sched, if_pos hlt]
      unfold wordB at hset
      generalize bs.getD (4 * i) 0 = x0 at *
      generalize bs.getD (4 * i + 1) 0 = x1 at *
      generalize bs.getD (4 * i + 2) 0 = x2 at *
      generalize bs.getD (4 * i + 3) 0 = x3 at *
      have HS := Lib.hid hset
      clear d hset
      go_wp2_with fail
      go_still_tail 24, (by kernel_rfl)
      change wpList _ _ _ _ _ wr.drew
      clear k2 k3 hbx
      generalize wr.drew = w2 at *
      go_wp2_with fail
      have k9 := k3d.set_ i (bits BinOp.or .u32 (bits BinOp.or .u32 (bits BinOp.or .u32 (x0 * 16777216) (x1 * 65536)) (x2 * 256)) x3)
      rw [HS.out] at k9
      go_roundw
      case rel => exact ⟨i + 1, by omega, by go_num, k9, k2d.far (by simp) _, hbd.setCell (by simp) _⟩
      case measure => simp [intOf] <;> omega
    · obtain rfl : i = 16 := by omega
      go_wp2_with fail
      rw [show ((16 : Nat) : Int) = 16 from rfl]
      clear a3 a2 hb0
      go_loopw [46] (fun s wx => ∃ (i : Nat) (l : List Int), i ≤ 48 ∧ s = .int .i64 i ∧ IsSched bs (i + 16) l ∧ Arr wx (w.heap.size + 1) 166 .u32 (padZ l) ∧ Arr wx w.heap.size 166 .u32 (List.replicate 64 0) ∧ Below w.heap.size w wx) (fun s _ => 48 - (intOf s).toNat)
      case atStart => exact ⟨0, _, by omega, rfl, ⟨rfl⟩, k3, k2, hbx⟩
      case round =>
        clear k3 k2 hbx
        obtain ⟨i, l, hi, rfl, hl, k3, k2, hbx⟩ := hrel
        by_cases hlt : i < 48
        · have hlen : (padZ l).length = 64 := padZ_length (by rw [hl.length]; omega)
          have hg := fun j (hj : j < i + 16) => padZ_get (l := l) (i := j) (by rw [hl.length]; exact hj)
          have hx := hl.get (i + 1)
          have hy := hl.get (i + 14)
          obtain ⟨l', hl', hset⟩ := hl.next (by omega)
          rw [if_neg (by omega)] at hset
          unfold mixW at hset
          rw [show i + 16 - 16 = i by omega, show i + 16 - 15 = i + 1 by omega, show i + 16 - 7 = i + 9 by omega, show i + 16 - 2 = i + 14 by omega] at hset
          have e0 := k3.cell (i := i) (by omega)
          have e1 := k3.cell (i := i + 1) (by omega)
          have e9 := k3.cell (i := i + 9) (by omega)
          have e14 := k3.cell (i := i + 14) (by omega)
          have e16 := k3.cell (i := i + 16) (by omega)
          have z16 := k3.frozen (i + 16)
          rw [hg _ (by omega)] at e0 e1 e9 e14
          generalize l.getD i 0 = a0 at *
          generalize l.getD (i + 1) 0 = x at *
          generalize l.getD (i + 9) 0 = a9 at *
          generalize l.getD (i + 14) 0 = y at *
          generalize (padZ l)[i + 16]?.getD 0 = a16 at *
          have HS := Lib.hid hset
          clear hset hg hlen
          go_wp2_with fail
          have f1 : IntKind.i64.wrap (↑i + 1) = ↑i + 1 := IntWalk.i64_in _ (by omega)
          have f14 : IntKind.i64.wrap (↑i + 14) = ↑i + 14 := IntWalk.i64_in _ (by omega)
          have p0 : (0 : Int) ≤ (i : Int) := by omega
          have p1 : (0 : Int) ≤ (i : Int) + 1 := by omega
          have p14 : (0 : Int) ≤ (i : Int) + 14 := by omega
          have l1 : (i : Int) + 1 < 64 := by omega
          have l14 : (i : Int) + 14 < 64 := by omega
          have t1 : ((i : Int) + 1).toNat = i + 1 := by omega
          have t14 : ((i : Int) + 14).toNat = i + 14 := by omega
          go_quiet (fail)
          clear f1 f14 p0 p1 p14 l1 l14 t1 t14
          go_wp2_with fail
          refine (turned_any _ 7 7 _ rfl hx (by decide)).mono ?_
          rintro e w' ⟨rfl, rfl⟩
          go_wp2_with fail
          refine (turned_any _ 18 18 _ rfl hx (by decide)).mono ?_
          rintro e w' ⟨rfl, rfl⟩
          go_wp2_with fail
          refine (turned_any _ 17 17 _ rfl hy (by decide)).mono ?_
          rintro e w' ⟨rfl, rfl⟩
          go_wp2_with fail
          refine (turned_any _ 19 19 _ rfl hy (by decide)).mono ?_
          rintro e w' ⟨rfl, rfl⟩
          go_wp2_with fail
          have f9 : IntKind.i64.wrap (↑i + 9) = ↑i + 9 := IntWalk.i64_in _ (by omega)
          have f16 : IntKind.i64.wrap (↑i + 16) = ↑i + 16 := IntWalk.i64_in _ (by omega)
          have p0 : (0 : Int) ≤ (i : Int) := by omega
          have p9 : (0 : Int) ≤ (i : Int) + 9 := by omega
          have p16 : (0 : Int) ≤ (i : Int) + 16 := by omega
          have l0 : (i : Int) < 64 := by omega
          have l9 : (i : Int) + 9 < 64 := by omega
          have l16 : (i : Int) + 16 < 64 := by omega
          have t9 : ((i : Int) + 9).toNat = i + 9 := by omega
          have t16 : ((i : Int) + 16).toNat = i + 16 := by omega
          have k3q : Arr (wr.drewN nq) (w.heap.size + 1) 166 .u32 (padZ l) := k3
          have k2q : Arr (wr.drewN nq) w.heap.size 166 .u32 (List.replicate 64 0) := k2
          have hbq : Below w.heap.size w (wr.drewN nq) := below_draws hbx nq
          have e0q : (wr.drewN nq).cell? ⟨w.heap.size + 1, i, none⟩ = some (.int .u32 a0) := e0
          have e9q : (wr.drewN nq).cell? ⟨w.heap.size + 1, i + 9, none⟩ = some (.int .u32 a9) := e9
          have e16q : (wr.drewN nq).cell? ⟨w.heap.size + 1, i + 16, none⟩ = some (.int .u32 a16) := e16
          have z16q : (wr.drewN nq).frozen? ⟨w.heap.size + 1, i + 16, none⟩ = false := z16
          clear e0 e1 e9 e14 e16 z16 k3 k2 hbx
          generalize wr.drewN nq = wq at *
          have k3d : Arr wq.drew (w.heap.size + 1) 166 .u32 (padZ l) := k3q
          have k2d : Arr wq.drew w.heap.size 166 .u32 (List.replicate 64 0) := k2q
          have hbd : Below w.heap.size w wq.drew := below_draws hbq 1
          go_still_tail 15, (by kernel_rfl)
          change wpList _ _ _ _ _ wq.drew
          have e16d := k3d.cell (i := i + 16) (by rw [padZ_length (by rw [hl.length]; omega)]; omega)
          have z16d := k3d.frozen (i + 16)
          clear f9 f16 p0 p9 p16 l0 l9 l16 t9 t16 k3q k2q hbq e0q e9q e16q z16q
          generalize wq.drew = w2 at *
          go_wp2_with fail
          have k9 := k3d.set_ (i + 16) (add32 (add32 (add32 a0 (sig0 x)) a9) (sig1 y))
          rw [HS.out, add32_4] at k9
          unfold sig0 sig1 at k9
          go_roundw
          case rel => exact ⟨i + 1, l', by omega, by go_num, hl', k9, k2d.far (by simp) _, hbd.setCell (by simp) _⟩
          case measure => simp [intOf] <;> omega
        · obtain rfl : i = 48 := by omega
          have arr64t : Tryd.prog.underlying 166 = some (.array 64 150) := Tryd.underlying166
          rw [padZ_full hl.length, hl.out] at k3
          have hsl := Lib.hid (sched_length bs 64)
          go_wp2_with (first
            | (refine wpList_load_arr rfl _ _ rfl k3 rfl arr64t rfl (by rw [hsl.out]; kernel_rfl) ?_)
            | (refine wpList_store_arr rfl _ _ _ rfl k2 rfl rfl (by rw [hsl.out]; rfl) (by rw [hsl.out]; kernel_rfl) ?_; intro w4 r4 g4))
          refine bodyPost_ret (v := arrV .u32 (sched bs 64)) (results_cell_row rfl _ _ w.heap.size 166 _ (0, 0) _ rfl r4 arr64t rfl (by rw [show ((sched bs 64).map (Value.int .u32)).toArray.size = 64 by simp [sched_length]]; kernel_rfl)) rfl ⟨rfl, ?_⟩
          exact hbx.trans (below_of_grown g4 hbx.size fun g hg => by injection hg with hg; omega)
end Go.Proofs.YtpnodocjpedcmaaDoor.Sha

namespace Go.Proofs.YtpnodocjpedcmaaDoor.Sha
open Go.ChangeShapes Go.WideShapes Go.ChangeAt Go.RowKit Go.Proofs.YtpnodocjpedcmaaDoor.Kit

/-- What the program's own table reads as. -/
def Laid (g : Nat) (l : List Int) (w : World) : Prop := ∀ k, k < l.length → w.cell? ⟨g, k, none⟩ = some (.int .u32 (l.getD k 0))
theorem Laid.lt {g : Nat} {l : List Int} {w : World} (h : Laid g l w) (hl : 0 < l.length) : g < w.heap.size := World.block_lt_of_cell? _ _ (h 0 hl)
theorem Laid.below {g : Nat} {l : List Int} {w w' : World} (h : Laid g l w) (hl : 0 < l.length) (hb : Below w.heap.size w w') : Laid g l w' := fun k hk => (hb.cell (p := ⟨g, k, none⟩) (h.lt hl)).trans (h k hk)

def LaidS (w : World) : Prop := Laid 0 cubesL w
theorem cubes_length : cubesL.length = 64 := rfl
theorem LaidS.below {w w' : World} (h : LaidS w) (hb : Below w.heap.size w w') : LaidS w' := Laid.below h (by rw [cubes_length]; omega) hb
theorem LaidS.at_ {w : World} (h : LaidS w) {i : Nat} (hi : i < 64) : w.cell? ⟨0, i, none⟩ = some (.int .u32 (cubesL.getD i 0)) := h i (by rw [cubes_length]; exact hi)

/-- A quiet call whose contract has the caller's world on the left. -/
theorem quiet_left {P : Program} {f : FuncId} {args : Array Value} {w : World} {n : Nat} {v : Value}
    (h : Calls P f args (w.drewN n) fun e w' => e = .returned v ∧ w.drewN n = w') : Calls P f args (w.drewN n) fun e w'' => e = .returned v ∧ ∃ m, w'' = w.drewN m :=
  h.mono fun _ _ ⟨he, hm⟩ => ⟨he, n, hm.symm⟩

/-- l is the state behind n rounds. -/
structure IsRnd (ws : List Int) (n : Nat) (s l : List Int) : Prop where
  out : l = roundsS ws n s

def t1 (e f g h k x : Int) : Int := add32 (add32 (add32 (add32 h (sum1 e)) (picks e f g)) k) x
def t2 (a b c : Int) : Int := add32 (sum0 a) (most a b c)
theorem IsRnd.next {ws : List Int} {n : Nat} {s : List Int} {a b c d e f g h : Int} (r : IsRnd ws n s [a, b, c, d, e, f, g, h]) {k x : Int} (hk : cubesL.getD n 0 = k) (hx : ws.getD n 0 = x) :
    IsRnd ws (n + 1) s [add32 (t1 e f g h k x) (t2 a b c), a, b, c, add32 d (t1 e f g h k x), e, f, g] := by
  subst hk; subst hx
  exact ⟨by rw [roundsS, ← r.out]; rfl⟩

theorem IsRnd.bd {ws : List Int} {n : Nat} {s l : List Int} (r : IsRnd ws n s l) (hs : St8 s) : St8 l := by rw [r.out]; exact roundsS_st ws hs n

theorem cubes_bd (i : Nat) : W32 (cubesL.getD i 0) := by
  have h : ∀ i, i < 64 → 0 ≤ cubesL.getD i 0 ∧ cubesL.getD i 0 ≤ 4294967295 := by decide +kernel
  by_cases hi : i < 64
  · exact h i hi
  · rw [List.getD_eq_getElem?_getD, List.getElem?_eq_none (by rw [cubes_length]; omega)]
    unfold W32; simp

theorem arr_of_words (W : World) (ws : List Int) (k : IntKind) (t : TypeId) : Arr (W.alloc (.cells (ws.map (Value.int k)).toArray t)) W.heap.size t k ws := Arr.new W t k ws

theorem IsRnd.mix {bs ws : List Int} (hw : IsSched bs 64 ws) {a0 b0 c0 d0 e0 f0 g0 h0 a b c d e f g h : Int} (r : IsRnd ws 64 [a0, b0, c0, d0, e0, f0, g0, h0] [a, b, c, d, e, f, g, h]) :
    mixS [a0, b0, c0, d0, e0, f0, g0, h0] bs = [add32 a0 a, add32 b0 b, add32 c0 c, add32 d0 d, add32 e0 e, add32 f0 f, add32 g0 g, add32 h0 h] := by
  unfold mixS
  rw [← hw.out, ← r.out]
  rfl

set_option maxRecDepth 100000 in
set_option maxHeartbeats 3200000 in
theorem mix_any (s : List Int) (hs : St8 s) (A : Option Addr) (bs : List Int) (c : Nat) (w : World) (hl : bs.length = 64) (hc : 64 ≤ c) (hm : c ≤ maxLen) (ho : Octets bs) (hr : Holds w w.heap.size .u8 A bs) (hL : LaidS w) :
    Calls Tryd.prog 88 #[arrV .u32 s, .slice A 64 c] w fun e w' => e = .returned (arrV .u32 (mixS s bs)) ∧ Below w.heap.size w w' := by
  obtain ⟨a0, b0, c0, d0, e0, f0, g0, h0, rfl, wa, wb, wc, wd, we, wf, wg, wh⟩ := hs.open_
  have GW := fun W hb => words_any A bs c W hl hc hm ho ((hr.below hb).more hb.size)
  obtain ⟨ws, hws⟩ : ∃ ws, IsSched bs 64 ws := ⟨_, ⟨rfl⟩⟩
  rw [← hws.out] at GW
  have GW := Lib.hid GW
  unfold arrV
  go_enter Tryd.func88, Tryd.ntmps88
  go_wp2_with fail
  refine (GW.out _ (((Below.refl _ _).alloc (Nat.le_refl _) _).alloc (by simp) _)).mono ?_
  rintro e w1 ⟨rfl, hb1⟩
  have sa : Arr w1 w.heap.size 151 .u32 [a0, b0, c0, d0, e0, f0, g0, h0] := ((arr_of_words w _ _ _).alloc _).below hb1 (by simp <;> omega)
  have sr : Arr w1 (w.heap.size + 1) 151 .u32 [0, 0, 0, 0, 0, 0, 0, 0] := by
    have := (arr_of_words (w.alloc (.cells ([a0, b0, c0, d0, e0, f0, g0, h0].map (Value.int .u32)).toArray 151)) [0, 0, 0, 0, 0, 0, 0, 0] .u32 151).below hb1 (by simp)
    rwa [show (w.alloc (.cells ([a0, b0, c0, d0, e0, f0, g0, h0].map (Value.int .u32)).toArray 151)).heap.size = w.heap.size + 1 by simp] at this
  have hz1 : w.heap.size + 1 < w1.heap.size := sr.lt
  have hbw : Below w.heap.size w w1 := (((Below.refl _ _).alloc (Nat.le_refl _) _).alloc (by simp) _).trans (hb1.mono (by simp; omega))
  clear GW hb1
  go_wp2_with (refine wpList_store_arr rfl _ _ _ rfl (arr64 w1) rfl rfl (by rw [hws.length]; rfl) (by rw [hws.length]; kernel_rfl) ?_; intro w2 r2 g2)
  have hb2 : Below w.heap.size w w2 := (hbw.trans ((Below.refl _ w1).alloc (by omega) _)).trans (below_of_grown g2 (by simp; omega) (fun g hg => by injection hg with hg; omega))
  have s2 : Arr w2 w.heap.size 151 .u32 [a0, b0, c0, d0, e0, f0, g0, h0] := (sa.alloc _).grown g2 (by intro h; injection h with h; omega)
  have o2 : Arr w2 (w.heap.size + 1) 151 .u32 [0, 0, 0, 0, 0, 0, 0, 0] := (sr.alloc _).grown g2 (by intro h; injection h with h; omega)
  clear g2 sa sr hbw
  have q0 : w2.cell? ⟨w.heap.size, 0, none⟩ = some (.int .u32 a0) := s2.cell (i := 0) (by simp)
  have q1 : w2.cell? ⟨w.heap.size, 1, none⟩ = some (.int .u32 b0) := s2.cell (i := 1) (by simp)
  have q2 : w2.cell? ⟨w.heap.size, 2, none⟩ = some (.int .u32 c0) := s2.cell (i := 2) (by simp)
  have q3 : w2.cell? ⟨w.heap.size, 3, none⟩ = some (.int .u32 d0) := s2.cell (i := 3) (by simp)
  have q4 : w2.cell? ⟨w.heap.size, 4, none⟩ = some (.int .u32 e0) := s2.cell (i := 4) (by simp)
  have q5 : w2.cell? ⟨w.heap.size, 5, none⟩ = some (.int .u32 f0) := s2.cell (i := 5) (by simp)
  have q6 : w2.cell? ⟨w.heap.size, 6, none⟩ = some (.int .u32 g0) := s2.cell (i := 6) (by simp)
  have q7 : w2.cell? ⟨w.heap.size, 7, none⟩ = some (.int .u32 h0) := s2.cell (i := 7) (by simp)
  go_wp2_with fail
  go_quiet (fail)
  go_wp2_with fail
  go_quiet (fail)
  go_wp2_with fail
  clear q0 q1 q2 q3 q4 q5 q6 q7
  generalize w1.heap.size = B1 at *
  go_loopw [6, 7, 8, 9, 10, 11, 12, 13, 35] (fun sa sb sc sd se sf sg sh s wx => ∃ (i : Nat) (a b c d e f g h : Int), i ≤ 64 ∧ s = .int .i64 i ∧ sa = .int .u32 a ∧ sb = .int .u32 b ∧ sc = .int .u32 c ∧ sd = .int .u32 d ∧ se = .int .u32 e ∧ sf = .int .u32 f ∧ sg = .int .u32 g ∧ sh = .int .u32 h ∧
      IsRnd ws i [a0, b0, c0, d0, e0, f0, g0, h0] [a, b, c, d, e, f, g, h] ∧ Arr wx B1 166 .u32 ws ∧ Arr wx w.heap.size 151 .u32 [a0, b0, c0, d0, e0, f0, g0, h0] ∧ Arr wx (w.heap.size + 1) 151 .u32 [0, 0, 0, 0, 0, 0, 0, 0] ∧ Below w.heap.size w wx)
      (fun _ _ _ _ _ _ _ _ s _ => 64 - (intOf s).toNat)
  case atStart => exact ⟨0, a0, b0, c0, d0, e0, f0, g0, h0, by omega, rfl, rfl, rfl, rfl, rfl, rfl, rfl, rfl, rfl, ⟨rfl⟩, r2, s2, o2, below_draws (below_draws hb2 _) _⟩
  case round =>
    clear r2 s2 o2 hb2
    obtain ⟨i, a, b, c, d, e, f, g, h, hi, rfl, rfl, rfl, rfl, rfl, rfl, rfl, rfl, rfl, hR, r2, s2, o2, hb⟩ := hrel
    by_cases hlt : i < 64
    · have hst := hR.bd ⟨rfl, fun x hx => by
        simp only [List.mem_cons, List.not_mem_nil, or_false] at hx
        rcases hx with rfl | rfl | rfl | rfl | rfl | rfl | rfl | rfl <;> assumption⟩
      have xa := hst.2 a (by simp)
      have xb := hst.2 b (by simp)
      have xc := hst.2 c (by simp)
      have xd := hst.2 d (by simp)
      have xe := hst.2 e (by simp)
      have xf := hst.2 f (by simp)
      have xg := hst.2 g (by simp)
      have xh := hst.2 h (by simp)
      have kc := (hb.cell (p := ⟨0, i, none⟩) (hL.lt (by rw [cubes_length]; omega))).trans (hL.at_ hlt)
      have kw := r2.cell (i := i) (by rw [hws.length]; omega)
      have xw := hws.get i
      have xk := cubes_bd i
      have hN := hR.next (k := cubesL.getD i 0) (x := ws[i]?.getD 0) rfl rfl
      rw [List.getD_eq_getElem?_getD] at xw
      generalize cubesL.getD i 0 = K at *
      generalize ws[i]?.getD 0 = X at *
      have HN := Lib.hid hN
      clear hst hR hN hr hs wa wb wc wd we wf wg wh
      go_wp2_with fail
      refine wp_region_quiet_lit (by kernel_rfl) (by kernel_rfl) ?_
      repeat (quiet_step (fail))
      quiet_step (exact quiet_left (turned_any e 6 6 _ rfl xe (by decide)))
      repeat (quiet_step (fail))
      quiet_step (exact quiet_left (turned_any e 11 11 _ rfl xe (by decide)))
      repeat (quiet_step (fail))
      quiet_step (exact quiet_left (turned_any e 25 25 _ rfl xe (by decide)))
      repeat (quiet_step (fail))
      refine wpQuiet_nil ?_
      intro _ hw'
      obtain ⟨nq, hw''⟩ := hw'
      subst hw''
      go_wp2_with fail
      refine (turned_any a 2 2 _ rfl xa (by decide)).mono ?_
      rintro _ _ ⟨rfl, rfl⟩
      go_wp2_with fail
      refine (turned_any a 13 13 _ rfl xa (by decide)).mono ?_
      rintro _ _ ⟨rfl, rfl⟩
      go_wp2_with fail
      refine (turned_any a 22 22 _ rfl xa (by decide)).mono ?_
      rintro _ _ ⟨rfl, rfl⟩
      go_wp2_with fail
      go_roundw
      case rel => exact ⟨i + 1, _, _, _, _, _, _, _, _, by omega, by go_num, rfl, rfl, rfl, rfl, rfl, rfl, rfl, rfl, HN.out, r2, s2, o2, below_draws hb nq⟩
      case measure => simp [intOf] <;> omega
    · obtain rfl : i = 64 := by omega
      have hM := hR.mix hws
      unfold add32 at hM
      have HM := Lib.hid hM
      have q0 : wr.cell? ⟨w.heap.size, 0, none⟩ = some (.int .u32 a0) := s2.cell (i := 0) (by simp)
      have q1 : wr.cell? ⟨w.heap.size, 1, none⟩ = some (.int .u32 b0) := s2.cell (i := 1) (by simp)
      have q2 : wr.cell? ⟨w.heap.size, 2, none⟩ = some (.int .u32 c0) := s2.cell (i := 2) (by simp)
      have q3 : wr.cell? ⟨w.heap.size, 3, none⟩ = some (.int .u32 d0) := s2.cell (i := 3) (by simp)
      have q4 : wr.cell? ⟨w.heap.size, 4, none⟩ = some (.int .u32 e0) := s2.cell (i := 4) (by simp)
      have q5 : wr.cell? ⟨w.heap.size, 5, none⟩ = some (.int .u32 f0) := s2.cell (i := 5) (by simp)
      have q6 : wr.cell? ⟨w.heap.size, 6, none⟩ = some (.int .u32 g0) := s2.cell (i := 6) (by simp)
      have q7 : wr.cell? ⟨w.heap.size, 7, none⟩ = some (.int .u32 h0) := s2.cell (i := 7) (by simp)
      clear hM hR hr hs wa wb wc wd we wf wg wh
      have arr8 : Tryd.prog.underlying 151 = some (.array 8 150) := Tryd.underlying151
      go_wp2_with (refine wpList_store_arr (ys := [(a0 + a) % 4294967296, (b0 + b) % 4294967296, (c0 + c) % 4294967296, (d0 + d) % 4294967296, (e0 + e) % 4294967296, (f0 + f) % 4294967296, (g0 + g) % 4294967296, (h0 + h) % 4294967296]) rfl _ _ _ rfl o2 rfl rfl rfl (by kernel_rfl) ?_; intro w4 r4 g4)
      rw [HM.out]
      refine bodyPost_ret (v := arrV .u32 _) (results_cell_row rfl _ _ (w.heap.size + 1) 151 _ (0, 0) _ rfl r4 arr8 rfl (by kernel_rfl)) rfl ⟨rfl, ?_⟩
      exact hb.trans (below_of_grown g4 hb.size fun g hg => by injection hg with hg; omega)
end Go.Proofs.YtpnodocjpedcmaaDoor.Sha

namespace Go.Proofs.YtpnodocjpedcmaaDoor.Sha
open Go.ChangeShapes Go.WideShapes Go.ChangeAt Go.RowKit Go.Proofs.YtpnodocjpedcmaaDoor.Kit

theorem iv_st : St8 ivL := ⟨rfl, (by decide : ∀ x ∈ ivL, 0 ≤ x ∧ x ≤ 4294967295)⟩
/-- The state behind the whole blocks of bytes. -/
def stateL (xs : List Int) : List Int := foldN (xs.length / 64) ivL xs
theorem stateL_st (xs : List Int) : St8 (stateL xs) := foldN_st _ _ iv_st
theorem stateL_nil : stateL [] = ivL := rfl
theorem stateL_part {ys zs : List Int} (h : ys.length % 64 = 0) (hz : zs.length < 64) : stateL (ys ++ zs) = stateL ys := by
  unfold stateL
  rw [List.length_append, show (ys.length + zs.length) / 64 = ys.length / 64 by omega, foldN_app _ _ _ _ (by omega)]
theorem stateL_block {ys zs : List Int} (h : ys.length % 64 = 0) (hz : zs.length = 64) : stateL (ys ++ zs) = mixS (stateL ys) zs := by
  unfold stateL
  rw [List.length_append, show (ys.length + zs.length) / 64 = ys.length / 64 + 1 by omega, foldN_next, foldN_app _ _ _ _ (by omega)]
  congr 1
  rw [show 64 * (ys.length / 64) = ys.length by omega, List.drop_append_of_le_length (Nat.le_refl _), List.drop_length, List.nil_append, List.take_of_length_le (by omega)]

theorem stateL_whole (xs : List Int) : stateL (xs.take (64 * (xs.length / 64))) = stateL xs := by
  have h := stateL_part (ys := xs.take (64 * (xs.length / 64))) (zs := xs.drop (64 * (xs.length / 64))) (by simp; omega) (by simp; omega)
  rw [List.take_append_drop] at h
  exact h.symm
theorem state_same {xs bs : List Int} (h : xs.length % 64 + bs.length < 64) : stateL (xs ++ bs) = stateL xs := by
  have h1 := stateL_part (ys := xs.take (64 * (xs.length / 64))) (zs := xs.drop (64 * (xs.length / 64)) ++ bs) (by simp; omega) (by simp; omega)
  rw [← List.append_assoc, List.take_append_drop, stateL_whole] at h1
  exact h1
theorem state_full {xs zs : List Int} (h : xs.length % 64 + zs.length = 64) : stateL (xs ++ zs) = mixS (stateL xs) (xs.drop (64 * (xs.length / 64)) ++ zs) := by
  have h1 := stateL_block (ys := xs.take (64 * (xs.length / 64))) (zs := xs.drop (64 * (xs.length / 64)) ++ zs) (by simp; omega) (by simp; omega)
  rw [← List.append_assoc, List.take_append_drop, stateL_whole] at h1
  exact h1
theorem rest_next {xs bs r : List Int} (h2 : r.length = 64) (h3 : r.take (xs.length % 64) = xs.drop (64 * (xs.length / 64))) (hs : xs.length % 64 + bs.length < 64) :
    (r.take (xs.length % 64) ++ (bs ++ r.drop (xs.length % 64 + bs.length))).take ((xs ++ bs).length % 64) = (xs ++ bs).drop (64 * ((xs ++ bs).length / 64)) := by
  rw [h3, List.length_append, show (xs.length + bs.length) % 64 = xs.length % 64 + bs.length by omega, show 64 * ((xs.length + bs.length) / 64) = 64 * (xs.length / 64) by omega,
    ← List.append_assoc, List.take_append_of_le_length (by simp; omega), List.take_of_length_le (by simp; omega), List.drop_append_of_le_length (by omega)]
theorem rest_full {xs zs r : List Int} (h3 : r.take (xs.length % 64) = xs.drop (64 * (xs.length / 64))) (h2 : r.length = 64) (hs : xs.length % 64 + zs.length = 64) :
    r.take (xs.length % 64) ++ (zs ++ r.drop (xs.length % 64 + zs.length)) = xs.drop (64 * (xs.length / 64)) ++ zs := by
  rw [h3, hs, List.drop_of_length_le (l := r) (by omega), List.append_nil]
/-- What is copied into an empty rest. -/
theorem rest_last {ys zs r : List Int} (h : ys.length % 64 = 0) (hz : zs.length < 64) : (zs ++ r).take ((ys ++ zs).length % 64) = (ys ++ zs).drop (64 * ((ys ++ zs).length / 64)) := by
  rw [List.length_append, show (ys.length + zs.length) % 64 = zs.length by omega, show 64 * ((ys.length + zs.length) / 64) = ys.length by omega, List.take_left, List.drop_left]

def tailZ (n : Nat) : Nat := (119 - n % 64) % 64
theorem tailZ_lt (n : Nat) : tailZ n < 64 := by unfold tailZ; omega
theorem tailZ_mod (n : Nat) : (n + (9 + tailZ n)) % 64 = 0 := by unfold tailZ; omega
def lenB (n : Nat) : List Int := (List.range 8).map fun i => ((8 * n / 2 ^ (56 - 8 * i) % 256 : Nat) : Int)
theorem lenB_length (n : Nat) : (lenB n).length = 8 := by simp [lenB]
/-- What stands behind n bytes. -/
def endB (n : Nat) : List Int := 128 :: (List.replicate (tailZ n) 0 ++ lenB n)
theorem endB_length (n : Nat) : (endB n).length = 9 + tailZ n := by simp [endB, lenB_length]; omega
theorem lenB_octets (n : Nat) : Octets (lenB n) := by
  intro x hx
  obtain ⟨i, _, rfl⟩ := List.mem_map.1 hx
  omega
theorem endB_octets (n : Nat) : Octets (endB n) := by
  intro x hx
  rcases List.mem_cons.1 hx with rfl | hx
  · omega
  · rcases List.mem_append.1 hx with hx | hx
    · obtain ⟨_, rfl⟩ := List.mem_replicate.1 hx; omega
    · exact lenB_octets n x hx
def padL (xs : List Int) : List Int := xs ++ endB xs.length
theorem padL_mod (xs : List Int) : (padL xs).length % 64 = 0 := by
  unfold padL
  rw [List.length_append, endB_length]
  exact tailZ_mod _
/-- The bytes of a state. -/
def digL (s : List Int) : List Int := (List.range 32).map fun i => s.getD (i / 4) 0 / 2 ^ (24 - 8 * (i % 4)) % 256
theorem digL_length (s : List Int) : (digL s).length = 32 := by simp [digL]
theorem digL_octets (s : List Int) : Octets (digL s) := by
  intro x hx
  obtain ⟨i, _, rfl⟩ := List.mem_map.1 hx
  omega
/-- The sum of bytes. -/
def sumL (xs : List Int) : List Int := digL (stateL (padL xs))
theorem sumL_length (xs : List Int) : (sumL xs).length = 32 := digL_length _
theorem sumL_octets (xs : List Int) : Octets (sumL xs) := digL_octets _

/-! ### What a hash's block has -/

def hcells (st rest : List Int) (n : Int) : List Value := st.map (.int .u32) ++ (rest.map (.int .u8) ++ [.int .u64 n])
theorem hcells_length {st rest : List Int} (n : Int) (hs : st.length = 8) (hr : rest.length = 64) : (hcells st rest n).length = 73 := by simp [hcells, hs, hr]

/-- Block g is a hash of this state, these bytes that wait, so many taken. -/
def HB (w : World) (g : Nat) (st rest : List Int) (n : Int) : Prop := Block w g 154 (hcells st rest n).toArray

section
variable {w w' : World} {g : Nat} {st rest : List Int} {n : Int}
theorem HB.lt (h : HB w g st rest n) : g < w.heap.size := Block.lt h
theorem HB.frozen (h : HB w g st rest n) (i : Nat) : w.frozen? ⟨g, i, none⟩ = false := Block.frozen h i
theorem HB.out {S : Nat → Prop} (h : HB w g st rest n) (ho : TurnsIn S w w') (hg : ¬ S g) : HB w' g st rest n := Block.out h ho hg
theorem HB.below {B : Nat} (h : HB w g st rest n) (hb : Below B w w') (hg : g < B) : HB w' g st rest n := Block.below h hb hg
theorem HB.stCell (h : HB w g st rest n) (hs : st.length = 8) {i : Nat} (hi : i < 8) : w.cell? ⟨g, i, none⟩ = some (.int .u32 (st[i]?.getD 0)) := by
  rw [Block.cell h i]
  simp only [List.getElem?_toArray, hcells]
  rw [List.getElem?_append_left (by simp; omega)]
  simp [List.getElem?_eq_getElem (show i < st.length by omega)]
theorem HB.restCell (h : HB w g st rest n) (hs : st.length = 8) (hr : rest.length = 64) {i : Nat} (hi : i < 64) : w.cell? ⟨g, 8 + i, none⟩ = some (.int .u8 (rest[i]?.getD 0)) := by
  rw [Block.cell h (8 + i)]
  simp only [List.getElem?_toArray, hcells]
  rw [List.getElem?_append_right (by simp; omega), List.getElem?_append_left (by simp; omega)]
  simp [hs, List.getElem?_eq_getElem (show i < rest.length by omega)]
theorem HB.taken (h : HB w g st rest n) (hs : st.length = 8) (hr : rest.length = 64) : w.cell? ⟨g, 72, none⟩ = some (.int .u64 n) := by
  rw [Block.cell h 72]
  simp only [List.getElem?_toArray, hcells]
  rw [List.getElem?_append_right (by simp; omega), List.getElem?_append_right (by simp; omega)]
  simp [hs, hr]
theorem HB.setTaken (h : HB w g st rest n) (hs : st.length = 8) (hr : rest.length = 64) (m : Int) : HB (w.setCell ⟨g, 72, none⟩ (.int .u64 m)) g st rest m := by
  have := Block.set_ h 72 (.int .u64 m)
  unfold HB
  rw [List.setIfInBounds_toArray] at this
  have e : (hcells st rest n).set 72 (.int .u64 m) = hcells st rest m := by
    unfold hcells
    rw [List.set_append, if_neg (by simp; omega), List.set_append, if_neg (by simp; omega)]
    simp [hs, hr]
  rwa [e] at this
theorem HB.range (h : HB w g st rest n) : w.rangeAt g 0 (hcells st rest n) := by
  have := World.rangeAt_of_block h 0 (hcells st rest n).length
  simpa using this
theorem hcells_one (st rest : List Int) (n : Int) : ∀ v ∈ hcells st rest n, v.oneCell' = true := by
  intro v hv
  simp only [hcells, List.mem_append, List.mem_map, List.mem_singleton] at hv
  rcases hv with ⟨x, _, rfl⟩ | ⟨x, _, rfl⟩ | rfl <;> rfl
theorem HB.restHolds (h : HB w g st rest n) (hs : st.length = 8) (hr : rest.length = 64) : Holds w w.heap.size .u8 (some ⟨g, 8, none⟩) rest := by
  intro _
  exact ⟨g, 8, rfl, h.lt, fun j hj => by rw [h.restCell hs hr (by omega)]; simp [List.getD]⟩
theorem hcells_splice {zs : List Int} {q : Nat} (hs : st.length = 8) (hr : rest.length = 64) (hq : q + zs.length ≤ 64) :
    (hcells st rest n).take (8 + q) ++ (zs.map (Value.int .u8) ++ (hcells st rest n).drop (8 + q + zs.length)) = hcells st (rest.take q ++ (zs ++ rest.drop (q + zs.length))) n := by
  unfold hcells
  rw [List.take_append, List.take_of_length_le (by simp; omega), List.take_append_of_le_length (by simp; omega), List.drop_append, List.drop_of_length_le (by simp; omega), List.nil_append, List.drop_append_of_le_length (by simp; omega)]
  simp only [List.length_map, hs, show 8 + q - 8 = q by omega, show 8 + q + zs.length - 8 = q + zs.length by omega, List.map_append, List.map_take, List.map_drop, List.append_assoc]
theorem HB.there (h : HB w g st rest n) (m : Nat) (hm : m ≤ (hcells st rest n).length) : w.there g 0 m := fun j hj => by
  rw [Nat.zero_add, Block.cell h j]
  exact ⟨by simp; omega, h.frozen j⟩
theorem HB.setAll (h : HB w g st rest n) (hs : st.length = 8) (hr : rest.length = 64) {st2 rest2 : List Int} (n2 : Int) (h2 : st2.length = 8) (h3 : rest2.length = 64) : HB (w.setCells g 0 (hcells st2 rest2 n2)) g st2 rest2 n2 := by
  have := setCells_block (hcells st2 rest2 n2) 0 w _ h (by simp [hcells, h2, h3]; omega)
  unfold HB
  have e : (hcells st rest n).take 0 ++ (hcells st2 rest2 n2 ++ (hcells st rest n).drop (0 + (hcells st2 rest2 n2).length)) = hcells st2 rest2 n2 := by
    rw [List.drop_of_length_le (by rw [hcells_length _ hs hr, hcells_length _ h2 h3]; omega)]
    simp
  simp only [] at this
  rwa [e] at this
/-- A whole hash is stored over another. -/
theorem wpList_store_hash {P : Program} {ops : Array Oper} {more : List Oper} {o : Oper} {a : Act} {Q : Exit → Act → World → Prop} (hgd : o.guard = none) (ty : TypeId) (x y : Operand) (ho : o.op = .store ty x y)
    (h : HB w g st rest n) (hs : st.length = 8) (hr : rest.length = 64) {st2 rest2 : List Int} {n2 : Int} (h2 : st2.length = 8) (h3 : rest2.length = 64) (hx : a.eval x = .pointer (some ⟨g, 0, none⟩)) (hy : a.eval y = .agg (hcells st2 rest2 n2).toArray)
    (hi : (P.info? ty).map (·.size) = some 73) (hK : ∀ w', HB w' g st2 rest2 n2 → w.grownBy w' (some g) → wpList P ops Q more (a.put o.dst undef) w') : wpList P ops Q (o :: more) a w := by
  refine wpList_store_mid hgd ty x y ho g 0 (hcells st2 rest2 n2).toArray hx hy (h.there _ (by simp [hcells, h2, h3, hs, hr])) (by rw [hi]; simp [hcells, h2, h3]) (all_oneCell_toArray (hcells_one st2 rest2 n2)) ?_
  exact hK _ (h.setAll hs hr n2 h2 h3) (setCells_grown g _ 0 w)
theorem HB.setState (h : HB w g st rest n) (hs : st.length = 8) {s2 : List Int} (h2 : s2.length = 8) : HB (w.setCells g 0 (s2.map (.int .u32))) g s2 rest n := by
  have := setCells_block (s2.map (Value.int .u32)) 0 w _ h (by simp [hcells]; omega)
  unfold HB
  have e : (hcells st rest n).take 0 ++ (s2.map (Value.int .u32) ++ (hcells st rest n).drop (0 + (s2.map (Value.int .u32)).length)) = hcells s2 rest n := by
    unfold hcells
    simp [h2, hs]
  simp only [] at this
  rwa [e] at this
end
end Go.Proofs.YtpnodocjpedcmaaDoor.Sha

namespace Go.Proofs.YtpnodocjpedcmaaDoor.Sha
open Go.ChangeShapes Go.WideShapes Go.ChangeAt Go.RowKit Go.Proofs.YtpnodocjpedcmaaDoor.Kit

/-- Block g is a hash that has taken these bytes. -/
structure HashIs (w : World) (g : Nat) (xs : List Int) : Prop where
  ex : ∃ rest, HB w g (stateL xs) rest xs.length ∧ rest.length = 64 ∧ rest.take (xs.length % 64) = xs.drop (64 * (xs.length / 64))

theorem HashIs.lt {w : World} {g : Nat} {xs : List Int} (h : HashIs w g xs) : g < w.heap.size := by
  obtain ⟨r, h1, _⟩ := h.ex
  exact h1.lt
theorem HashIs.out {w w' : World} {g : Nat} {xs : List Int} {S : Nat → Prop} (h : HashIs w g xs) (ho : TurnsIn S w w') (hg : ¬ S g) : HashIs w' g xs := by
  obtain ⟨r, h1, h2, h3⟩ := h.ex
  exact ⟨r, h1.out ho hg, h2, h3⟩
theorem HashIs.below {w w' : World} {g B : Nat} {xs : List Int} (h : HashIs w g xs) (hb : Below B w w') (hg : g < B) : HashIs w' g xs := by
  obtain ⟨r, h1, h2, h3⟩ := h.ex
  exact ⟨r, h1.below hb hg, h2, h3⟩

theorem zero_hash (W : World) : (zeroValue 154).run Tryd.prog W = .ok (.agg #[.int .u32 0, .int .u32 0, .int .u32 0, .int .u32 0, .int .u32 0, .int .u32 0, .int .u32 0, .int .u32 0, .int .u8 0, .int .u8 0, .int .u8 0, .int .u8 0, .int .u8 0, .int .u8 0, .int .u8 0, .int .u8 0, .int .u8 0, .int .u8 0, .int .u8 0, .int .u8 0, .int .u8 0, .int .u8 0, .int .u8 0, .int .u8 0, .int .u8 0, .int .u8 0, .int .u8 0, .int .u8 0, .int .u8 0, .int .u8 0, .int .u8 0, .int .u8 0, .int .u8 0, .int .u8 0, .int .u8 0, .int .u8 0, .int .u8 0, .int .u8 0, .int .u8 0, .int .u8 0, .int .u8 0, .int .u8 0, .int .u8 0, .int .u8 0, .int .u8 0, .int .u8 0, .int .u8 0, .int .u8 0, .int .u8 0, .int .u8 0, .int .u8 0, .int .u8 0, .int .u8 0, .int .u8 0, .int .u8 0, .int .u8 0, .int .u8 0, .int .u8 0, .int .u8 0, .int .u8 0, .int .u8 0, .int .u8 0, .int .u8 0, .int .u8 0, .int .u8 0, .int .u8 0, .int .u8 0, .int .u8 0, .int .u8 0, .int .u8 0, .int .u8 0, .int .u8 0, .int .u64 0]) W := by kernel_rfl

theorem zero_block (W : World) : HB (W.alloc (.cells #[.int .u32 0, .int .u32 0, .int .u32 0, .int .u32 0, .int .u32 0, .int .u32 0, .int .u32 0, .int .u32 0, .int .u8 0, .int .u8 0, .int .u8 0, .int .u8 0, .int .u8 0, .int .u8 0, .int .u8 0, .int .u8 0, .int .u8 0, .int .u8 0, .int .u8 0, .int .u8 0, .int .u8 0, .int .u8 0, .int .u8 0, .int .u8 0, .int .u8 0, .int .u8 0, .int .u8 0, .int .u8 0, .int .u8 0, .int .u8 0, .int .u8 0, .int .u8 0, .int .u8 0, .int .u8 0, .int .u8 0, .int .u8 0, .int .u8 0, .int .u8 0, .int .u8 0, .int .u8 0, .int .u8 0, .int .u8 0, .int .u8 0, .int .u8 0, .int .u8 0, .int .u8 0, .int .u8 0, .int .u8 0, .int .u8 0, .int .u8 0, .int .u8 0, .int .u8 0, .int .u8 0, .int .u8 0, .int .u8 0, .int .u8 0, .int .u8 0, .int .u8 0, .int .u8 0, .int .u8 0, .int .u8 0, .int .u8 0, .int .u8 0, .int .u8 0, .int .u8 0, .int .u8 0, .int .u8 0, .int .u8 0, .int .u8 0, .int .u8 0, .int .u8 0, .int .u8 0, .int .u64 0] 154)) W.heap.size (List.replicate 8 0) (List.replicate 64 0) 0 := Block.new W _ _

set_option maxRecDepth 100000 in
set_option maxHeartbeats 1600000 in
theorem new_any (w : World) :
    Calls Tryd.prog 65 #[] w fun e w' => e = .returned (.pointer (some ⟨w.heap.size, 0, none⟩)) ∧ HashIs w' w.heap.size [] ∧ Below w.heap.size w w' := by
  have hz := zero_hash
  go_enter Tryd.func65, Tryd.ntmps65
  go_wp2_with fail
  go_ret
  exact ⟨rfl, ⟨List.replicate 64 0, Block.new w _ _, rfl, rfl⟩, (Below.refl _ _).alloc (Nat.le_refl _) _⟩

end Go.Proofs.YtpnodocjpedcmaaDoor.Sha

namespace Go.Proofs.YtpnodocjpedcmaaDoor.Jr
open Go.ChangeShapes Go.WideShapes Go.ChangeAt Go.RowKit Go.Proofs.YtpnodocjpedcmaaDoor.Kit

/-- A record. -/
structure Rec where
  seq : Int
  act : Int
  ver : Int
  len : Int
  st : Int
  md : Int
  man : List Int
  nv : Int
  nl : Int
  dn : Int
  at_ : Int
  blk : Int
  asz : Int
/-- Its cells, in their order. -/
def Rec.cells (r : Rec) : List Value :=
  .int .u64 r.seq :: .int .u8 r.act :: .int .u64 r.ver :: .int .i64 r.len :: .int .u8 r.st :: .int .u8 r.md :: (r.man.map (Value.int .u8) ++ [.int .u64 r.nv, .int .i64 r.nl, .int .i64 r.dn, .int .u64 r.at_, .int .i64 r.blk, .int .i64 r.asz])
/-- A record's numbers are within their types. -/
structure Rec.Ok (r : Rec) : Prop where
  seq : 0 ≤ r.seq ∧ r.seq < 18446744073709551616
  act : 0 ≤ r.act ∧ r.act ≤ 255
  ver : 0 ≤ r.ver ∧ r.ver < 18446744073709551616
  len : -9223372036854775808 ≤ r.len ∧ r.len ≤ 9223372036854775807
  st : 0 ≤ r.st ∧ r.st ≤ 255
  md : 0 ≤ r.md ∧ r.md ≤ 255
  man : r.man.length = 32
  mano : Octets r.man
  nv : 0 ≤ r.nv ∧ r.nv < 18446744073709551616
  nl : -9223372036854775808 ≤ r.nl ∧ r.nl ≤ 9223372036854775807
  dn : -9223372036854775808 ≤ r.dn ∧ r.dn ≤ 9223372036854775807
  at_ : 0 ≤ r.at_ ∧ r.at_ < 18446744073709551616
  blk : -9223372036854775808 ≤ r.blk ∧ r.blk ≤ 9223372036854775807
  asz : -9223372036854775808 ≤ r.asz ∧ r.asz ≤ 9223372036854775807
/-- May it be? -/
def inB (n : Int) : Bool := decide (0 ≤ n ∧ n ≤ 2147483647)
def Rec.may (r : Rec) : Bool := decide (r.act ≤ 1 ∧ r.st ≤ 3 ∧ r.md ≤ 3) && inB r.len && inB r.nl && inB r.dn && inB r.blk && inB r.asz

theorem back_cell (r : Rec) (h : r.man.length = 32) (j : Nat) : r.cells.toArray[38 + j]? = ([Value.int .u64 r.nv, .int .i64 r.nl, .int .i64 r.dn, .int .u64 r.at_, .int .i64 r.blk, .int .i64 r.asz] : List Value)[j]? := by
  rw [List.getElem?_toArray, show 38 + j = 32 + j + 1 + 1 + 1 + 1 + 1 + 1 by omega]
  unfold Rec.cells
  simp only [List.getElem?_cons_succ]
  rw [List.getElem?_append_right (by rw [List.length_map, h]; omega), List.length_map, h, show 32 + j - 32 = j by omega]

theorem in1_any (n : Int) (w : World) : Calls Tryd.prog 90 #[.int .i64 n] w fun e w' => e = .returned (.bool (inB n)) ∧ w = w' := by
  unfold inB
  by_cases h0 : 0 ≤ n
  · by_cases h1 : n ≤ 2147483647
    · rw [decide_eq_true (show 0 ≤ n ∧ n ≤ 2147483647 from ⟨h0, h1⟩)]
      have d1 : decide (n ≤ 2147483647) = true := decide_eq_true h1
      go_enter Tryd.func90, Tryd.ntmps90
      go_wp2
      go_ret
      exact ⟨rfl, rfl⟩
    · rw [decide_eq_false (show ¬ (0 ≤ n ∧ n ≤ 2147483647) from fun h => h1 h.2)]
      have d1 : decide (n ≤ 2147483647) = false := decide_eq_false h1
      go_enter Tryd.func90, Tryd.ntmps90
      go_wp2
      go_ret
      exact ⟨rfl, rfl⟩
  · rw [decide_eq_false (show ¬ (0 ≤ n ∧ n ≤ 2147483647) from fun h => h0 h.1)]
    have d1 : decide (0 ≤ n) = false := decide_eq_false h0
    go_enter Tryd.func90, Tryd.ntmps90
    go_wp2
    go_ret
    exact ⟨rfl, rfl⟩
theorem rin_any (n : Int) (w : World) : Calls Tryd.prog 55 #[.int .i64 n] w fun e w' => e = .returned (.bool (inB n)) ∧ w = w' := by
  unfold inB
  by_cases h0 : 0 ≤ n
  · by_cases h1 : n ≤ 2147483647
    · rw [decide_eq_true (show 0 ≤ n ∧ n ≤ 2147483647 from ⟨h0, h1⟩)]
      have d1 : decide (n ≤ 2147483647) = true := decide_eq_true h1
      go_enter Tryd.func55, Tryd.ntmps55
      go_wp2
      go_ret
      exact ⟨rfl, rfl⟩
    · rw [decide_eq_false (show ¬ (0 ≤ n ∧ n ≤ 2147483647) from fun h => h1 h.2)]
      have d1 : decide (n ≤ 2147483647) = false := decide_eq_false h1
      go_enter Tryd.func55, Tryd.ntmps55
      go_wp2
      go_ret
      exact ⟨rfl, rfl⟩
  · rw [decide_eq_false (show ¬ (0 ≤ n ∧ n ≤ 2147483647) from fun h => h0 h.1)]
    have d1 : decide (0 ≤ n) = false := decide_eq_false h0
    go_enter Tryd.func55, Tryd.ntmps55
    go_wp2
    go_ret
    exact ⟨rfl, rfl⟩
theorem in2_any (n : Int) (w : World) : Calls Tryd.prog 91 #[.int .i64 n] w fun e w' => e = .returned (.bool (decide (n ≤ 3))) ∧ w = w' := by
  obtain ⟨b, hb⟩ : ∃ b : Bool, decide (n ≤ 3) = b := ⟨_, rfl⟩
  rw [hb]
  go_enter Tryd.func91, Tryd.ntmps91
  go_wp2
  go_ret
  exact ⟨rfl, rfl⟩

theorem take_all (p : Int → Bool) (xs : List Int) (j : Nat) (h : j < xs.length) : (xs.take (j + 1)).all p = ((xs.take j).all p && p (xs.getD j 0)) := by
  rw [List.take_succ_eq_append_getElem h, List.all_append]
  simp [List.getD, List.getElem?_eq_getElem h]

set_option maxHeartbeats 1600000 in
theorem all1_any (p : Int → Bool) (hp : ∀ x W, Calls Tryd.prog 90 #[.int .i64 x] W fun e w' => e = .returned (.bool (p x)) ∧ W = w') (A : Option Addr) (xs : List Int) (c : Nat) (w : World) (hl : xs.length ≤ 100) (hr : Holds w w.heap.size .i64 A xs) :
    Calls Tryd.prog 89 #[.func (.func 90) #[] #[], .slice A xs.length c] w fun e w' => e = .returned (.bool (xs.all p)) ∧ w = w' := by
  have HP := Lib.hid hp
  have HA := Lib.hid (fun j (h : j < xs.length) => take_all p xs j h)
  have HE : Hid (xs.take xs.length = xs) := Lib.hid List.take_length
  clear hp
  go_enter Tryd.func89, Tryd.ntmps89
  go_wp2
  go_loop [9] (fun i => ∃ j : Nat, j ≤ xs.length ∧ i = .int .i64 j ∧ (xs.take j).all p = true) (fun i => xs.length - (intOf i).toNat)
  case atStart => exact ⟨0, Nat.zero_le _, rfl, rfl⟩
  case round =>
    obtain ⟨j, hj, rfl, ha⟩ := hrel
    have Ha := Lib.hid ha
    clear ha
    by_cases hlt : j < xs.length
    · obtain ⟨b, off, rfl, hb, hc⟩ := hr (by omega)
      have hcj := hc j hlt
      have GF := Lib.hid (HP.out (xs.getD j 0))
      have hstep := Lib.hid (HA.out j hlt)
      have hsub : p (xs.getD j 0) = false → xs.all p = false := fun h => by
        rw [List.all_eq_false]
        exact ⟨xs[j], List.getElem_mem hlt, by simpa [List.getD, List.getElem?_eq_getElem hlt] using h⟩
      have d1 : decide ((j : Int) < (xs.length : Int)) = true := decide_eq_true (by omega)
      have d2 : decide (j < xs.length) = true := decide_eq_true hlt
      generalize xs.getD j 0 = z at *
      obtain ⟨t, ht⟩ : ∃ t : Bool, p z = t := ⟨_, rfl⟩
      rw [ht] at GF
      cases t with
      | true =>
        have Ht := Lib.hid ht
        clear ht hsub hc
        go_wp2_with (go_at_call 90; refine (GF.out _).mono ?_; rintro e w1 ⟨rfl, rfl⟩)
        go_round
        case rel => exact ⟨j + 1, hlt, by go_num, by rw [hstep.out, Ha.out, Ht.out]; rfl⟩
        case measure => simp [intOf] <;> omega
      | false =>
        have hf := Lib.hid (hsub ht)
        clear ht hsub hc
        go_wp2_with (go_at_call 90; refine (GF.out _).mono ?_; rintro e w1 ⟨rfl, rfl⟩)
        go_ret
        exact ⟨by rw [hf.out]; rfl, rfl⟩
    · obtain rfl : j = xs.length := by omega
      have d1 : decide ((xs.length : Int) < (xs.length : Int)) = false := decide_eq_false (by omega)
      have d2 : decide (xs.length < xs.length) = false := decide_eq_false (by omega)
      rw [HE.out] at Ha
      go_wp2
      go_ret
      exact ⟨by rw [Ha.out]; rfl, rfl⟩

set_option maxHeartbeats 1600000 in
theorem all2_any (p : Int → Bool) (hp : ∀ x W, Calls Tryd.prog 91 #[.int .i64 x] W fun e w' => e = .returned (.bool (p x)) ∧ W = w') (A : Option Addr) (xs : List Int) (c : Nat) (w : World) (hl : xs.length ≤ 100) (hr : Holds w w.heap.size .i64 A xs) :
    Calls Tryd.prog 89 #[.func (.func 91) #[] #[], .slice A xs.length c] w fun e w' => e = .returned (.bool (xs.all p)) ∧ w = w' := by
  have HP := Lib.hid hp
  have HA := Lib.hid (fun j (h : j < xs.length) => take_all p xs j h)
  have HE : Hid (xs.take xs.length = xs) := Lib.hid List.take_length
  clear hp
  go_enter Tryd.func89, Tryd.ntmps89
  go_wp2
  go_loop [9] (fun i => ∃ j : Nat, j ≤ xs.length ∧ i = .int .i64 j ∧ (xs.take j).all p = true) (fun i => xs.length - (intOf i).toNat)
  case atStart => exact ⟨0, Nat.zero_le _, rfl, rfl⟩
  case round =>
    obtain ⟨j, hj, rfl, ha⟩ := hrel
    have Ha := Lib.hid ha
    clear ha
    by_cases hlt : j < xs.length
    · obtain ⟨b, off, rfl, hb, hc⟩ := hr (by omega)
      have hcj := hc j hlt
      have GF := Lib.hid (HP.out (xs.getD j 0))
      have hstep := Lib.hid (HA.out j hlt)
      have hsub : p (xs.getD j 0) = false → xs.all p = false := fun h => by
        rw [List.all_eq_false]
        exact ⟨xs[j], List.getElem_mem hlt, by simpa [List.getD, List.getElem?_eq_getElem hlt] using h⟩
      have d1 : decide ((j : Int) < (xs.length : Int)) = true := decide_eq_true (by omega)
      have d2 : decide (j < xs.length) = true := decide_eq_true hlt
      generalize xs.getD j 0 = z at *
      obtain ⟨t, ht⟩ : ∃ t : Bool, p z = t := ⟨_, rfl⟩
      rw [ht] at GF
      cases t with
      | true =>
        have Ht := Lib.hid ht
        clear ht hsub hc
        go_wp2_with (go_at_call 91; refine (GF.out _).mono ?_; rintro e w1 ⟨rfl, rfl⟩)
        go_round
        case rel => exact ⟨j + 1, hlt, by go_num, by rw [hstep.out, Ha.out, Ht.out]; rfl⟩
        case measure => simp [intOf] <;> omega
      | false =>
        have hf := Lib.hid (hsub ht)
        clear ht hsub hc
        go_wp2_with (go_at_call 91; refine (GF.out _).mono ?_; rintro e w1 ⟨rfl, rfl⟩)
        go_ret
        exact ⟨by rw [hf.out]; rfl, rfl⟩
    · obtain rfl : j = xs.length := by omega
      have d1 : decide ((xs.length : Int) < (xs.length : Int)) = false := decide_eq_false (by omega)
      have d2 : decide (xs.length < xs.length) = false := decide_eq_false (by omega)
      rw [HE.out] at Ha
      go_wp2
      go_ret
      exact ⟨by rw [Ha.out]; rfl, rfl⟩
end Go.Proofs.YtpnodocjpedcmaaDoor.Jr

namespace Go.Proofs.YtpnodocjpedcmaaDoor.Kit
open Go.ChangeShapes Go.WideShapes Go.ChangeAt Go.RowKit

/-- v is a slice of the call's own, from block B on (or nil), and holds the values us. -/
def OwnV (w : World) (B : Nat) (e : TypeId) (v : Value) (us : List Value) : Prop := w.ownsRow B e 1 v us.length us
/-- t is the type of slices over e, of one cell. -/
def ValElem (P : Program) (t e : TypeId) (z : Value) (bytes : Nat) : Prop :=
  P.underlying t = some (.slice e) ∧ (P.info? e).map (fun i => (i.zero, i.size, i.bytes)) = some (some z, 1, bytes) ∧ z.cells.size = 1 ∧ bytes ≤ 64

section
variable {P : Program} {w w' : World} {B : Nat} {e : TypeId} {v : Value} {us : List Value}

theorem OwnV.nil (w : World) (B : Nat) (e : TypeId) : OwnV w B e (.slice none 0 0) [] := World.ownsRow_nil w B e 1
theorem OwnV.empty (w : World) (e : TypeId) (hB : B ≤ w.heap.size) : OwnV (w.alloc (.cells #[] e)) B e (.slice (some ⟨w.heap.size, 0, none⟩) 0 0) [] :=
  World.ownsRow_lit (size := 1) w #[] 0 hB (Nat.zero_le _) rfl
theorem OwnV.one (w : World) (e : TypeId) (hB : B ≤ w.heap.size) (u : Value) : OwnV (w.alloc (.cells #[u] e)) B e (.slice (some ⟨w.heap.size, 0, none⟩) 1 1) [u] :=
  World.ownsRow_lit (size := 1) w #[u] 1 hB (by decide) rfl
theorem OwnV.lt (h : OwnV w B e v us) : ∀ g, v.ownBlock = some g → B ≤ g ∧ g < w.heap.size := World.ownsRow.lt h
theorem OwnV.alloc (h : OwnV w B e v us) (o : Obj) : OwnV (w.alloc o) B e v us := World.ownsRow.alloc h o
theorem OwnV.drewN (h : OwnV w B e v us) (n : Nat) : OwnV (w.drewN n) B e v us := h
theorem OwnV.mono {B' : Nat} (h : OwnV w B e v us) (hb : B' ≤ B) : OwnV w B' e v us := by
  rcases h.2 with ⟨rfl, h0⟩ | ⟨g, cap, cur, rfl, hbg, hrest⟩
  · exact ⟨h.1, .inl ⟨rfl, h0⟩⟩
  · exact ⟨h.1, .inr ⟨g, cap, cur, rfl, by omega, hrest⟩⟩
theorem OwnV.kept {row : Option Nat} (h : OwnV w B e v us) (hg : w.grownBy w' row) (hne : v.ownBlock = none ∨ v.ownBlock ≠ row) : OwnV w' B e v us := World.ownsRow.kept h hg hne
theorem OwnV.below (h : OwnV w B e v us) (hb : Below w.heap.size w w') : OwnV w' B e v us := by
  refine h.kept (row := none) ⟨hb.os, hb.tape, hb.output, hb.size, fun g hg _ => hb.block g hg⟩ ?_
  cases hv : v.ownBlock with
  | none => exact .inl rfl
  | some g => exact .inr (by simp)
theorem OwnV.opened (h : OwnV w B e v us) : ∃ (A : Option Addr) (cap : Nat), v = .slice A us.length cap ∧ us.length ≤ cap ∧ cap ≤ maxLen := by
  rcases h.2 with ⟨rfl, h0⟩ | ⟨g, cap, cur, rfl, hb, hg, hnc, hcm, hcs, htake⟩
  · exact ⟨none, 0, by rw [h0], by omega, Nat.zero_le _⟩
  · exact ⟨some ⟨g, 0, none⟩, cap, rfl, hnc, hcm⟩
theorem OwnV.cellAt {A : Option Addr} {n cap : Nat} (h : OwnV w B e (.slice A n cap) us) {i : Nat} (hi : i < us.length) : ∃ g, A = some ⟨g, 0, none⟩ ∧ g < w.heap.size ∧ w.cell? ⟨g, i, none⟩ = some us[i] := by
  rcases h.2 with ⟨h1, h0⟩ | ⟨g, cap, cur, h1, hb, hg, hnc, hcm, hcs, htake⟩
  · omega
  · injection h1 with h1 h2 h3
    subst h1 h2 h3
    refine ⟨g, rfl, (Array.getElem?_eq_some_iff.1 hg).1, ?_⟩
    rw [World.ownsRow.cellAt h i (by omega)]
    exact List.getElem?_eq_getElem hi

/-- Rows of other types of cells never share its block. -/
theorem OwnV.ne_block {g : Nat} {t : TypeId} {cs : Array Value} (h : OwnV w B e v us) (hg : Block w g t cs) (hne : t ≠ e) : v.ownBlock ≠ some g := by
  rcases h.2 with ⟨rfl, _⟩ | ⟨g', cap, cur, rfl, _, hh, _⟩
  · simp [Value.ownBlock]
  · intro he
    obtain rfl : g' = g := by simpa [Value.ownBlock] using he
    unfold Block at hg
    rw [hh] at hg
    injection hg with hg
    injection hg with _ ht
    exact hne ht.symm

/-- append(v, u): u lies alone in the newest block. -/
theorem wpList_append_val {ops : Array Oper} {rest : List Oper} {o : Oper} {a : Act} {Q : Exit → Act → World → Prop} (hgd : o.guard = none) (s x : Operand) (t : TypeId)
    (ho : o.op = .call { callee := .builtin .append, args := #[s, x], argTypes := #[t, t] }) {z : Value} {bytes : Nat} (he : ValElem P t e z bytes)
    (hown : OwnV w B e v us) (hs : a.eval s = v) {u : Value} {c : Nat} {e2 : TypeId} (hx : a.eval x = .slice (some ⟨w.heap.size, 0, none⟩) 1 c) (hu : u.oneCell' = true) (hsz : us.length + 1 ≤ 1099511627776) (hbase : B ≤ w.heap.size)
    (h : ∀ v' w', OwnV w' B e v' (us ++ [u]) → (w.alloc (.cells #[u] e2)).grownBy w' v.ownBlock → Below B w w' → wpList P ops Q rest (a.put o.dst v') w') :
    wpList P ops Q (o :: rest) a (w.alloc (.cells #[u] e2)) := by
  obtain ⟨ht, hinfo, hz1, hb8⟩ := he
  obtain ⟨i, hi, hz, hsi, hby⟩ := info_parts hinfo
  refine wpList_plain hgd fun K hK => ?_
  have hmul : (us.length + 1) * bytes ≤ (us.length + 1) * 64 := Nat.mul_le_mul_left _ hb8
  obtain ⟨v', w', hrun, h2, h3, _, _⟩ := run_append_own_at (P := P) (w.alloc (.cells #[u] e2)) B t o.type e i z 1 bytes ht hi hz hsi hby hz1 (by omega) v us.length us (hown.alloc _)
    ⟨w.heap.size, 0, none⟩ 1 c [u] rfl (by
      intro j y hj
      have hj0 : j = 0 := by
        rcases j with _ | j
        · rfl
        · simp at hj
      subst hj0
      obtain rfl : u = y := by simpa using hj
      rw [add_plain]
      exact cell_of_row (w.alloc (.cells #[u] e2)) w.heap.size 0 #[u] e2 (0, 0) (heap_alloc_new w _)) (by intro y hy; simp at hy; subst hy; exact hu) (by unfold maxLen; omega) (by omega) (by simp; omega)
  have h2 : OwnV w' B e v' (us ++ [u]) := by unfold OwnV; rw [List.length_append, List.length_singleton]; exact h2
  unfold Oper.wp
  simp only [execOp, ho, resolve, invoke, builtin, Sem.run_bind, Sem.run_pure, Result.andThen_ok, List.map_toArray, List.map_cons, List.map_nil, hs, hx, hrun]
  exact hK _ _ (h v' w' h2 h3 (((Below.refl B w).alloc hbase _).trans (below_of_grown h3 (by simp; omega) fun g hg => (hown.lt g hg).1)))
end

/-- A row of bytes that lies whole in a block of another type than e. -/
def RwArr (w : World) (e : TypeId) (r : Rw) : Prop := ∃ (g : Nat) (t : TypeId), t ≠ e ∧ r.A = some ⟨g, 0, none⟩ ∧ r.cap = r.zs.length ∧ r.zs.length ≤ 100000 ∧ Octets r.zs ∧ Arr w g t .u8 r.zs
section
variable {w w' : World} {B : Nat} {e : TypeId} {v : Value} {rs : List Rw} {r : Rw}
theorem RwArr.ok (h : RwArr w e r) : RwOk w w.heap.size r := by
  obtain ⟨g, t, _, hA, hc, hl, ho, ha⟩ := h
  refine ⟨by omega, by unfold maxLen; omega, ho, ?_⟩
  rw [hA]
  exact ha.holds_all
theorem RwArr.below (h : RwArr w e r) (hb : Below w.heap.size w w') : RwArr w' e r := by
  obtain ⟨g, t, h0, hA, hc, hl, ho, ha⟩ := h
  exact ⟨g, t, h0, hA, hc, hl, ho, Block.below ha hb (Block.lt ha)⟩
theorem RwArr.grown {us : List Value} (h : RwArr w e r) (hown : OwnV w B e v us) (hg : w.grownBy w' v.ownBlock) : RwArr w' e r := by
  obtain ⟨g, t, h0, hA, hc, hl, ho, ha⟩ := h
  exact ⟨g, t, h0, hA, hc, hl, ho, Block.grown ha hg (hown.ne_block ha h0)⟩
theorem RwArr.mk {g : Nat} {t : TypeId} {xs : List Int} (ha : Arr w g t .u8 xs) (h0 : t ≠ e) (ho : Octets xs) (hl : xs.length ≤ 100000) : RwArr w e ⟨some ⟨g, 0, none⟩, xs.length, xs⟩ :=
  ⟨g, t, h0, rfl, rfl, hl, ho, ha⟩
theorem OwnV.rows {A : Option Addr} {n cap : Nat} (h : OwnV w B e (.slice A n cap) (rs.map Rw.val)) (hr : ∀ r ∈ rs, RwArr w e r) : HoldsW w w.heap.size A rs := by
  intro hx
  obtain ⟨g, rfl, hlt, _⟩ := h.cellAt (i := 0) (by simpa using hx)
  refine ⟨g, 0, rfl, hlt, fun i r hi => ?_⟩
  have hok := (hr r (List.mem_of_getElem? hi)).ok
  refine ⟨_, ⟨rfl, hok⟩, rfl, fun j u hj => ?_⟩
  have hj0 : j = 0 := by
    rcases j with _ | j
    · rfl
    · simp at hj
  subst hj0
  obtain ⟨hil, hir⟩ := List.getElem?_eq_some_iff.1 hi
  obtain ⟨g2, e2, _, hc⟩ := h.cellAt (i := i) (by simpa using hil)
  injection e2 with e2
  injection e2 with e2
  subst e2
  rw [Nat.zero_add, Nat.mul_one, Nat.add_zero, hc]
  have hu : u = r.val := by simpa [Rw.val] using hj.symm
  subst hu
  rw [List.getElem_map, hir]
end
end Go.Proofs.YtpnodocjpedcmaaDoor.Kit

namespace Go.Proofs.YtpnodocjpedcmaaDoor.Jr
open Go.ChangeShapes Go.WideShapes Go.ChangeAt Go.RowKit Go.Proofs.YtpnodocjpedcmaaDoor.Kit

theorem below_last (w : World) (o : Obj) : Below w.heap.size w (w.alloc o) := (Below.refl _ _).alloc (Nat.le_refl _) _
/-- May a record be, test by test. -/
theorem may_two (r : Rec) : r.may = ([r.len, r.nl, r.dn, r.blk, r.asz].all inB && ([r.st, r.md].all (fun n => decide (n ≤ 3)) && decide (r.act ≤ 1))) := by
  unfold Rec.may
  simp only [List.all_cons, List.all_nil, Bool.and_true]
  by_cases h1 : r.act ≤ 1 <;> by_cases h2 : r.st ≤ 3 <;> by_cases h3 : r.md ≤ 3 <;> simp [h1, h2, h3, Bool.and_assoc]

/-- A record lies in block g. -/
def RecAt (w : World) (g : Nat) (r : Rec) : Prop := Block w g 50 r.cells.toArray
theorem RecAt.lt {w : World} {g : Nat} {r : Rec} (h : RecAt w g r) : g < w.heap.size := Block.lt h
theorem RecAt.alloc {w : World} {g : Nat} {r : Rec} (h : RecAt w g r) (o : Obj) : RecAt (w.alloc o) g r := Block.alloc h o
theorem RecAt.below {w w' : World} {B g : Nat} {r : Rec} (h : RecAt w g r) (hb : Below B w w') (hg : g < B) : RecAt w' g r := Block.below h hb hg
theorem RecAt.back {w : World} {g : Nat} {r : Rec} (h : RecAt w g r) (hm : r.man.length = 32) :
    w.cell? ⟨g, 38, none⟩ = some (.int .u64 r.nv) ∧ w.cell? ⟨g, 39, none⟩ = some (.int .i64 r.nl) ∧ w.cell? ⟨g, 40, none⟩ = some (.int .i64 r.dn) ∧ w.cell? ⟨g, 41, none⟩ = some (.int .u64 r.at_) ∧ w.cell? ⟨g, 42, none⟩ = some (.int .i64 r.blk) ∧ w.cell? ⟨g, 43, none⟩ = some (.int .i64 r.asz) :=
  ⟨(h.cell 38).trans (back_cell r hm 0), (h.cell 39).trans (back_cell r hm 1), (h.cell 40).trans (back_cell r hm 2), (h.cell 41).trans (back_cell r hm 3), (h.cell 42).trans (back_cell r hm 4), (h.cell 43).trans (back_cell r hm 5)⟩
theorem RecAt.front {w : World} {g : Nat} {r : Rec} (h : RecAt w g r) :
    w.cell? ⟨g, 0, none⟩ = some (.int .u64 r.seq) ∧ w.cell? ⟨g, 1, none⟩ = some (.int .u8 r.act) ∧ w.cell? ⟨g, 2, none⟩ = some (.int .u64 r.ver) ∧ w.cell? ⟨g, 3, none⟩ = some (.int .i64 r.len) ∧ w.cell? ⟨g, 4, none⟩ = some (.int .u8 r.st) ∧ w.cell? ⟨g, 5, none⟩ = some (.int .u8 r.md) :=
  ⟨h.cell 0, h.cell 1, h.cell 2, h.cell 3, h.cell 4, h.cell 5⟩

theorem sizes_any (a b c d e : Int) (W : World) : Calls Tryd.prog 89 #[.func (.func 90) #[] #[], .slice (some ⟨W.heap.size, 0, none⟩) 5 5] (W.alloc (.cells #[.int .i64 a, .int .i64 b, .int .i64 c, .int .i64 d, .int .i64 e] 3)) fun x w' => x = .returned (.bool ([a, b, c, d, e].all inB)) ∧ W.alloc (.cells #[.int .i64 a, .int .i64 b, .int .i64 c, .int .i64 d, .int .i64 e] 3) = w' :=
  all1_any inB in1_any _ [a, b, c, d, e] 5 _ (by simp) (Arr.new W 3 .i64 [a, b, c, d, e]).holds_all
theorem kinds_any (a b : Int) (W : World) : Calls Tryd.prog 89 #[.func (.func 91) #[] #[], .slice (some ⟨W.heap.size, 0, none⟩) 2 2] (W.alloc (.cells #[.int .i64 a, .int .i64 b] 3)) fun x w' => x = .returned (.bool ([a, b].all (fun n => decide (n ≤ 3)))) ∧ W.alloc (.cells #[.int .i64 a, .int .i64 b] 3) = w' :=
  all2_any (fun n => decide (n ≤ 3)) in2_any _ [a, b] 2 _ (by simp) (Arr.new W 3 .i64 [a, b]).holds_all

set_option maxRecDepth 100000 in
set_option maxHeartbeats 3200000 in
theorem may_any (r : Rec) (hr : r.Ok) (w : World) : Calls Tryd.prog 70 #[.agg r.cells.toArray] w fun e w' => e = .returned (.bool r.may) ∧ Below w.heap.size w w' := by
  have B1 := below_last w (.cells r.cells.toArray 50)
  have R1 : RecAt (w.alloc (.cells r.cells.toArray 50)) w.heap.size r := Block.new w _ _
  have HM := Lib.hid (may_two r)
  have GA := Lib.hid (fun W => sizes_any r.len r.nl r.dn r.blk r.asz W)
  have GB := Lib.hid (fun W => kinds_any r.st r.md W)
  have hs := hr.st
  have hm := hr.md
  have hman := hr.man
  generalize [r.len, r.nl, r.dn, r.blk, r.asz].all inB = b1 at *
  generalize [r.st, r.md].all (fun n => decide (n ≤ 3)) = b2 at *
  generalize hW : w.alloc (.cells r.cells.toArray 50) = w1 at *
  have R2 := R1.alloc (.cells #[.int .i64 r.len, .int .i64 r.nl, .int .i64 r.dn, .int .i64 r.blk, .int .i64 r.asz] 3)
  have R3 := R2.alloc (.cells #[.int .i64 r.st, .int .i64 r.md] 3)
  have B2 := B1.alloc B1.size (.cells #[.int .i64 r.len, .int .i64 r.nl, .int .i64 r.dn, .int .i64 r.blk, .int .i64 r.asz] 3)
  have B3 := B2.alloc B2.size (.cells #[.int .i64 r.st, .int .i64 r.md] 3)
  have KB := GB.out (w1.alloc (.cells #[.int .i64 r.len, .int .i64 r.nl, .int .i64 r.dn, .int .i64 r.blk, .int .i64 r.asz] 3))
  rw [show (w1.alloc (.cells #[.int .i64 r.len, .int .i64 r.nl, .int .i64 r.dn, .int .i64 r.blk, .int .i64 r.asz] 3)).heap.size = w1.heap.size + 1 by simp] at KB
  replace KB := Lib.hid KB
  clear GB
  obtain ⟨f0, f1, f2, f3, f4, f5⟩ := R1.front
  obtain ⟨k0, k1, k2, k3, k4, k5⟩ := R1.back hman
  have f4' := R2.front.2.2.2.2.1
  have f5' := R2.front.2.2.2.2.2
  have f1' := R3.front.2.1
  have HB := Lib.hid B3
  clear R1 R2 R3 B1 B2 B3 hr hman f0 f2 k0 k3
  generalize hlen : r.len = len at *
  generalize hnl : r.nl = nl at *
  generalize hdn : r.dn = dn at *
  generalize hblk : r.blk = blk at *
  generalize hasz : r.asz = asz at *
  generalize hst : r.st = st at *
  generalize hmd : r.md = md at *
  generalize hact : r.act = act at *
  generalize r.may = res at *
  clear hlen hnl hdn hblk hasz hst hmd hact
  generalize hC : r.cells.toArray = cs at *
  clear hC
  go_enter Tryd.func70, Tryd.ntmps70
  cases b1 <;> cases b2
  all_goals
    go_wp2_with (first
      | (go_at_call 89; (with_reducible refine (GA.out _).mono ?_); rintro e w2 ⟨rfl, rfl⟩)
      | (go_at_call 89; (with_reducible refine KB.out.mono ?_); rintro e w2 ⟨rfl, rfl⟩))
    go_ret
    exact ⟨by rw [HM.out]; first | rfl | simp, HB.out⟩
end Go.Proofs.YtpnodocjpedcmaaDoor.Jr

namespace Go.Proofs.YtpnodocjpedcmaaDoor.Oct
open Go.RowKit Go.Proofs.YtpnodocjpedcmaaDoor.Kit

def val (xs : List Int) : Int := xs.foldl (fun x c => x * 256 + c) 0

theorem val_snoc (l : List Int) (a : Int) : val (l ++ [a]) = val l * 256 + a := by simp [val]

theorem take_snoc (xs : List Int) (k : Nat) (h : k < xs.length) : xs.take (k + 1) = xs.take k ++ [xs[k]?.getD 0] := by
  rw [List.take_add_one]; simp [h]

theorem val_take (xs : List Int) (k : Nat) (h : k < xs.length) : val (xs.take (k + 1)) = val (xs.take k) * 256 + xs[k]?.getD 0 := by
  rw [take_snoc xs k h, val_snoc]

theorem val_bd (xs : List Int) (ho : Octets xs) : ∀ k, k ≤ xs.length → 0 ≤ val (xs.take k) ∧ val (xs.take k) < (256 : Int) ^ k
  | 0, _ => by simp [val]
  | k + 1, h => by
    have h1 := val_bd xs ho k (by omega)
    have h2 := ho.at_ k
    rw [val_take xs k (by omega), Int.pow_succ]
    omega

theorem pow_up (k : Nat) : ∀ d, 0 < (256 : Int) ^ k ∧ (256 : Int) ^ k ≤ 256 ^ (k + d)
  | 0 => by
    refine ⟨?_, Int.le_refl _⟩
    induction k with
    | zero => decide
    | succ k ih => rw [Int.pow_succ]; omega
  | d + 1 => by
    have := pow_up k d
    rw [← Nat.add_assoc, Int.pow_succ]
    omega

theorem val_lt (xs : List Int) (ho : Octets xs) (k : Nat) (hk : k ≤ xs.length) (h : k ≤ 7) : 0 ≤ val (xs.take k) ∧ val (xs.take k) < 72057594037927936 := by
  have h1 := val_bd xs ho k hk
  have h2 : (256 : Int) ^ k ≤ 256 ^ 7 := by
    have := (pow_up k (7 - k)).2
    rwa [show k + (7 - k) = 7 from by omega] at this
  have h3 : (256 : Int) ^ 7 = 72057594037927936 := by decide
  omega

theorem val_lt8 (xs : List Int) (ho : Octets xs) (k : Nat) (hk : k ≤ xs.length) (h : k ≤ 8) : 0 ≤ val (xs.take k) ∧ val (xs.take k) < 18446744073709551616 := by
  have h1 := val_bd xs ho k hk
  have h2 : (256 : Int) ^ k ≤ 256 ^ 8 := by
    have := (pow_up k (8 - k)).2
    rwa [show k + (8 - k) = 8 from by omega] at this
  have h3 : (256 : Int) ^ 8 = 18446744073709551616 := by decide
  omega

/-- x<<8 | c, in 64 bits. -/
theorem shl8_or (x c : Int) (hx : 0 ≤ x ∧ x < 72057594037927936) (hc : 0 ≤ c ∧ c ≤ 255) :
    bits BinOp.or IntKind.u64 (IntKind.u64.wrap (x * 256)) (IntKind.u64.wrap c) = x * 256 + c := by
  obtain ⟨X, rfl⟩ := Int.eq_ofNat_of_zero_le hx.1
  obtain ⟨C, rfl⟩ := Int.eq_ofNat_of_zero_le hc.1
  rw [IntWalk.u64_in _ (by omega), IntWalk.u64_in _ (by omega)]
  have h := u64_or_nat (X * 256) C (by omega) (by omega)
  rw [nat_join 8 (X * 256) C (by omega) (by omega)] at h
  simpa using h

/-- Byte i of a number, from the lowest on. -/
def byteAt (x : Int) (i : Nat) : Int := x / (2 : Int) ^ (8 * i) % 256
/-- n bytes of a number, the highest first. -/
def be (n : Nat) (x : Int) : List Int := (List.range n).map fun i => byteAt x (n - 1 - i)

theorem be_length (n : Nat) (x : Int) : (be n x).length = n := by simp [be]
theorem byteAt_bd (x : Int) (i : Nat) : 0 ≤ byteAt x i ∧ byteAt x i ≤ 255 := by unfold byteAt; omega
theorem be_octets (n : Nat) (x : Int) : Octets (be n x) := by
  intro z hz
  obtain ⟨i, _, rfl⟩ := List.mem_map.1 hz
  exact byteAt_bd _ _
theorem be_get (n : Nat) (x : Int) (j : Nat) (h : j < n) : (be n x)[j]?.getD 0 = byteAt x (n - 1 - j) := by simp [be, h]
theorem be_take (n : Nat) (x : Int) (j : Nat) (h : j < n) : (be n x).take (j + 1) = (be n x).take j ++ [byteAt x (n - 1 - j)] := by
  rw [take_snoc _ _ (by rw [be_length]; exact h), be_get n x j h]

theorem be_succ (n : Nat) (x : Int) : be (n + 1) x = be n (x / 256) ++ [x % 256] := by
  unfold be
  rw [List.range_succ, List.map_append]
  congr 1
  · apply List.map_congr_left
    intro i hi
    have hi := List.mem_range.1 hi
    unfold byteAt
    rw [show n + 1 - 1 - i = (n - 1 - i) + 1 by omega, show 8 * (n - 1 - i + 1) = 8 + 8 * (n - 1 - i) by omega, Int.pow_add]
    rw [show (2 : Int) ^ 8 = 256 by decide, Int.ediv_ediv_of_nonneg (by omega)]
  · simp [byteAt]

theorem emod_256_mul (x M : Int) (hM : 0 < M) : x % (256 * M) = 256 * (x / 256 % M) + x % 256 := by
  have h1 := Int.mul_ediv_add_emod (x / 256) M
  have h2 := Int.emod_nonneg (x / 256) (by omega : M ≠ 0)
  have h3 := Int.emod_lt_of_pos (x / 256) hM
  have h4 : x = (256 * (x / 256 % M) + x % 256) + 256 * M * (x / 256 / M) := by
    have : 256 * M * (x / 256 / M) = 256 * (M * (x / 256 / M)) := Int.mul_assoc _ _ _
    rw [this]
    omega
  generalize x / 256 % M = s at *
  generalize x / 256 / M = q at *
  rw [h4, Int.add_mul_emod_self_left, Int.emod_eq_of_lt (by omega) (by omega)]
  omega

theorem val_be : ∀ (n : Nat) (x : Int), val (be n x) = x % (256 : Int) ^ n
  | 0, x => by simp [be, val]
  | n + 1, x => by
    have h256 : (0 : Int) < 256 ^ n := (pow_up n 0).1
    rw [be_succ, val_snoc, val_be n (x / 256), Int.pow_succ, Int.mul_comm ((256 : Int) ^ n) 256, emod_256_mul x _ h256]
    omega

theorem val_be8 (x : Int) (hx : 0 ≤ x ∧ x < 18446744073709551616) : val (be 8 x) = x := by
  rw [val_be 8 x, show (256 : Int) ^ 8 = 18446744073709551616 by decide]
  omega

/-- Digit i of bytes, by w bits each. -/
def dg (xs : List Int) (w i : Nat) : Int := xs[i / (8 / w)]?.getD 0 / (2 : Int) ^ (w * (8 / w - 1 - i % (8 / w))) % (2 : Int) ^ w

theorem i64_and_nat (a b : Nat) (ha : a < 9223372036854775808) (hb : b < 9223372036854775808) : bits .and .i64 (a : Int) (b : Int) = ((a &&& b : Nat) : Int) := by
  have hx : a &&& b < 2 ^ 63 := Nat.and_lt_two_pow a (by omega)
  show IntKind.i64.wrap ((BitVec.ofInt 64 (a : Int) &&& BitVec.ofInt 64 (b : Int)).toNat : Int) = _
  rw [BitVec.toNat_and, ofInt_u64 a (by omega), ofInt_u64 b (by omega)]
  exact IntWalk.i64_in _ (by omega)

theorem div_pow_nat (x d : Nat) : (x : Int) / (2 : Int) ^ d = ((x / 2 ^ d : Nat) : Int) := by
  rw [Int.natCast_ediv, Int.natCast_pow]; rfl

theorem mask1 (x : Int) (d : Nat) (hx : 0 ≤ x ∧ x ≤ 255) : bits .and .i64 (x / 2 ^ d) 1 = x / 2 ^ d % 2 := by
  obtain ⟨X, rfl⟩ := Int.eq_ofNat_of_zero_le hx.1
  have : X / 2 ^ d ≤ X := Nat.div_le_self _ _
  rw [div_pow_nat]
  have h := i64_and_nat (X / 2 ^ d) 1 (by omega) (by omega)
  rw [nat_mask1] at h
  exact h
theorem mask2 (x : Int) (d : Nat) (hx : 0 ≤ x ∧ x ≤ 255) : bits .and .i64 (x / 2 ^ d) 3 = x / 2 ^ d % 4 := by
  obtain ⟨X, rfl⟩ := Int.eq_ofNat_of_zero_le hx.1
  have : X / 2 ^ d ≤ X := Nat.div_le_self _ _
  rw [div_pow_nat]
  have h := i64_and_nat (X / 2 ^ d) 3 (by omega) (by omega)
  rw [nat_mask2] at h
  exact h
theorem mask4 (x : Int) (d : Nat) (hx : 0 ≤ x ∧ x ≤ 255) : bits .and .i64 (x / 2 ^ d) 15 = x / 2 ^ d % 16 := by
  obtain ⟨X, rfl⟩ := Int.eq_ofNat_of_zero_le hx.1
  have : X / 2 ^ d ≤ X := Nat.div_le_self _ _
  rw [div_pow_nat]
  have h := i64_and_nat (X / 2 ^ d) 15 (by omega) (by omega)
  rw [nat_mask4] at h
  exact h
theorem mask8 (x : Int) (hx : 0 ≤ x ∧ x ≤ 255) : bits .and .i64 x 255 = x := by
  obtain ⟨X, rfl⟩ := Int.eq_ofNat_of_zero_le hx.1
  have h := i64_and_nat X 255 (by omega) (by omega)
  rw [nat_mask8, Nat.mod_eq_of_lt (by omega)] at h
  exact h

/-- All digits of bytes, by w bits each. -/
def dgs (xs : List Int) (w : Nat) : List Int := (List.range (xs.length * (8 / w))).map (dg xs w)

theorem dgs_length (xs : List Int) (w : Nat) : (dgs xs w).length = xs.length * (8 / w) := by simp [dgs]

theorem fill_step (ds : List Int) (L j : Nat) (hL : ds.length = L) (hj : j < L) (z : Int) (hz : ds[j]?.getD 0 = z) :
    (ds.take j ++ List.replicate (L - j) 0).set j z = ds.take (j + 1) ++ List.replicate (L - (j + 1)) 0 := by
  rw [take_snoc ds j (by omega), hz, List.set_append_right _ _ (by simp; omega)]
  simp only [List.length_take, Nat.min_eq_left (show j ≤ ds.length by omega), Nat.sub_self, List.append_assoc]
  congr 1
  rw [show L - j = (L - (j + 1)) + 1 by omega, List.replicate_succ]
  rfl

theorem dgs_get (xs : List Int) (w j : Nat) (hj : j < xs.length * (8 / w)) : (dgs xs w)[j]?.getD 0 = dg xs w j := by simp [dgs, hj]

/-- The digits of one byte, and of all. -/
def one (x : Int) (w : Nat) : List Int := (List.range (8 / w)).map fun r => x / (2 : Int) ^ (w * (8 / w - 1 - r)) % (2 : Int) ^ w
def all (xs : List Int) (w : Nat) : List Int := xs.flatMap (one · w)

theorem one_length (x : Int) (w : Nat) : (one x w).length = 8 / w := by simp [one]
theorem all_snoc (xs : List Int) (x : Int) (w : Nat) : all (xs ++ [x]) w = all xs w ++ one x w := by simp [all]

theorem dgs_snoc (xs : List Int) (x : Int) (w : Nat) (hw : 0 < 8 / w) : dgs (xs ++ [x]) w = dgs xs w ++ one x w := by
  unfold dgs one
  rw [List.length_append, List.length_singleton, Nat.add_mul, Nat.one_mul, List.range_add, List.map_append, List.map_map]
  congr 1
  · apply List.map_congr_left
    intro i hi
    have hi := List.mem_range.1 hi
    unfold dg
    rw [List.getElem?_append_left (Nat.div_lt_of_lt_mul (by rw [Nat.mul_comm]; exact hi))]
  · apply List.map_congr_left
    intro r hr
    have hr := List.mem_range.1 hr
    show dg (xs ++ [x]) w (xs.length * (8 / w) + r) = _
    unfold dg
    rw [Nat.mul_comm xs.length, Nat.mul_add_div hw, Nat.div_eq_of_lt hr, Nat.mul_add_mod, Nat.mod_eq_of_lt hr]
    simp

theorem dgs_all (w : Nat) (hw : 0 < 8 / w) (xs : List Int) : dgs xs w = all xs w := by
  have h : ∀ n (xs : List Int), xs.length = n → dgs xs w = all xs w := by
    intro n
    induction n with
    | zero => intro xs h; obtain rfl : xs = [] := List.eq_nil_of_length_eq_zero h; simp [dgs, all]
    | succ n ih =>
      intro xs h
      have hx : xs = xs.take n ++ [xs[n]?.getD 0] := by
        rw [← take_snoc xs n (by omega), List.take_of_length_le (by omega)]
      rw [hx, dgs_snoc _ _ _ hw, all_snoc, ih _ (by simp; omega)]
  exact h _ xs rfl

/-- The bits of x's next digit that were gone through, behind k bits. -/
def part (x : Int) (w k : Nat) : Int := x / (2 : Int) ^ (8 - k) % (2 : Int) ^ (k % w)

theorem part_in (x : Int) (w k : Nat) (hw : w = 1 ∨ w = 2 ∨ w = 4 ∨ w = 8) (hk : k < 8) (h : k % w ≠ w - 1) (hx : 0 ≤ x ∧ x ≤ 255) :
    part x w (k + 1) = 2 * part x w k + x / (2 : Int) ^ (7 - k) % 2 ∧ (k + 1) / w = k / w := by
  rcases (by omega : k = 0 ∨ k = 1 ∨ k = 2 ∨ k = 3 ∨ k = 4 ∨ k = 5 ∨ k = 6 ∨ k = 7) with rfl | rfl | rfl | rfl | rfl | rfl | rfl | rfl <;>
    rcases hw with rfl | rfl | rfl | rfl <;> (first | (exfalso; omega) | (simp [part]; omega) | simp [part])

theorem part_end (x : Int) (w k : Nat) (hw : w = 1 ∨ w = 2 ∨ w = 4 ∨ w = 8) (hk : k < 8) (h : k % w = w - 1) (hx : 0 ≤ x ∧ x ≤ 255) :
    part x w (k + 1) = 0 ∧ (one x w).take ((k + 1) / w) = (one x w).take (k / w) ++ [2 * part x w k + x / (2 : Int) ^ (7 - k) % 2] := by
  rcases (by omega : k = 0 ∨ k = 1 ∨ k = 2 ∨ k = 3 ∨ k = 4 ∨ k = 5 ∨ k = 6 ∨ k = 7) with rfl | rfl | rfl | rfl | rfl | rfl | rfl | rfl <;>
    rcases hw with rfl | rfl | rfl | rfl <;> (first | (exfalso; omega) | (simp [part, one, List.range_succ]; omega) | (simp [part, one, List.range_succ]))

theorem part_bd (x : Int) (w k : Nat) (hw : w = 1 ∨ w = 2 ∨ w = 4 ∨ w = 8) : 0 ≤ part x w k ∧ part x w k ≤ 127 := by
  have hm : k % w < w ∧ w ≤ 8 := by
    rcases hw with rfl | rfl | rfl | rfl <;> omega
  unfold part
  rcases (by omega : k % w = 0 ∨ k % w = 1 ∨ k % w = 2 ∨ k % w = 3 ∨ k % w = 4 ∨ k % w = 5 ∨ k % w = 6 ∨ k % w = 7) with h | h | h | h | h | h | h | h <;> rw [h] <;> simp <;> omega

theorem div_bd (x : Int) (d : Nat) (hx : 0 ≤ x ∧ x ≤ 255) : 0 ≤ x / (2 : Int) ^ d ∧ x / (2 : Int) ^ d ≤ 255 := by
  obtain ⟨X, rfl⟩ := Int.eq_ofNat_of_zero_le hx.1
  have : X / 2 ^ d ≤ X := Nat.div_le_self _ _
  rw [div_pow_nat]
  generalize X / 2 ^ d = q at *
  omega

/-- The sum of what each digit lacks to the most m. -/
def lack (zs : List Int) (m : Int) : Int := zs.foldl (fun s z => s + (m - z)) 0
theorem lack_snoc (l : List Int) (m z : Int) : lack (l ++ [z]) m = lack l m + (m - z) := by simp [lack]
theorem lack_take (zs : List Int) (m : Int) (k : Nat) (h : k < zs.length) : lack (zs.take (k + 1)) m = lack (zs.take k) m + (m - zs[k]?.getD 0) := by
  rw [take_snoc zs k h, lack_snoc]
theorem lack_bd (zs : List Int) (m : Int) (h0 : 0 ≤ m ∧ m ≤ 255) (hz : ∀ z ∈ zs, 0 ≤ z ∧ z ≤ m) : ∀ k, k ≤ zs.length → 0 ≤ lack (zs.take k) m ∧ lack (zs.take k) m ≤ 255 * k
  | 0, _ => by simp [lack]
  | k + 1, hk => by
    have h1 := lack_bd zs m h0 hz k (by omega)
    have h2 := hz (zs[k]?.getD 0) (by rw [List.getElem?_eq_getElem (by omega)]; exact List.getElem_mem _)
    rw [lack_take zs m k (by omega)]
    omega

theorem dg_bd (xs : List Int) (w i : Nat) (hw : w = 1 ∨ w = 2 ∨ w = 4 ∨ w = 8) : 0 ≤ dg xs w i ∧ dg xs w i ≤ (2 : Int) ^ w - 1 := by
  unfold dg
  rcases hw with rfl | rfl | rfl | rfl
  · show _ ∧ _ ≤ (2 : Int) ^ 1 - 1; rw [show (2 : Int) ^ 1 = 2 by decide]; omega
  · rw [show (2 : Int) ^ 2 = 4 by decide]; omega
  · rw [show (2 : Int) ^ 4 = 16 by decide]; omega
  · rw [show (2 : Int) ^ 8 = 256 by decide]; omega

theorem dgs_bd (xs : List Int) (w : Nat) (hw : w = 1 ∨ w = 2 ∨ w = 4 ∨ w = 8) : ∀ z ∈ dgs xs w, 0 ≤ z ∧ z ≤ (2 : Int) ^ w - 1 := by
  intro z hz
  obtain ⟨i, _, rfl⟩ := List.mem_map.1 hz
  exact dg_bd xs w i hw

theorem w16_add (L d : Int) : IntKind.u16.wrap (L % 65536 + d) = (L + d) % 65536 := by rw [IntKind.wrap_u16]; omega
theorem w16_mul (L d : Int) : IntKind.u16.wrap (L % 65536 * d) = L * d % 65536 := by rw [IntKind.wrap_u16, Int.mul_emod, Int.emod_emod, ← Int.mul_emod]
end Go.Proofs.YtpnodocjpedcmaaDoor.Oct

namespace Go.Proofs.YtpnodocjpedcmaaDoor.Oct
open Go.ChangeShapes Go.WideShapes Go.ChangeAt Go.RowKit Go.Proofs.YtpnodocjpedcmaaDoor.Kit

theorem get_bad (A : Option Addr) (n c : Nat) (at_ m : Int) (w : World) (hm : m < 1 ∨ 8 < m) :
    Calls Tryd.prog 79 #[.slice A n c, .int .i64 at_, .int .i64 m] w fun e w' => e = .returned (.tuple #[.int .u64 0, .int .i64 1]) ∧ w = w' := by
  rcases hm with hm | hm
  · go_enter Tryd.func79, Tryd.ntmps79
    go_wp2
    go_ret2
    exact ⟨rfl, rfl⟩
  · have hm' : ¬ m < 1 := by omega
    go_enter Tryd.func79, Tryd.ntmps79
    go_wp2
    go_ret2
    exact ⟨rfl, rfl⟩

theorem get_far (A : Option Addr) (n c : Nat) (at_ m : Int) (w : World) (hn : n ≤ 1000000) (hm : 1 ≤ m ∧ m ≤ 8) (h : at_ < 0 ∨ (n : Int) - m < at_) :
    Calls Tryd.prog 79 #[.slice A n c, .int .i64 at_, .int .i64 m] w fun e w' => e = .returned (.tuple #[.int .u64 0, .int .i64 5]) ∧ w = w' := by
  have h1 : ¬ m < 1 := by omega
  have h2 : ¬ 8 < m := by omega
  rcases h with h | h
  · go_enter Tryd.func79, Tryd.ntmps79
    go_wp2
    go_ret2
    exact ⟨rfl, rfl⟩
  · by_cases h0 : at_ < 0
    all_goals
      go_enter Tryd.func79, Tryd.ntmps79
      go_wp2
      go_ret2
      exact ⟨rfl, rfl⟩

theorem get_any (A : Option Addr) (xs : List Int) (c at_ m B : Nat) (w : World) (hn : xs.length ≤ 1000000) (hl : xs.length ≤ c) (hm : 1 ≤ m ∧ m ≤ 8) (h : at_ + m ≤ xs.length)
    (ho : Octets xs) (hr : Holds w B .u8 A xs) :
    Calls Tryd.prog 79 #[.slice A xs.length c, .int .i64 at_, .int .i64 m] w fun e w' => e = .returned (.tuple #[.int .u64 (val ((xs.drop at_).take m)), .int .i64 0]) ∧ w = w' := by
  obtain ⟨b, off, rfl, hb, hc⟩ := hr (by omega)
  have h1 : ¬ (m : Int) < 1 := by omega
  have h2 : ¬ 8 < (m : Int) := by omega
  have h3 : ¬ (at_ : Int) < 0 := by omega
  have h4 : ¬ (xs.length : Int) - m < at_ := by omega
  go_enter Tryd.func79, Tryd.ntmps79
  go_wp2
  go_loop [8, 34] (fun x i => ∃ k : Nat, k ≤ m ∧ i = .int .i64 k ∧ x = .int .u64 (val ((xs.drop at_).take k))) (fun _ i => m - (intOf i).toNat)
  case atStart => exact ⟨0, Nat.zero_le _, rfl, rfl⟩
  case round =>
    obtain ⟨k, hk, rfl, rfl⟩ := hrel
    have hcell : k < m → w.cell? ⟨b, off + at_ + k, none⟩ = some (.int .u8 (xs.getD (at_ + k) 0)) := fun _ => by rw [Nat.add_assoc]; exact hc _ (by omega)
    by_cases hlt : k < m
    · go_wp2
      go_round
      case rel =>
        refine ⟨k + 1, by omega, by go_num, ?_⟩
        have e1 := val_take (xs.drop at_) k (by simp; omega)
        have e2 := shl8_or (val ((xs.drop at_).take k)) (xs[at_ + k]?.getD 0) (val_lt _ (ho.tail _) k (by simp; omega) (by omega)) (ho.at_ _)
        rw [e2, e1]
        simp
      case measure => simp [intOf]; omega
    · go_wp2
      have : k = m := by omega
      subst this
      go_ret2
      exact ⟨rfl, rfl⟩

theorem rget_bad (A : Option Addr) (n c : Nat) (at_ m : Int) (w : World) (hm : m < 1 ∨ 8 < m) :
    Calls Tryd.prog 101 #[.slice A n c, .int .i64 at_, .int .i64 m] w fun e w' => e = .returned (.tuple #[.int .u64 0, .int .i64 1]) ∧ w = w' := by
  rcases hm with hm | hm
  · go_enter Tryd.func101, Tryd.ntmps101
    go_wp2
    go_ret2
    exact ⟨rfl, rfl⟩
  · have hm' : ¬ m < 1 := by omega
    go_enter Tryd.func101, Tryd.ntmps101
    go_wp2
    go_ret2
    exact ⟨rfl, rfl⟩

theorem rget_far (A : Option Addr) (n c : Nat) (at_ m : Int) (w : World) (hn : n ≤ 1000000) (hm : 1 ≤ m ∧ m ≤ 8) (h : at_ < 0 ∨ (n : Int) - m < at_) :
    Calls Tryd.prog 101 #[.slice A n c, .int .i64 at_, .int .i64 m] w fun e w' => e = .returned (.tuple #[.int .u64 0, .int .i64 5]) ∧ w = w' := by
  have h1 : ¬ m < 1 := by omega
  have h2 : ¬ 8 < m := by omega
  by_cases h0 : at_ < 0
  · go_enter Tryd.func101, Tryd.ntmps101
    go_wp2
    go_ret2
    exact ⟨rfl, rfl⟩
  · by_cases h3 : (n : Int) < at_
    · go_enter Tryd.func101, Tryd.ntmps101
      go_wp2
      go_ret2
      exact ⟨rfl, rfl⟩
    · have h4 : (n : Int) - at_ < m := by omega
      go_enter Tryd.func101, Tryd.ntmps101
      go_wp2
      go_ret2
      exact ⟨rfl, rfl⟩

theorem rget_any (A : Option Addr) (xs : List Int) (c at_ m B : Nat) (w : World) (hn : xs.length ≤ 1000000) (hl : xs.length ≤ c) (hm : 1 ≤ m ∧ m ≤ 8) (h : at_ + m ≤ xs.length)
    (ho : Octets xs) (hr : Holds w B .u8 A xs) :
    Calls Tryd.prog 101 #[.slice A xs.length c, .int .i64 at_, .int .i64 m] w fun e w' => e = .returned (.tuple #[.int .u64 (val ((xs.drop at_).take m)), .int .i64 0]) ∧ w = w' := by
  obtain ⟨b, off, rfl, hb, hc⟩ := hr (by omega)
  have h1 : ¬ (m : Int) < 1 := by omega
  have h2 : ¬ 8 < (m : Int) := by omega
  have h3 : ¬ (at_ : Int) < 0 := by omega
  have h4 : ¬ (xs.length : Int) < at_ := by omega
  have h5 : ¬ (xs.length : Int) - at_ < m := by omega
  go_enter Tryd.func101, Tryd.ntmps101
  go_wp2
  go_loop [8, 9] (fun x i => ∃ k : Nat, k ≤ m ∧ i = .int .i64 k ∧ x = .int .u64 (val ((xs.drop at_).take k))) (fun _ i => m - (intOf i).toNat)
  case atStart => exact ⟨0, Nat.zero_le _, rfl, rfl⟩
  case round =>
    obtain ⟨k, hk, rfl, rfl⟩ := hrel
    have hcell : k < m → w.cell? ⟨b, off + (at_ + k), none⟩ = some (.int .u8 (xs.getD (at_ + k) 0)) := fun _ => hc _ (by omega)
    by_cases hlt : k < m
    · have hv := val_lt _ (ho.tail at_) k (by simp; omega) (by omega)
      have hx := ho.at_ (at_ + k)
      go_wp2
      go_round
      case rel =>
        refine ⟨k + 1, by omega, by go_num, ?_⟩
        have e1 := val_take (xs.drop at_) k (by simp; omega)
        rw [e1]
        simp
      case measure => simp [intOf]; omega
    · go_wp2
      have : k = m := by omega
      subst this
      go_ret2
      exact ⟨rfl, rfl⟩

theorem elem8 : IntElem Tryd.prog 22 5 .u8 1 := ⟨Tryd.underlying22, by kernel_rfl, by omega⟩

/-- n, brought between 1 and 8. -/
def clamp (n : Int) : Nat := if n < 1 then 1 else if 8 < n then 8 else n.toNat

theorem clamp_bd (n : Int) : 1 ≤ clamp n ∧ clamp n ≤ 8 := by unfold clamp; split <;> (try split) <;> omega

theorem put_any (A : Option Addr) (xs : List Int) (c B : Nat) (n x : Int) (w : World) (hn : xs.length ≤ 1000000) (hr : Holds w w.heap.size .u8 A xs) (hx : 0 ≤ x ∧ x < 18446744073709551616) :
    Calls Tryd.prog 71 #[.slice A xs.length c, .int .i64 n, .int .u64 x] w fun e w' => ∃ v, e = .returned v ∧ Own w' w.heap.size 5 .u8 v (xs ++ be (clamp n) x) ∧ Below w.heap.size w w' := by
  obtain ⟨p, hp⟩ : ∃ p, (if n < 1 then (1 : Int) else n) = p := ⟨_, rfl⟩
  have hq : (if 8 < p then (8 : Int) else p) = (clamp n : Int) := by subst hp; unfold clamp; split <;> split <;> (try split) <;> omega
  have hm := clamp_bd n
  generalize clamp n = m at *
  go_enter Tryd.func71, Tryd.ntmps71
  go_wp2_with (first
    | (at_make; refine wpList_make_ints _ rfl _ _ _ rfl elem8 xs.length (xs.length + m) rfl rfl rfl (by omega) (by omega) (by omega) ?_; intro w1 own1 hb1 hz1)
    | (have _t := own1; refine wpList_copy_ints _ rfl (.tmp 19) (.tmp 20) 22 rfl elem8 own1 rfl rfl (hr.below hb1) (by simp) (by omega) ?_; clear _t; intro w2 own2 hg2 hb2))
  have own3 : Own w2 w.heap.size 5 .u8 (.slice (some ⟨w.heap.size, 0, none⟩) xs.length (xs.length + m)) xs := by simpa using own2
  have hb3 := hb1.trans hb2
  clear own1 own2 hg2 hb1 hb2
  go_wp2_with fail
  go_loopw [7, 23] (fun v i wr => ∃ j : Nat, j ≤ m ∧ i = .int .i64 j ∧ Own wr w.heap.size 5 .u8 v (xs ++ (be m x).take j) ∧ Below w.heap.size w wr) (fun _ i _ => m - (intOf i).toNat)
  case atStart => exact ⟨0, Nat.zero_le _, rfl, by simpa using own3, hb3⟩
  case round =>
    obtain ⟨j, hj, rfl, own, hb⟩ := hrel
    by_cases hlt : j < m
    · have hsz := hb.size
      have e1 := be_take m x j hlt
      have hbx := byteAt_bd x (m - 1 - j)
      go_wp2_with (at_builtin; refine wpList_append_one _ rfl _ _ _ rfl elem8 own rfl rfl (by simp [be_length]; omega) (by omega) ?_; intro v2 w2 own2 hg2 hb2)
      go_roundw
      case rel => exact ⟨j + 1, by omega, by go_num, by rw [e1, ← List.append_assoc]; exact own2, hb.trans hb2⟩
      case measure => simp [intOf]; omega
    · go_wp2_with fail
      obtain rfl : j = m := by omega
      go_ret
      exact ⟨_, rfl, by rwa [List.take_of_length_le (by rw [be_length]; exact Nat.le_refl _)] at own, hb⟩

/-- What a caller of Put is told: a slice that reads zs. -/
def Reads (w : World) (zs : List Int) (e : Ending) (w' : World) : Prop :=
  ∃ (A : Option Addr) (c : Nat), e = .returned (.slice A zs.length c) ∧ zs.length ≤ c ∧ c ≤ maxLen ∧ Holds w' w'.heap.size .u8 A zs ∧ Below w.heap.size w w'

theorem put_as (A : Option Addr) (xs zs : List Int) (c : Nat) (n x : Int) (w : World) (hz : xs ++ be (clamp n) x = zs) (hn : xs.length ≤ 1000000) (hr : Holds w w.heap.size .u8 A xs) (hx : 0 ≤ x ∧ x < 18446744073709551616) :
    Calls Tryd.prog 71 #[.slice A xs.length c, .int .i64 n, .int .u64 x] w (Reads w zs) :=
  (put_any A xs c 0 n x w hn hr hx).mono fun e w' ⟨v, he, own, hb⟩ => by
    subst hz
    obtain ⟨A', c', rfl, hl, hm, hr'⟩ := own.opened
    exact ⟨A', c', he, hl, hm, hr', hb⟩

end Go.Proofs.YtpnodocjpedcmaaDoor.Oct

namespace Go.Proofs.YtpnodocjpedcmaaDoor.Kit
open Go.ChangeShapes Go.WideShapes Go.ChangeAt Go.RowKit

theorem Own.turned {w w' : World} {B : Nat} {e : TypeId} {k : IntKind} {v : Value} {xs : List Int} (h : Own w B e k v xs) (t : TurnsIn (fun b => v.ownBlock = some b) w w') (hB : B ≤ w.heap.size) : Below B w w' :=
  t.toBelow hB fun b hb he => by have := h.lt b he; omega

theorem Block.cellOf {w : World} {g : Nat} {t : TypeId} {cs : Array Value} (h : Block w g t cs) (i : Nat) {u : Value} (hu : cs[i]? = some u) : w.cell? ⟨g, i, none⟩ = some u := (h.cell i).trans hu

theorem Block.apart {w w' : World} {B g : Nat} {e t : TypeId} {k : IntKind} {v : Value} {xs : List Int} {cs : Array Value} (hb : Block w g t cs) (h : Own w B e k v xs) (hne : e ≠ t) (tu : TurnsIn (fun b => v.ownBlock = some b) w w') : Block w' g t cs :=
  hb.out tu (h.ne_block hb hne)

theorem TurnsIn.row {w w1 w2 : World} {v v1 : Value} (t1 : TurnsIn (fun b => v.ownBlock = some b) w w1) (n1 : Newer w v v1) (t2 : TurnsIn (fun b => v1.ownBlock = some b) w1 w2) : TurnsIn (fun b => v.ownBlock = some b) w w2 :=
  t1.then_ t2 fun b hb hv => by
    rcases n1 with h | h
    · rw [← h]; exact hv
    · have := h b hv; omega

section
variable {P : Program} (w : World)

/-- append(v, ys...), as one step of a region that draws its order: what turned is v's row, or what is new. -/
theorem step_append_out {ops : Array Oper} {o : Oper} {a : Act} {K : Act → World → Prop} {Q : Exit → Act → World → Prop} {E : Prop}
    (hg : o.guard = none) (s x : Operand) (t : TypeId) (ho : o.op = Op.call { callee := Callee.builtin Builtin.append, args := #[s, x], argTypes := #[t, t] })
    {e : TypeId} {k : IntKind} {bytes : Nat} (he : IntElem P t e k bytes) {B B' : Nat} {v : Value} {xs ys : List Int} (hown : Own w B e k v xs) (hs : a.eval s = v)
    {A : Option Addr} {c : Nat} (hx : a.eval x = .slice A ys.length c) (hr : Holds w B' k A ys) (hsz : xs.length + ys.length ≤ 1099511627776) (hbase : B ≤ w.heap.size)
    (hK : ∀ A' c' w', Own w' B e k (.slice A' (xs.length + ys.length) c') (xs ++ ys) → TurnsIn (fun b => v.ownBlock = some b) w w' → Newer w v (.slice A' (xs.length + ys.length) c') → K (a.put o.dst (.slice A' (xs.length + ys.length) c')) w') :
    if Region.wanted o (yielded ops a.tmps) = true then Oper.wp P o a w K Q else E := by
  refine step_append_ints hg s x t ho he hown hs hx hr hsz hbase ?_
  intro v' w' h1 h2 _ h4
  obtain ⟨A', c', rfl, _, _, _⟩ := h1.opened
  have hlen : (xs ++ ys).length = xs.length + ys.length := by simp
  have hk := hK A' c' w'
  rw [hlen] at h1 h4
  rw [hlen]
  exact hk h1 (.ofGrown h2 fun b hb => hb) (Newer.ofApp h4)

/-- append(v, ys...): what turned is v's row, or what is new. -/
theorem wpList_append_out {ops : Array Oper} {rest : List Oper} {o : Oper} {a : Act} {Q : Exit → Act → World → Prop} (hgd : o.guard = none) (s x : Operand) (t : TypeId)
    (ho : o.op = .call { callee := .builtin .append, args := #[s, x], argTypes := #[t, t] }) {e : TypeId} {k : IntKind} {bytes : Nat} (he : IntElem P t e k bytes)
    {B B' : Nat} {v : Value} {xs ys : List Int} (hown : Own w B e k v xs) (hs : a.eval s = v)
    {A : Option Addr} {c : Nat} (hx : a.eval x = .slice A ys.length c) (hr : Holds w B' k A ys) (hsz : xs.length + ys.length ≤ 1099511627776) (hbase : B ≤ w.heap.size)
    (h : ∀ A' c' w', Own w' B e k (.slice A' (xs.length + ys.length) c') (xs ++ ys) → TurnsIn (fun b => v.ownBlock = some b) w w' → Newer w v (.slice A' (xs.length + ys.length) c') → wpList P ops Q rest (a.put o.dst (.slice A' (xs.length + ys.length) c')) w') :
    wpList P ops Q (o :: rest) a w := by
  refine wpList_append_ints _ hgd s x t ho he hown hs hx hr hsz hbase ?_
  intro v' w' h1 h2 _ h4
  obtain ⟨A', c', rfl, _, _, _⟩ := h1.opened
  have hlen : (xs ++ ys).length = xs.length + ys.length := by simp
  have hk := h A' c' w'
  rw [hlen] at h1 h4
  rw [hlen]
  exact hk h1 (.ofGrown h2 fun b hb => hb) (Newer.ofApp h4)

theorem run_append_two {t t2 ty e e2 : TypeId} {k : IntKind} {bytes : Nat} (he : IntElem P t e k bytes) (h2 : P.underlying t2 = some (.slice e2)) (A : Option Addr) (n c : Nat) (y : Value) :
    (Builtin.append_ #[t, t2] ty #[.slice A n c, y]).run P w = (Builtin.append_ #[t, t] ty #[.slice A n c, y]).run P w := by
  obtain ⟨h1, hinfo, _⟩ := he
  obtain ⟨i, hi, _, _, _⟩ := info_parts hinfo
  simp [Builtin.append_, run_underlying h1, run_underlying h2, sizeOf, typeInfo, hi]

/-- append(v, ys...), ys of another type of slices over the same integers. -/
theorem wpList_append_two {ops : Array Oper} {rest : List Oper} {o : Oper} {a : Act} {Q : Exit → Act → World → Prop} (hgd : o.guard = none) (s x : Operand) (t t2 : TypeId)
    (ho : o.op = .call { callee := .builtin .append, args := #[s, x], argTypes := #[t, t2] }) {e e2 : TypeId} (ht2 : P.underlying t2 = some (.slice e2)) {k : IntKind} {bytes : Nat} (he : IntElem P t e k bytes)
    {B B' : Nat} {v : Value} {xs ys : List Int} (hown : Own w B e k v xs) (hs : a.eval s = v)
    {A : Option Addr} {c : Nat} (hx : a.eval x = .slice A ys.length c) (hr : Holds w B' k A ys) (hsz : xs.length + ys.length ≤ 1099511627776) (hbase : B ≤ w.heap.size)
    (h : ∀ A' c' w', Own w' B e k (.slice A' (xs.length + ys.length) c') (xs ++ ys) → TurnsIn (fun b => v.ownBlock = some b) w w' → Newer w v (.slice A' (xs.length + ys.length) c') → wpList P ops Q rest (a.put o.dst (.slice A' (xs.length + ys.length) c')) w') :
    wpList P ops Q (o :: rest) a w := by
  refine wpList_plain hgd fun K hK => ?_
  obtain ⟨v', w', hrun, h1, h2, h4⟩ := run_append_ints (P := P) w (ty := o.type) he hown c hr hsz hbase
  obtain ⟨A0, c0, rfl, _, _, _⟩ := hown.opened
  rw [← run_append_two w he ht2] at hrun
  unfold Oper.wp
  simp only [execOp, ho, resolve, invoke, builtin, Sem.run_bind, Sem.run_pure, Result.andThen_ok, List.map_toArray, List.map_cons, List.map_nil, hs, hx, hrun]
  obtain ⟨A', c', rfl, _, _, _⟩ := h1.opened
  have hlen : (xs ++ ys).length = xs.length + ys.length := by simp
  have hk := h A' c' w'
  rw [hlen] at h1 h4
  rw [hlen]
  exact hK _ _ (hk h1 (.ofGrown h2 fun b hb => hb) (Newer.ofApp h4))

/-- append(v, z), z alone in the newest block. -/
theorem wpList_append_one_out {ops : Array Oper} {rest : List Oper} {o : Oper} {a : Act} {Q : Exit → Act → World → Prop} (hgd : o.guard = none) (s x : Operand) (t : TypeId)
    (ho : o.op = .call { callee := .builtin .append, args := #[s, x], argTypes := #[t, t] }) {e : TypeId} {k : IntKind} {bytes : Nat} (he : IntElem P t e k bytes)
    {B : Nat} {v : Value} {xs : List Int} (hown : Own w B e k v xs) (hs : a.eval s = v)
    {z : Int} {c : Nat} (hx : a.eval x = .slice (some ⟨w.heap.size, 0, none⟩) 1 c) (hsz : xs.length + 1 ≤ 1099511627776) (hbase : B ≤ w.heap.size)
    (h : ∀ A' c' w', Own w' B e k (.slice A' (xs.length + 1) c') (xs ++ [z]) → TurnsIn (fun b => v.ownBlock = some b) w w' → Newer w v (.slice A' (xs.length + 1) c') → wpList P ops Q rest (a.put o.dst (.slice A' (xs.length + 1) c')) w') :
    wpList P ops Q (o :: rest) a (w.alloc (.cells #[.int k z] e)) := by
  refine wpList_append_out (ys := [z]) (B' := w.heap.size + 1) _ hgd s x t ho he (hown.alloc _) hs hx (Holds.new w k z e) (by simpa using hsz) (by simp; omega) ?_
  intro A' c' w' h1 h2 h3
  refine h A' c' w' h1 (((TurnsIn.refl _ w).alloc _).trans h2) ?_
  rcases h3 with h3 | h3
  · exact .inl h3
  · exact .inr fun g hg => by have := h3 g hg; simp at this; omega
end
end Go.Proofs.YtpnodocjpedcmaaDoor.Kit

namespace Go.Proofs.YtpnodocjpedcmaaDoor.Kit
open Go.ChangeShapes Go.WideShapes Go.ChangeAt Go.RowKit

theorem strOfNums_inj {xs ys : List Int} (hx : Octets xs) (hy : Octets ys) (h : strOfNums xs = strOfNums ys) : xs = ys := by
  unfold strOfNums at h
  have h1 := congrArg (fun b : ByteArray => b.data.toList) h
  simp at h1
  have key : ∀ (xs ys : List Int), Octets xs → Octets ys → xs.map (fun n => UInt8.ofNat n.toNat) = ys.map (fun n => UInt8.ofNat n.toNat) → xs = ys := by
    intro xs
    induction xs with
    | nil => intro ys _ _ h; cases ys with
      | nil => rfl
      | cons y ys => simp at h
    | cons x xs ih =>
      intro ys hx hy h
      cases ys with
      | nil => simp at h
      | cons y ys =>
        simp only [List.map_cons, List.cons.injEq] at h
        have hxx := hx x (by simp)
        have hyy := hy y (by simp)
        have e := congrArg UInt8.toNat h.1
        simp only [UInt8.toNat_ofNat'] at e
        have : x = y := by omega
        rw [this, ih ys (fun z hz => hx z (by simp [hz])) (fun z hz => hy z (by simp [hz])) h.2]
  exact key xs ys hx hy h1
end Go.Proofs.YtpnodocjpedcmaaDoor.Kit

namespace Go.Proofs.YtpnodocjpedcmaaDoor.Kit
open Go.ChangeShapes Go.WideShapes Go.ChangeAt Go.RowKit

/-- What a field is: an integer, an array of so many, a slice of them. -/
inductive Fld where
  | i (k : IntKind)
  | a (k : IntKind) (n : Nat)
  | s (k : IntKind)
/-- What stands in it. -/
inductive FVal where
  | i (z : Int)
  | a (zs : List Int)
  | s (A : Option Addr) (cap : Nat) (zs : List Int)

def Fld.size : Fld → Nat
  | .i _ => 1
  | .a _ n => n
  | .s _ => 1
def fvCells : Fld → FVal → List Value
  | .i k, .i z => [.int k z]
  | .a k _, .a zs => zs.map (Value.int k)
  | .s _, .s A c zs => [.slice A zs.length c]
  | _, _ => []
def fvOk (w : World) (B : Nat) : Fld → FVal → Prop
  | .i k, .i z => (Lit.int k z).wf = true
  | .a k n, .a zs => zs.length = n ∧ ∀ z ∈ zs, (Lit.int k z).wf = true
  | .s k, .s A c zs => zs.length ≤ c ∧ c ≤ maxLen ∧ (∀ z ∈ zs, (Lit.int k z).wf = true) ∧ Holds w B k A zs
  | _, _ => False
def allCells : List Fld → List FVal → List Value
  | d :: ds, v :: vs => fvCells d v ++ allCells ds vs
  | _, _ => []
def allOk (w : World) (B : Nat) : List Fld → List FVal → Prop
  | [], [] => True
  | d :: ds, v :: vs => fvOk w B d v ∧ allOk w B ds vs
  | _, _ => False
def sizes : List Fld → Nat
  | [] => 0
  | d :: ds => d.size + sizes ds

def isK (P : Program) (t : TypeId) (k : IntKind) : Bool := P.cellsOf t == 1 && (match P.underlying t with | some (.int k') => decide (k' = k) | _ => false)
def fitB (P : Program) (f : Field) (o : Nat) (d : Fld) : Bool := f.offset == o && P.cellsOf f.type == d.size && (match d with
  | .i k => isK P f.type k
  | .a k n => (match P.underlying f.type with | some (.array n' e) => n' == n && isK P e k | _ => false)
  | .s k => (match P.underlying f.type with | some (.slice e) => isK P e k | _ => false))
def shapeB (P : Program) : List Field → Nat → List Fld → Bool
  | [], _, [] => true
  | f :: fs, o, d :: ds => fitB P f o d && shapeB P fs (o + d.size) ds
  | _, _, _ => false

theorem isK_of {P : Program} {t : TypeId} {k : IntKind} (h : isK P t k = true) : P.cellsOf t = 1 ∧ P.underlying t = some (.int k) := by
  unfold isK at h
  simp only [Bool.and_eq_true, beq_iff_eq] at h
  refine ⟨h.1, ?_⟩
  have h3 := h.2
  split at h3
  · rename_i k' hu
    rw [hu, of_decide_eq_true h3]
  · cases h3

section
variable {H : Type} {enc : TypeId × Value → H} {P : Program} {w : World} {b0 : Nat}

theorem ints_of {k : IntKind} {n : Nat} {t e : TypeId} {cs : List Value} {x : DataW H × List MemPlace} (ht : P.underlying t = some (.slice e)) (he : P.underlying e = some (.int k)) (hc : P.cellsOf e = 1)
    (h : DataW.trod enc P w 0 (fun _ => true) true n t cs = some x) (hlt : ∀ p ∈ x.2, p.block < w.heap.size) :
    ∃ (A : Option Addr) (cap : Nat) (zs : List Int), cs = [.slice A zs.length cap] ∧ zs.length ≤ cap ∧ cap ≤ maxLen ∧ (∀ z ∈ zs, (Lit.int k z).wf = true) ∧ Holds w w.heap.size k A zs := by
  rcases open_ints ht he hc h with ⟨hcs, hx⟩ | ⟨a, len, cap, zs, hcs, _, hl, hm, hz, hx, hcell, hwz⟩
  · exact ⟨none, 0, [], hcs, Nat.le_refl _, Nat.zero_le _, fun _ h => by simp at h, Holds.nil⟩
  · simp only [if_true] at hz
    have hlen : (zs.take len).length = len := by simp [hz, Nat.min_eq_left hl]
    refine ⟨some a, cap, zs.take len, by rw [hlen]; exact hcs, by rw [hlen]; exact hl, hm, fun n hn => hwz n (List.mem_of_mem_take hn), fun hp => ?_⟩
    rw [hlen] at hp
    obtain ⟨b, off, spot⟩ := a
    have hspot : spot = none := by simpa [Addr.add] using World.cell?_spot (hcell 0 (by omega))
    subst hspot
    refine ⟨b, off, rfl, hlt (.cell b (off + 0)) (by rw [hx]; exact MemPlace.mem_row.2 ⟨0, by omega, by simp⟩), fun j hj => ?_⟩
    rw [hlen] at hj
    rw [← add_plain, hcell j (by omega)]
    simp [List.getD, List.getElem?_take, show j < len by omega]

theorem array_of {k : IntKind} {n m : Nat} {t e : TypeId} {cs : List Value} {x : DataW H × List MemPlace} (ht : P.underlying t = some (.array n e)) (he : P.underlying e = some (.int k)) (hc : P.cellsOf e = 1) (hct : P.cellsOf t = n)
    (h : DataW.trod enc P w 0 (fun _ => true) true m t cs = some x) : ∃ zs : List Int, zs.length = n ∧ cs = zs.map (Value.int k) ∧ ∀ z ∈ zs, (Lit.int k z).wf = true := by
  obtain ⟨ys, m', _, _, hl, hyl, hg⟩ := DataW.trod_array ht h
  have each : ∀ i, i < n → ∃ q, cs[i]? = some (.int k q) ∧ (Lit.int k q).wf = true := by
    intro i hi
    have h1 := hg i hi
    rw [hc, Nat.mul_one] at h1
    have hx : ys[i]? = some (ys[i]'(by omega)) := List.getElem?_eq_getElem (by omega)
    rw [hx] at h1
    obtain ⟨q, hq, _, hw⟩ := DataW.trod_int he h1
    exact ⟨q, get_of_one hq, hw⟩
  have hlen : cs.length = n := by rw [hl, hct]
  refine ⟨cs.map (fun v => match v with | .int _ q => q | _ => 0), by rw [List.length_map, hlen], ?_, fun z hz => ?_⟩
  · apply List.ext_getElem?
    intro i
    by_cases hi : i < n
    · obtain ⟨q, hq, _⟩ := each i hi
      simp only [List.map_map, List.getElem?_map, hq]
      rfl
    · rw [List.getElem?_eq_none (by omega), List.getElem?_eq_none (by simp; omega)]
  · obtain ⟨v, hv, rfl⟩ := List.mem_map.1 hz
    obtain ⟨i, hi, rfl⟩ := List.mem_iff_getElem.1 hv
    obtain ⟨q, hq, hw⟩ := each i (by omega)
    rw [List.getElem?_eq_getElem hi] at hq
    injection hq with hq
    rw [hq]
    exact hw

theorem field_of {f : Field} {o m : Nat} {d : Fld} {cs : List Value} {x : DataW H × List MemPlace} (hf : fitB P f o d = true) (h : DataW.trod enc P w 0 (fun _ => true) true m f.type cs = some x) (hlt : ∀ p ∈ x.2, p.block < w.heap.size) :
    ∃ v, fvOk w w.heap.size d v ∧ cs = fvCells d v := by
  unfold fitB at hf
  simp only [Bool.and_eq_true, beq_iff_eq] at hf
  obtain ⟨⟨ho, hsz⟩, hk⟩ := hf
  cases d with
  | i k =>
    obtain ⟨_, u⟩ := isK_of hk
    obtain ⟨z, hz, _, wz⟩ := DataW.trod_int u h
    exact ⟨.i z, wz, hz⟩
  | a k n =>
    simp only at hk
    split at hk
    · rename_i n' e hu
      simp only [Bool.and_eq_true, beq_iff_eq] at hk
      obtain ⟨rfl, hk⟩ := hk
      obtain ⟨c1, u⟩ := isK_of hk
      obtain ⟨zs, h1, h2, h3⟩ := array_of hu u c1 hsz h
      exact ⟨.a zs, ⟨h1, h3⟩, h2⟩
    · cases hk
  | s k =>
    simp only at hk
    split at hk
    · rename_i e hu
      obtain ⟨c1, u⟩ := isK_of hk
      obtain ⟨A, cap, zs, h1, h2, h3, h4, h5⟩ := ints_of hu u c1 h hlt
      exact ⟨.s A cap zs, ⟨h2, h3, h4, h5⟩, h1⟩
    · cases hk

theorem fields_of {m : Nat} {cs : List Value} : ∀ (ds : List Fld) (fs : List Field) (o : Nat) (xs : List (DataW H × List MemPlace)), shapeB P fs o ds = true →
    (∀ (i : Nat) (f : Field), fs[i]? = some f → DataW.trod enc P w 0 (fun _ => true) true m f.type ((cs.drop f.offset).take (P.cellsOf f.type)) = xs[i]?) → xs.length = fs.length → (∀ x ∈ xs, ∀ p ∈ x.2, p.block < w.heap.size) → o + sizes ds = cs.length →
    ∃ vs : List FVal, allOk w w.heap.size ds vs ∧ cs.drop o = allCells ds vs
  | [], [], o, xs, _, _, _, _, hl => ⟨[], trivial, by unfold sizes at hl; unfold allCells; exact List.drop_eq_nil_of_le (by omega)⟩
  | [], _ :: _, _, _, hs, _, _, _, _ => by simp [shapeB] at hs
  | _ :: _, [], _, _, hs, _, _, _, _ => by simp [shapeB] at hs
  | d :: ds, f :: fs, o, [], _, _, hx, _, _ => by simp at hx
  | d :: ds, f :: fs, o, x :: xs, hs, hg, hx, hp, hl => by
    unfold shapeB at hs
    simp only [Bool.and_eq_true] at hs
    obtain ⟨h1, h2⟩ := hs
    have g0 := hg 0 f rfl
    have ho : f.offset = o ∧ P.cellsOf f.type = d.size := by
      unfold fitB at h1
      simp only [Bool.and_eq_true, beq_iff_eq] at h1
      exact h1.1
    rw [ho.1, ho.2] at g0
    obtain ⟨v, v1, v2⟩ := field_of h1 g0 (hp x (by simp))
    unfold sizes at hl
    obtain ⟨vs, w1, w2⟩ := fields_of ds fs (o + d.size) xs h2 (fun i f' hi => hg (i + 1) f' hi) (by simpa using hx) (fun y hy => hp y (by simp [hy])) (by omega)
    refine ⟨v :: vs, ⟨v1, w1⟩, ?_⟩
    unfold allCells
    rw [← v2, ← w2, ← List.drop_drop, List.take_append_drop]

theorem read_shape {t : TypeId} {fs : Array Field} {ds : List Fld} (ht : P.underlying t = some (.struct fs)) (hs : shapeB P fs.toList 0 ds = true) (hc : P.cellsOf t = sizes ds)
    {n : Nat} {cs : List Value} {y : DataW H × List MemPlace} (h : DataW.trod enc P w 0 (fun _ => true) true n t cs = some y) (hlt : ∀ x ∈ y.2, x.block < w.heap.size) :
    ∃ vs : List FVal, allOk w w.heap.size ds vs ∧ cs = allCells ds vs := by
  obtain ⟨xs, m, _, hx, hl, hxl, hg⟩ := DataW.trod_struct ht h
  have hps : y.2 = xs.flatMap (·.2) := congrArg Prod.snd hx
  obtain ⟨vs, h1, h2⟩ := fields_of (enc := enc) (w := w) (m := m) (cs := cs) ds fs.toList 0 xs hs (fun i f hi => hg i f (by simpa using hi)) (by simpa using hxl) (fun x hx' p hp => hlt p (by rw [hps]; exact List.mem_flatMap.2 ⟨x, hx', hp⟩)) (by omega)
  exact ⟨vs, h1, by simpa using h2⟩

/-- A struct of such a shape that came in. -/
theorem open_shape {t : TypeId} {fs : Array Field} (ds : List Fld) (ht : P.underlying t = some (.struct fs)) (hs : shapeB P fs.toList 0 ds = true) (hc : P.cellsOf t = sizes ds)
    {v : Value} {d : DataW H} {ps : List MemPlace} (hv : Value.okWide P w .any b0 t v) (h : DataW.Trod enc P w 0 (fun _ => true) true t v d ps) (hlt : ∀ x ∈ ps, x.block < w.heap.size) :
    ∃ vs : List FVal, v = .agg (allCells ds vs).toArray ∧ allOk w w.heap.size ds vs := by
  obtain ⟨cs, rfl, _⟩ := okWide_struct ht hv
  obtain ⟨fuel, hfu⟩ := h
  obtain ⟨vs, h1, h2⟩ := read_shape ht hs hc hfu hlt
  simp only [Value.cells] at h2
  exact ⟨vs, by rw [← h2], h1⟩

/-- A slice of such ones that came in. -/
theorem open_shapes {t e : TypeId} {fs : Array Field} (ds : List Fld) (ht : P.underlying t = some (.slice e)) (he : P.underlying e = some (.struct fs)) (hs : shapeB P fs.toList 0 ds = true) (hc : P.cellsOf e = sizes ds) (h0 : 0 < sizes ds)
    {v : Value} {d : DataW H} {ps : List MemPlace} (hval : Value.okWide P w .any b0 t v) (h : DataW.Trod enc P w 0 (fun _ => true) true t v d ps) (hlt : ∀ x ∈ ps, x.block < w.heap.size) :
    ∃ (A : Option Addr) (cap : Nat) (rs : List (List FVal)), v = .slice A rs.length cap ∧ rs.length ≤ cap ∧ cap ≤ maxLen ∧ HoldsE (fun vs cs => allOk w w.heap.size ds vs ∧ cs = allCells ds vs) (sizes ds) w w.heap.size A rs :=
  open_slice_of (fun vs cs => allOk w w.heap.size ds vs ∧ cs = allCells ds vs) (sizes ds) ht hc h0 (fun _ _ _ h hp => read_shape he hs hc h hp) hval h hlt
end
end Go.Proofs.YtpnodocjpedcmaaDoor.Kit

namespace Go.Proofs.YtpnodocjpedcmaaDoor.Jr
open Go.ChangeShapes Go.WideShapes Go.ChangeAt Go.RowKit Go.Proofs.YtpnodocjpedcmaaDoor.Kit

def recDs : List Fld := [.i .u64, .i .u8, .i .u64, .i .i64, .i .u8, .i .u8, .a .u8 32, .i .u64, .i .i64, .i .i64, .i .u64, .i .i64, .i .i64]
theorem rec_of {w : World} {B : Nat} {vs : List FVal} (h : allOk w B recDs vs) : ∃ r : Rec, r.Ok ∧ True ∧ allCells recDs vs = r.cells := by
  match vs, h with
  | [.i sq, .i ac, .i vr, .i le, .i st, .i md, .a mn, .i nv, .i nl, .i dn, .i at_, .i bk, .i az], ⟨h0, h1, h2, h3, h4, h5, h6, h7, h8, h9, h10, h11, h12, _⟩ =>
    have b7 := bounds_u64 h7
    have b10 := bounds_u64 h10
    have b0 := bounds_u64 h0
    have b2 := bounds_u64 h2
    refine ⟨⟨sq, ac, vr, le, st, md, mn, nv, nl, dn, at_, bk, az⟩, ⟨⟨b0.1, by have := b0.2; show sq < _; omega⟩, bounds_u8 h1, ⟨b2.1, by have := b2.2; show vr < _; omega⟩, bounds_i64 h3, bounds_u8 h4, bounds_u8 h5, h6.1, fun z hz => bounds_u8 (h6.2 z hz), ⟨b7.1, by have := b7.2; show nv < _; omega⟩, bounds_i64 h8, bounds_i64 h9, ⟨b10.1, by have := b10.2; show at_ < _; omega⟩, bounds_i64 h11, bounds_i64 h12⟩, trivial, ?_⟩
    simp [allCells, recDs, fvCells, Rec.cells]
end Go.Proofs.YtpnodocjpedcmaaDoor.Jr

namespace Go.Proofs.YtpnodocjpedcmaaDoor.Kit
open Go.ChangeShapes Go.WideShapes Go.ChangeAt Go.RowKit

/-- The head of the list is an array of integers: its cells; and the rest. -/
theorem laid_ints {P : Program} {w : World} {nm : String} {d : DataW Unit} {r : List (String × DataW Unit)} {ps : List MemPlace} (h : DataW.LaidVars P w ((nm, d) :: r) ps)
    {k : IntKind} (xs : List Int) (hd : d = .agg (xs.map fun z => .lit (.int k z))) {g : Nat} {t e : TypeId} (hg : P.globalNamed nm = some g) (ht : (P.globals[g]?).map (·.type) = some t)
    (hu : P.underlying t = some (.array xs.length e)) (he : P.underlying e = some (.int k)) (hc : P.cellsOf e = 1) :
    (∀ i, i < xs.length → w.cell? ⟨g, i, none⟩ = some (.int k (xs.getD i 0))) ∧ ∃ q, DataW.LaidVars P w r q := by
  obtain ⟨g', t', cs, fuel, p, q, hg', ht', hv, htr, hrest, _⟩ := h
  obtain rfl := Option.some.inj (hg.symm.trans hg')
  obtain rfl := Option.some.inj (ht.symm.trans ht')
  refine ⟨fun i hi => ?_, q, hrest⟩
  obtain ⟨ys, m, _, hy, hl, hn, hel⟩ := DataW.trod_array hu htr
  subst hd
  simp only [Prod.mk.injEq, DataW.agg.injEq] at hy
  have hyi : ys[i]? = some (ys[i]'(by omega)) := List.getElem?_eq_getElem (by omega)
  have h1 := hel i hi
  rw [hc, Nat.mul_one, hyi] at h1
  obtain ⟨z, hz, hz2, _⟩ := DataW.trod_int he h1
  have h2 : (ys.map (·.1))[i]? = (xs.map fun z => (DataW.lit (.int k z) : DataW Unit))[i]? := by rw [hy.1]
  rw [List.getElem?_map, hyi, List.getElem?_map, List.getElem?_eq_getElem hi, Option.map_some, Option.map_some, hz2] at h2
  injection h2 with h2
  simp only [DataW.lit.injEq, Lit.int.injEq] at h2
  have h3 := World.var?_cell hg' hv i
  rw [h3, List.getD_eq_getElem?_getD, List.getElem?_eq_getElem hi, Option.getD_some, ← h2.2]
  have h4 : ((cs.toList.drop i).take 1)[0]? = some (.int k z) := by rw [hz]; rfl
  rw [List.getElem?_take, List.getElem?_drop] at h4
  simpa using h4
end Go.Proofs.YtpnodocjpedcmaaDoor.Kit
