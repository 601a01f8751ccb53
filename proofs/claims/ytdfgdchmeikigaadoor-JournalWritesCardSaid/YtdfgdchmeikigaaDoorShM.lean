/-
  Layer 1, sha: the words of a block, the rounds, the state behind bytes: plain words. No program. No conditions beyond what each theorem names.
-/
import Derived.Test.YtdfgdchmeikigaaDoorShR
import Derived.Test.YtdfgdchmeikigaaDoorShB
import Derived.Test.YtdfgdchmeikigaaDoorArr
namespace Go.Proofs.YtdfgdchmeikigaaDoor.Sha
open Go.ChangeShapes Go.WideShapes Go.ChangeAt Go.RowKit Go.Proofs.YtdfgdchmeikigaaDoor.Kit

/-- The sum of two words. -/
def add32 (a b : Int) : Int := (a + b) % 4294967296
theorem add32_bd (a b : Int) : W32 (add32 a b) := by unfold add32 W32; omega
theorem add32_wrap (a b : Int) : IntKind.u32.wrap (a + b) = add32 a b := by rw [IntKind.wrap_u32]; rfl
theorem add32_comm (a b : Int) : add32 a b = add32 b a := by unfold add32; rw [Int.add_comm]

theorem add32_4 (a b c d : Int) : add32 (add32 (add32 a b) c) d = (a + b + c + d) % 4294967296 := by unfold add32; omega
theorem add32_5 (a b c d e : Int) : add32 (add32 (add32 (add32 a b) c) d) e = (a + b + c + d + e) % 4294967296 := by unfold add32; omega

def sig0 (x : Int) : Int := bits BinOp.xor .u32 (bits BinOp.xor .u32 (rot x 7) (rot x 18)) (x / 8)
def sig1 (x : Int) : Int := bits BinOp.xor .u32 (bits BinOp.xor .u32 (rot x 17) (rot x 19)) (x / 1024)
def sum0 (x : Int) : Int := bits BinOp.xor .u32 (bits BinOp.xor .u32 (rot x 2) (rot x 13)) (rot x 22)
def sum1 (x : Int) : Int := bits BinOp.xor .u32 (bits BinOp.xor .u32 (rot x 6) (rot x 11)) (rot x 25)

/-- The i-th word of bytes. -/
def wordB (bs : List Int) (i : Nat) : Int :=
  bits BinOp.or .u32 (bits BinOp.or .u32 (bits BinOp.or .u32 (bs.getD (4 * i) 0 * 16777216) (bs.getD (4 * i + 1) 0 * 65536)) (bs.getD (4 * i + 2) 0 * 256)) (bs.getD (4 * i + 3) 0)
def mixW (l : List Int) (n : Nat) : Int := add32 (add32 (add32 (l.getD (n - 16) 0) (sig0 (l.getD (n - 15) 0))) (l.getD (n - 7) 0)) (sig1 (l.getD (n - 2) 0))
/-- The first n words of a block. -/
def sched (bs : List Int) : Nat → List Int
  | 0 => []
  | n + 1 => sched bs n ++ [if n < 16 then wordB bs n else mixW (sched bs n) n]

theorem sched_length (bs : List Int) : ∀ n, (sched bs n).length = n
  | 0 => rfl
  | n + 1 => by rw [sched, List.length_append, sched_length bs n]; rfl

theorem sched_bd (bs : List Int) : ∀ n, ∀ x ∈ sched bs n, W32 x
  | 0, x, h => by simp [sched] at h
  | n + 1, x, h => by
    rw [sched] at h
    rcases List.mem_append.1 h with h | h
    · exact sched_bd bs n x h
    · obtain rfl := List.mem_singleton.1 h
      split
      · exact or_bd _ _
      · exact add32_bd _ _

theorem sched_get (bs : List Int) (n i : Nat) : W32 ((sched bs n).getD i 0) := by
  rw [List.getD_eq_getElem?_getD]
  cases h : (sched bs n)[i]? with
  | none => unfold W32; simp
  | some x => exact sched_bd bs n x (List.mem_of_getElem? h)

/-- A list, with zeros up to 64. -/
def padZ (l : List Int) : List Int := l ++ List.replicate (64 - l.length) 0
theorem padZ_length {l : List Int} (h : l.length ≤ 64) : (padZ l).length = 64 := by unfold padZ; simp; omega
theorem padZ_nil : padZ [] = List.replicate 64 0 := rfl
theorem padZ_full {l : List Int} (h : l.length = 64) : padZ l = l := by unfold padZ; rw [h]; simp
theorem padZ_get {l : List Int} {i : Nat} (h : i < l.length) : (padZ l)[i]?.getD 0 = l.getD i 0 := by
  unfold padZ
  rw [List.getElem?_append_left h]
  rfl
theorem padZ_set {l : List Int} {x : Int} (h : l.length < 64) : (padZ l).set l.length x = padZ (l ++ [x]) := by
  unfold padZ
  obtain ⟨k, hk⟩ : ∃ k, 64 - l.length = k + 1 := ⟨63 - l.length, by omega⟩
  rw [hk, List.replicate_succ, List.set_append, if_neg (by omega), Nat.sub_self, List.set_cons_zero, List.length_append, List.length_singleton, show 64 - (l.length + 1) = k by omega, List.append_assoc]
  rfl

theorem sched_set (bs : List Int) (n : Nat) (h : n < 64) : (padZ (sched bs n)).set n (if n < 16 then wordB bs n else mixW (sched bs n) n) = padZ (sched bs (n + 1)) := by
  have := padZ_set (l := sched bs n) (x := if n < 16 then wordB bs n else mixW (sched bs n) n) (by rw [sched_length]; omega)
  rw [sched_length] at this
  rw [this, sched]

/-- l is the first n words. -/
structure IsSched (bs : List Int) (n : Nat) (l : List Int) : Prop where
  out : l = sched bs n
theorem IsSched.length {bs : List Int} {n : Nat} {l : List Int} (h : IsSched bs n l) : l.length = n := by rw [h.out, sched_length]
theorem IsSched.get {bs : List Int} {n : Nat} {l : List Int} (h : IsSched bs n l) (i : Nat) : W32 (l.getD i 0) := by rw [h.out]; exact sched_get bs n i
theorem IsSched.next {bs : List Int} {n : Nat} {l : List Int} (h : IsSched bs n l) (hn : n < 64) :
    ∃ l', IsSched bs (n + 1) l' ∧ (padZ l).set n (if n < 16 then wordB bs n else mixW l n) = padZ l' :=
  ⟨_, ⟨rfl⟩, by have := sched_set bs n hn; rw [← h.out] at this; exact this⟩

/-- One round over a state of eight words. -/
def roundS (s : List Int) (k x : Int) : List Int :=
  let t := add32 (add32 (add32 (add32 (s.getD 7 0) (sum1 (s.getD 4 0))) (picks (s.getD 4 0) (s.getD 5 0) (s.getD 6 0))) k) x
  let u := add32 (sum0 (s.getD 0 0)) (most (s.getD 0 0) (s.getD 1 0) (s.getD 2 0))
  [add32 t u, s.getD 0 0, s.getD 1 0, s.getD 2 0, add32 (s.getD 3 0) t, s.getD 4 0, s.getD 5 0, s.getD 6 0]

def cubesL : List Int := [0x428a2f98, 0x71374491, 0xb5c0fbcf, 0xe9b5dba5, 0x3956c25b, 0x59f111f1, 0x923f82a4, 0xab1c5ed5, 0xd807aa98, 0x12835b01, 0x243185be, 0x550c7dc3, 0x72be5d74, 0x80deb1fe, 0x9bdc06a7, 0xc19bf174, 0xe49b69c1, 0xefbe4786, 0x0fc19dc6, 0x240ca1cc, 0x2de92c6f, 0x4a7484aa, 0x5cb0a9dc, 0x76f988da, 0x983e5152, 0xa831c66d, 0xb00327c8, 0xbf597fc7, 0xc6e00bf3, 0xd5a79147, 0x06ca6351, 0x14292967, 0x27b70a85, 0x2e1b2138, 0x4d2c6dfc, 0x53380d13, 0x650a7354, 0x766a0abb, 0x81c2c92e, 0x92722c85, 0xa2bfe8a1, 0xa81a664b, 0xc24b8b70, 0xc76c51a3, 0xd192e819, 0xd6990624, 0xf40e3585, 0x106aa070, 0x19a4c116, 0x1e376c08, 0x2748774c, 0x34b0bcb5, 0x391c0cb3, 0x4ed8aa4a, 0x5b9cca4f, 0x682e6ff3, 0x748f82ee, 0x78a5636f, 0x84c87814, 0x8cc70208, 0x90befffa, 0xa4506ceb, 0xbef9a3f7, 0xc67178f2]

/-- The state behind n rounds. -/
def roundsS (ws : List Int) : Nat → List Int → List Int
  | 0, s => s
  | n + 1, s => roundS (roundsS ws n s) (cubesL.getD n 0) (ws.getD n 0)

/-- Eight words. -/
def St8 (s : List Int) : Prop := s.length = 8 ∧ ∀ x ∈ s, W32 x

theorem St8.open_ {s : List Int} (h : St8 s) : ∃ a b c d e f g i : Int, s = [a, b, c, d, e, f, g, i] ∧ W32 a ∧ W32 b ∧ W32 c ∧ W32 d ∧ W32 e ∧ W32 f ∧ W32 g ∧ W32 i := by
  obtain ⟨hl, hb⟩ := h
  match s, hl with
  | [a, b, c, d, e, f, g, i], _ => exact ⟨a, b, c, d, e, f, g, i, rfl, hb a (by simp), hb b (by simp), hb c (by simp), hb d (by simp), hb e (by simp), hb f (by simp), hb g (by simp), hb i (by simp)⟩

theorem roundS_st {s : List Int} (h : St8 s) (k x : Int) : St8 (roundS s k x) := by
  obtain ⟨a, b, c, d, e, f, g, i, rfl, h1, h2, h3, h4, h5, h6, h7, h8⟩ := h.open_
  refine ⟨rfl, fun y hy => ?_⟩
  simp only [roundS, List.mem_cons, List.not_mem_nil, or_false] at hy
  rcases hy with rfl | rfl | rfl | rfl | rfl | rfl | rfl | rfl
  · exact add32_bd _ _
  · exact h1
  · exact h2
  · exact h3
  · exact add32_bd _ _
  · exact h5
  · exact h6
  · exact h7

theorem roundsS_st (ws : List Int) {s : List Int} (h : St8 s) : ∀ n, St8 (roundsS ws n s)
  | 0 => h
  | n + 1 => roundS_st (roundsS_st ws h n) _ _

/-- A state, mixed with a block of 64 bytes. -/
def mixS (s bs : List Int) : List Int := List.zipWith add32 s (roundsS (sched bs 64) 64 s)

theorem mixS_st {s : List Int} (bs : List Int) (h : St8 s) : St8 (mixS s bs) := by
  obtain ⟨a, b, c, d, e, f, g, i, rfl, _⟩ := h.open_
  have h2 := roundsS_st (sched bs 64) h 64
  unfold mixS
  obtain ⟨a', b', c', d', e', f', g', i', hr, _⟩ := h2.open_
  rw [hr]
  refine ⟨rfl, fun y hy => ?_⟩
  simp only [List.zipWith_cons_cons, List.zipWith_nil_left, List.mem_cons, List.not_mem_nil, or_false] at hy
  rcases hy with rfl | rfl | rfl | rfl | rfl | rfl | rfl | rfl <;> exact add32_bd _ _

def ivL : List Int := [0x6a09e667, 0xbb67ae85, 0x3c6ef372, 0xa54ff53a, 0x510e527f, 0x9b05688c, 0x1f83d9ab, 0x5be0cd19]

/-- The state behind n blocks. -/
def foldN : Nat → List Int → List Int → List Int
  | 0, s, _ => s
  | n + 1, s, bs => foldN n (mixS s (bs.take 64)) (bs.drop 64)

theorem foldN_st : ∀ (n : Nat) {s : List Int} (bs : List Int), St8 s → St8 (foldN n s bs)
  | 0, _, _, h => h
  | n + 1, _, bs, h => foldN_st n (bs.drop 64) (mixS_st _ h)

theorem foldN_add : ∀ (m n : Nat) (s bs : List Int), foldN (m + n) s bs = foldN n (foldN m s bs) (bs.drop (64 * m))
  | 0, n, s, bs => by simp [foldN]
  | m + 1, n, s, bs => by
    rw [show m + 1 + n = (m + n) + 1 by omega, foldN, foldN_add m n, foldN, List.drop_drop, show 64 + 64 * m = 64 * (m + 1) by omega]

theorem foldN_next (n : Nat) (s bs : List Int) : foldN (n + 1) s bs = mixS (foldN n s bs) ((bs.drop (64 * n)).take 64) := foldN_add n 1 s bs

/-- What stands behind the blocks doesn't count. -/
theorem foldN_app : ∀ (n : Nat) (s x y : List Int), 64 * n ≤ x.length → foldN n s (x ++ y) = foldN n s x
  | 0, _, _, _, _ => rfl
  | n + 1, s, x, y, h => by
    rw [foldN, foldN, List.take_append_of_le_length (by omega), List.drop_append_of_le_length (by omega), foldN_app n _ _ _ (by simp; omega)]
end Go.Proofs.YtdfgdchmeikigaaDoor.Sha
