/-
  Layer 1, sha: the sum of what was taken: contract. Conditions: as each theorem names.
-/
import Derived.Test.YtpnodocjpedcmaaDoorMShW
namespace Go.Proofs.YtpnodocjpedcmaaDoor.Sha
open Go.ChangeShapes Go.WideShapes Go.ChangeAt Go.RowKit Go.Proofs.YtpnodocjpedcmaaDoor.Kit

/-- A list, with zeros up to m. -/
def padN (m : Nat) (l : List Int) : List Int := l ++ List.replicate (m - l.length) 0
theorem padN_length {m : Nat} {l : List Int} (h : l.length ≤ m) : (padN m l).length = m := by unfold padN; simp; omega
theorem padN_full {m : Nat} {l : List Int} (h : l.length = m) : padN m l = l := by unfold padN; rw [h]; simp
theorem padN_set {m n : Nat} {l : List Int} {x : Int} (hn : n = l.length) (h : l.length < m) : (padN m l).set n x = padN m (l ++ [x]) := by
  subst hn
  unfold padN
  obtain ⟨k, hk⟩ : ∃ k, m - l.length = k + 1 := ⟨m - 1 - l.length, by omega⟩
  rw [hk, List.replicate_succ, List.set_append, if_neg (by omega), Nat.sub_self, List.set_cons_zero, List.length_append, List.length_singleton, show m - (l.length + 1) = k by omega, List.append_assoc]
  rfl
theorem take_snoc {l : List Int} {i : Nat} (h : i < l.length) : l.take (i + 1) = l.take i ++ [l.getD i 0] := by
  rw [List.take_add_one, List.getD_eq_getElem?_getD, List.getElem?_eq_getElem h]
  rfl

theorem hb_alloc {w : World} {g : Nat} {st rest : List Int} {n : Int} (h : HB w g st rest n) (o : Obj) : HB (w.alloc o) g st rest n := Block.alloc h o

theorem hb_grown {w w' : World} {g k : Nat} {st rest : List Int} {n : Int} (h : HB w g st rest n) (hg : w.grownBy w' (some k)) (hne : k ≠ g) : HB w' g st rest n := Block.grown h hg (by intro e; injection e with e; exact hne e)
theorem zero_block1 (w : World) (o : Obj) : HB ((w.alloc o).alloc (.cells #[.int .u32 0, .int .u32 0, .int .u32 0, .int .u32 0, .int .u32 0, .int .u32 0, .int .u32 0, .int .u32 0, .int .u8 0, .int .u8 0, .int .u8 0, .int .u8 0, .int .u8 0, .int .u8 0, .int .u8 0, .int .u8 0, .int .u8 0, .int .u8 0, .int .u8 0, .int .u8 0, .int .u8 0, .int .u8 0, .int .u8 0, .int .u8 0, .int .u8 0, .int .u8 0, .int .u8 0, .int .u8 0, .int .u8 0, .int .u8 0, .int .u8 0, .int .u8 0, .int .u8 0, .int .u8 0, .int .u8 0, .int .u8 0, .int .u8 0, .int .u8 0, .int .u8 0, .int .u8 0, .int .u8 0, .int .u8 0, .int .u8 0, .int .u8 0, .int .u8 0, .int .u8 0, .int .u8 0, .int .u8 0, .int .u8 0, .int .u8 0, .int .u8 0, .int .u8 0, .int .u8 0, .int .u8 0, .int .u8 0, .int .u8 0, .int .u8 0, .int .u8 0, .int .u8 0, .int .u8 0, .int .u8 0, .int .u8 0, .int .u8 0, .int .u8 0, .int .u8 0, .int .u8 0, .int .u8 0, .int .u8 0, .int .u8 0, .int .u8 0, .int .u8 0, .int .u8 0, .int .u64 0] 154)) (w.heap.size + 1) (List.replicate 8 0) (List.replicate 64 0) 0 := by
  have h := zero_block (w.alloc o)
  rwa [show (w.alloc o).heap.size = w.heap.size + 1 by simp] at h

theorem below_two {w w2 : World} {o1 o2 : Obj} (g2 : ((w.alloc o1).alloc o2).grownBy w2 (some (w.heap.size + 1))) : Below w.heap.size w w2 :=
  (((Below.refl _ w).alloc (Nat.le_refl _) o1).alloc (by simp) o2).trans (below_of_grown g2 (by simp; omega) (fun b hb => by injection hb with hb; omega))
theorem below_one {B : Nat} {w w2 : World} (h : Below B w w2) (o : Obj) (hB : B ≤ w2.heap.size) : Below B w (w2.alloc o) := h.alloc hB o

theorem hb_far {w : World} {g : Nat} {st rest : List Int} {n : Int} (h : HB w g st rest n) {p : Addr} (hp : g ≠ p.block) (u : Value) : HB (w.setCell p u) g st rest n := Block.far h hp u
theorem lenB_get {n i : Nat} (h : i < 8) : (lenB n).getD i 0 = (n : Int) * 8 / 2 ^ (56 - 8 * i) % 256 := by
  unfold lenB
  rw [List.getD_eq_getElem?_getD, List.getElem?_map, List.getElem?_range h]
  simp only [Option.map_some, Option.getD_some]
  rw [Int.natCast_emod, Int.natCast_ediv, Int.natCast_mul, Int.natCast_pow, Int.mul_comm]
  rfl
theorem padN_take {m : Nat} {l : List Int} : ((padN m l).drop 0).take l.length = l := by unfold padN; simp
theorem digL_get (s : List Int) {i : Nat} (h : i < 32) : (digL s).getD i 0 = s.getD (i / 4) 0 / 2 ^ (24 - 8 * (i % 4)) % 256 := by
  unfold digL
  rw [List.getD_eq_getElem?_getD, List.getElem?_map, List.getElem?_range h]
  rfl

theorem foldN_get {s : List Int} (h : St8 s) (i : Nat) : W32 (s.getD i 0) := by
  rw [List.getD_eq_getElem?_getD]
  cases e : s[i]? with
  | none => unfold W32; simp
  | some x => exact h.2 x (List.mem_of_getElem? e)

/-- The end's bytes, i of the length's. -/
def endA (n i : Nat) : List Int := 128 :: (List.replicate (tailZ n) 0 ++ (lenB n).take i)
theorem endA_length {n i : Nat} (h : i ≤ 8) : (endA n i).length = 1 + tailZ n + i := by simp [endA, lenB_length]; omega
theorem endA_full (n : Nat) : endA n 8 = endB n := by unfold endA endB; rw [List.take_of_length_le (by rw [lenB_length]; omega)]
theorem endA_next {n i : Nat} (h : i < 8) : endA n (i + 1) = endA n i ++ [(lenB n).getD i 0] := by
  unfold endA
  rw [take_snoc (by rw [lenB_length]; exact h)]
  simp
theorem endA_zero (n : Nat) : padN 72 (endA n 0) = (List.replicate 72 0).set 0 128 := by
  unfold padN endA
  have ht := tailZ_lt n
  simp only [List.take_zero, List.append_nil, List.length_cons, List.length_replicate, List.cons_append]
  rw [show List.replicate 72 (0 : Int) = 0 :: List.replicate 71 0 from rfl, List.set_cons_zero, List.replicate_append_replicate, show tailZ n + (72 - (tailZ n + 1)) = 71 by omega]

set_option maxRecDepth 100000 in
set_option maxHeartbeats 6400000 in
theorem hsum_any (g : Nat) (xs : List Int) (w : World) (h : HashIs w g xs) (hx : xs.length ≤ 1000000000) (hxo : Octets xs) (hL : LaidS w) (hg0 : g ≠ 0) :
    Calls Tryd.prog 68 #[.pointer (some ⟨g, 0, none⟩)] w fun e w' => e = .returned (arrV .u8 (sumL xs)) ∧ Below w.heap.size w w' := by
  obtain ⟨r, h1, h2, h3⟩ := h.ex
  have hst := stateL_st xs
  have kt := h1.taken hst.1 h2
  have hz := zero_hash
  have hgl := h1.lt
  have hzero : ∀ W, (zeroValue 156).run Tryd.prog W = .ok (.agg #[.int .u8 0, .int .u8 0, .int .u8 0, .int .u8 0, .int .u8 0, .int .u8 0, .int .u8 0, .int .u8 0, .int .u8 0, .int .u8 0, .int .u8 0, .int .u8 0, .int .u8 0, .int .u8 0, .int .u8 0, .int .u8 0, .int .u8 0, .int .u8 0, .int .u8 0, .int .u8 0, .int .u8 0, .int .u8 0, .int .u8 0, .int .u8 0, .int .u8 0, .int .u8 0, .int .u8 0, .int .u8 0, .int .u8 0, .int .u8 0, .int .u8 0, .int .u8 0, .int .u8 0, .int .u8 0, .int .u8 0, .int .u8 0, .int .u8 0, .int .u8 0, .int .u8 0, .int .u8 0, .int .u8 0, .int .u8 0, .int .u8 0, .int .u8 0, .int .u8 0, .int .u8 0, .int .u8 0, .int .u8 0, .int .u8 0, .int .u8 0, .int .u8 0, .int .u8 0, .int .u8 0, .int .u8 0, .int .u8 0, .int .u8 0, .int .u8 0, .int .u8 0, .int .u8 0, .int .u8 0, .int .u8 0, .int .u8 0, .int .u8 0, .int .u8 0, .int .u8 0, .int .u8 0, .int .u8 0, .int .u8 0, .int .u8 0, .int .u8 0, .int .u8 0, .int .u8 0]) W := fun _ => by kernel_rfl
  go_enter Tryd.func68, Tryd.ntmps68
  go_wp2_with (first
    | (refine wpList_load_mid rfl _ _ rfl g 0 rfl (hcells (stateL xs) r xs.length) _ (hb_alloc h1 _).range Tryd.underlying154 rfl (by rw [hcells_length _ hst.1 h2]; kernel_rfl) ?_)
    | (refine wpList_store_hash rfl _ _ _ rfl (zero_block1 w _) rfl rfl hst.1 h2 rfl rfl (by kernel_rfl) ?_; intro w2 b2 g2; have hh2 := hb_grown (hb_alloc (hb_alloc h1 _) _) g2 (by omega); have kt2 := hh2.taken hst.1 h2; have hgl2 := hh2.lt))
  have htz : (119 - (xs.length : Int)) % 64 = (tailZ xs.length : Int) := by unfold tailZ; omega
  rw [htz]
  have a3 : Arr (w2.alloc (.cells #[.int .u8 128, .int .u8 0, .int .u8 0, .int .u8 0, .int .u8 0, .int .u8 0, .int .u8 0, .int .u8 0, .int .u8 0, .int .u8 0, .int .u8 0, .int .u8 0, .int .u8 0, .int .u8 0, .int .u8 0, .int .u8 0, .int .u8 0, .int .u8 0, .int .u8 0, .int .u8 0, .int .u8 0, .int .u8 0, .int .u8 0, .int .u8 0, .int .u8 0, .int .u8 0, .int .u8 0, .int .u8 0, .int .u8 0, .int .u8 0, .int .u8 0, .int .u8 0, .int .u8 0, .int .u8 0, .int .u8 0, .int .u8 0, .int .u8 0, .int .u8 0, .int .u8 0, .int .u8 0, .int .u8 0, .int .u8 0, .int .u8 0, .int .u8 0, .int .u8 0, .int .u8 0, .int .u8 0, .int .u8 0, .int .u8 0, .int .u8 0, .int .u8 0, .int .u8 0, .int .u8 0, .int .u8 0, .int .u8 0, .int .u8 0, .int .u8 0, .int .u8 0, .int .u8 0, .int .u8 0, .int .u8 0, .int .u8 0, .int .u8 0, .int .u8 0, .int .u8 0, .int .u8 0, .int .u8 0, .int .u8 0, .int .u8 0, .int .u8 0, .int .u8 0, .int .u8 0] 156)) w2.heap.size 156 .u8 (padN 72 (endA xs.length 0)) := by
    rw [endA_zero]
    exact Block.new w2 _ _
  have r2 : Arr w2 w.heap.size 48 .u8 (List.replicate 32 0) := Block.grown (row := some (w.heap.size + 1)) (Block.alloc (Block.new w _ _) _) g2 (by intro e; injection e with e; omega)
  have r3 := r2.alloc (.cells #[.int .u8 128, .int .u8 0, .int .u8 0, .int .u8 0, .int .u8 0, .int .u8 0, .int .u8 0, .int .u8 0, .int .u8 0, .int .u8 0, .int .u8 0, .int .u8 0, .int .u8 0, .int .u8 0, .int .u8 0, .int .u8 0, .int .u8 0, .int .u8 0, .int .u8 0, .int .u8 0, .int .u8 0, .int .u8 0, .int .u8 0, .int .u8 0, .int .u8 0, .int .u8 0, .int .u8 0, .int .u8 0, .int .u8 0, .int .u8 0, .int .u8 0, .int .u8 0, .int .u8 0, .int .u8 0, .int .u8 0, .int .u8 0, .int .u8 0, .int .u8 0, .int .u8 0, .int .u8 0, .int .u8 0, .int .u8 0, .int .u8 0, .int .u8 0, .int .u8 0, .int .u8 0, .int .u8 0, .int .u8 0, .int .u8 0, .int .u8 0, .int .u8 0, .int .u8 0, .int .u8 0, .int .u8 0, .int .u8 0, .int .u8 0, .int .u8 0, .int .u8 0, .int .u8 0, .int .u8 0, .int .u8 0, .int .u8 0, .int .u8 0, .int .u8 0, .int .u8 0, .int .u8 0, .int .u8 0, .int .u8 0, .int .u8 0, .int .u8 0, .int .u8 0, .int .u8 0] 156)
  have h3' := hb_alloc hh2 (.cells #[.int .u8 128, .int .u8 0, .int .u8 0, .int .u8 0, .int .u8 0, .int .u8 0, .int .u8 0, .int .u8 0, .int .u8 0, .int .u8 0, .int .u8 0, .int .u8 0, .int .u8 0, .int .u8 0, .int .u8 0, .int .u8 0, .int .u8 0, .int .u8 0, .int .u8 0, .int .u8 0, .int .u8 0, .int .u8 0, .int .u8 0, .int .u8 0, .int .u8 0, .int .u8 0, .int .u8 0, .int .u8 0, .int .u8 0, .int .u8 0, .int .u8 0, .int .u8 0, .int .u8 0, .int .u8 0, .int .u8 0, .int .u8 0, .int .u8 0, .int .u8 0, .int .u8 0, .int .u8 0, .int .u8 0, .int .u8 0, .int .u8 0, .int .u8 0, .int .u8 0, .int .u8 0, .int .u8 0, .int .u8 0, .int .u8 0, .int .u8 0, .int .u8 0, .int .u8 0, .int .u8 0, .int .u8 0, .int .u8 0, .int .u8 0, .int .u8 0, .int .u8 0, .int .u8 0, .int .u8 0, .int .u8 0, .int .u8 0, .int .u8 0, .int .u8 0, .int .u8 0, .int .u8 0, .int .u8 0, .int .u8 0, .int .u8 0, .int .u8 0, .int .u8 0, .int .u8 0] 156)
  have b3 := hb_alloc b2 (.cells #[.int .u8 128, .int .u8 0, .int .u8 0, .int .u8 0, .int .u8 0, .int .u8 0, .int .u8 0, .int .u8 0, .int .u8 0, .int .u8 0, .int .u8 0, .int .u8 0, .int .u8 0, .int .u8 0, .int .u8 0, .int .u8 0, .int .u8 0, .int .u8 0, .int .u8 0, .int .u8 0, .int .u8 0, .int .u8 0, .int .u8 0, .int .u8 0, .int .u8 0, .int .u8 0, .int .u8 0, .int .u8 0, .int .u8 0, .int .u8 0, .int .u8 0, .int .u8 0, .int .u8 0, .int .u8 0, .int .u8 0, .int .u8 0, .int .u8 0, .int .u8 0, .int .u8 0, .int .u8 0, .int .u8 0, .int .u8 0, .int .u8 0, .int .u8 0, .int .u8 0, .int .u8 0, .int .u8 0, .int .u8 0, .int .u8 0, .int .u8 0, .int .u8 0, .int .u8 0, .int .u8 0, .int .u8 0, .int .u8 0, .int .u8 0, .int .u8 0, .int .u8 0, .int .u8 0, .int .u8 0, .int .u8 0, .int .u8 0, .int .u8 0, .int .u8 0, .int .u8 0, .int .u8 0, .int .u8 0, .int .u8 0, .int .u8 0, .int .u8 0, .int .u8 0, .int .u8 0] 156)
  have hw2 : Below w.heap.size w w2 := below_two g2
  have hw3 := below_one hw2 (.cells #[.int .u8 128, .int .u8 0, .int .u8 0, .int .u8 0, .int .u8 0, .int .u8 0, .int .u8 0, .int .u8 0, .int .u8 0, .int .u8 0, .int .u8 0, .int .u8 0, .int .u8 0, .int .u8 0, .int .u8 0, .int .u8 0, .int .u8 0, .int .u8 0, .int .u8 0, .int .u8 0, .int .u8 0, .int .u8 0, .int .u8 0, .int .u8 0, .int .u8 0, .int .u8 0, .int .u8 0, .int .u8 0, .int .u8 0, .int .u8 0, .int .u8 0, .int .u8 0, .int .u8 0, .int .u8 0, .int .u8 0, .int .u8 0, .int .u8 0, .int .u8 0, .int .u8 0, .int .u8 0, .int .u8 0, .int .u8 0, .int .u8 0, .int .u8 0, .int .u8 0, .int .u8 0, .int .u8 0, .int .u8 0, .int .u8 0, .int .u8 0, .int .u8 0, .int .u8 0, .int .u8 0, .int .u8 0, .int .u8 0, .int .u8 0, .int .u8 0, .int .u8 0, .int .u8 0, .int .u8 0, .int .u8 0, .int .u8 0, .int .u8 0, .int .u8 0, .int .u8 0, .int .u8 0, .int .u8 0, .int .u8 0, .int .u8 0, .int .u8 0, .int .u8 0, .int .u8 0] 156) (by have := b2.lt; omega)
  have hE : w.heap.size + 1 < w2.heap.size := b2.lt
  have hE3 : w2.heap.size < (w2.alloc (.cells #[.int .u8 128, .int .u8 0, .int .u8 0, .int .u8 0, .int .u8 0, .int .u8 0, .int .u8 0, .int .u8 0, .int .u8 0, .int .u8 0, .int .u8 0, .int .u8 0, .int .u8 0, .int .u8 0, .int .u8 0, .int .u8 0, .int .u8 0, .int .u8 0, .int .u8 0, .int .u8 0, .int .u8 0, .int .u8 0, .int .u8 0, .int .u8 0, .int .u8 0, .int .u8 0, .int .u8 0, .int .u8 0, .int .u8 0, .int .u8 0, .int .u8 0, .int .u8 0, .int .u8 0, .int .u8 0, .int .u8 0, .int .u8 0, .int .u8 0, .int .u8 0, .int .u8 0, .int .u8 0, .int .u8 0, .int .u8 0, .int .u8 0, .int .u8 0, .int .u8 0, .int .u8 0, .int .u8 0, .int .u8 0, .int .u8 0, .int .u8 0, .int .u8 0, .int .u8 0, .int .u8 0, .int .u8 0, .int .u8 0, .int .u8 0, .int .u8 0, .int .u8 0, .int .u8 0, .int .u8 0, .int .u8 0, .int .u8 0, .int .u8 0, .int .u8 0, .int .u8 0, .int .u8 0, .int .u8 0, .int .u8 0, .int .u8 0, .int .u8 0, .int .u8 0, .int .u8 0] 156)).heap.size := by simp
  clear r2 hh2 b2 g2 kt2 hw2 hz hzero kt
  obtain ⟨w3, hw3e⟩ : ∃ w3, w3 = w2.alloc (.cells #[.int .u8 128, .int .u8 0, .int .u8 0, .int .u8 0, .int .u8 0, .int .u8 0, .int .u8 0, .int .u8 0, .int .u8 0, .int .u8 0, .int .u8 0, .int .u8 0, .int .u8 0, .int .u8 0, .int .u8 0, .int .u8 0, .int .u8 0, .int .u8 0, .int .u8 0, .int .u8 0, .int .u8 0, .int .u8 0, .int .u8 0, .int .u8 0, .int .u8 0, .int .u8 0, .int .u8 0, .int .u8 0, .int .u8 0, .int .u8 0, .int .u8 0, .int .u8 0, .int .u8 0, .int .u8 0, .int .u8 0, .int .u8 0, .int .u8 0, .int .u8 0, .int .u8 0, .int .u8 0, .int .u8 0, .int .u8 0, .int .u8 0, .int .u8 0, .int .u8 0, .int .u8 0, .int .u8 0, .int .u8 0, .int .u8 0, .int .u8 0, .int .u8 0, .int .u8 0, .int .u8 0, .int .u8 0, .int .u8 0, .int .u8 0, .int .u8 0, .int .u8 0, .int .u8 0, .int .u8 0, .int .u8 0, .int .u8 0, .int .u8 0, .int .u8 0, .int .u8 0, .int .u8 0, .int .u8 0, .int .u8 0, .int .u8 0, .int .u8 0, .int .u8 0, .int .u8 0] 156) := ⟨_, rfl⟩
  rw [← hw3e] at a3 r3 h3' b3 hw3 hE3 ⊢
  clear hw3e
  generalize w2.heap.size = E at *
  have htl := tailZ_lt xs.length
  have hel := fun i (h : i ≤ 8) => endA_length (n := xs.length) (i := i) h
  have Hel := Lib.hid hel
  clear hel htz
  go_loopw [25] (fun s wr => ∃ i : Nat, i ≤ 8 ∧ s = .int .i64 i ∧ Arr wr E 156 .u8 (padN 72 (endA xs.length i)) ∧ Arr wr w.heap.size 48 .u8 (List.replicate 32 0) ∧ HB wr g (stateL xs) r xs.length ∧ HB wr (w.heap.size + 1) (stateL xs) r xs.length ∧ Below w.heap.size w wr) (fun s _ => 8 - (intOf s).toNat)
  case atStart => exact ⟨0, by omega, rfl, a3, r3, h3', b3, hw3⟩
  case round =>
    clear a3 r3 h3' b3 hw3
    obtain ⟨i, hi, rfl, a4, r4, h4, b4, hb4⟩ := hrel
    by_cases hlt : i < 8
    · have kt := h4.taken hst.1 h2
      have hpl : (padN 72 (endA xs.length i)).length = 72 := padN_length (by rw [Hel.out _ (by omega)]; omega)
      have hc := a4.cell (i := 1 + tailZ xs.length + i) (by omega)
      have hf := a4.frozen (1 + tailZ xs.length + i)
      have hset := padN_set (m := 72) (n := 1 + tailZ xs.length + i) (l := endA xs.length i) (x := (lenB xs.length).getD i 0) (by rw [Hel.out _ (by omega)]) (by rw [Hel.out _ (by omega)]; omega)
      rw [← endA_next hlt] at hset
      have hset := Lib.hid hset
      generalize (padN 72 (endA xs.length i))[1 + tailZ xs.length + i]?.getD 0 = old at *
      generalize tailZ xs.length = tz at *
      clear hpl
      have hv := Lib.hid (lenB_get (n := xs.length) hlt)
      go_wp2_with fail
      have k9 := a4.set_ (1 + tz + i) ((lenB xs.length).getD i 0)
      rw [hset.out, hv.out] at k9
      go_roundw
      case rel => exact ⟨i + 1, by omega, by go_num, k9, r4.far (by simp; omega) _, hb_far h4 (by simp; omega) _, hb_far b4 (by simp; omega) _, hb4.setCell (by simp; omega) _⟩
      case measure => simp [intOf] <;> omega
    · obtain rfl : i = 8 := by omega
      rw [endA_full] at a4
      have hel8 := endB_length xs.length
      have hH : HashIs wr (w.heap.size + 1) xs := ⟨r, b4, h2, h3⟩
      have hLr := hL.below hb4
      have hgc : w.heap.size + 1 ≠ 0 := by have := hL.lt (by rw [cubes_length]; omega); omega
      have hHo : Holds wr wr.heap.size .u8 (some ⟨E, 0, none⟩) (endB xs.length) := by
        have := a4.holds 0 (endB xs.length).length
        rwa [padN_take] at this
      have GW := write_any (w.heap.size + 1) xs (some ⟨E, 0, none⟩) (endB xs.length) 72 wr hH (by rw [hel8]; omega) hxo (by rw [hel8]; omega) (by unfold maxLen; omega) (endB_octets _) hHo (fun _ a ha => by injection ha with ha; subst ha; simp; omega) hLr hgc
      rw [hel8] at GW
      have GW := Lib.hid GW
      have hEr : E < wr.heap.size := a4.lt
      clear hel8 hHo a4 hH b4 hLr Hel
      generalize htz2 : tailZ xs.length = tz at *
      clear htz2
      have z0 : (0 : Int) ≤ 9 + (tz : Int) := by omega
      have z1 : 9 + (tz : Int) ≤ 72 := by omega
      have z2 : (9 + (tz : Int)).toNat = 9 + tz := by omega
      go_wp2_with fail
      refine GW.out.mono ?_
      rintro e w5 ⟨rfl, hW5, t5⟩
      obtain ⟨r5, b5, l5, _⟩ := hW5.ex
      have hb5 : Below w.heap.size w w5 := hb4.trans (t5.toBelow hb4.size (fun b hb he => by omega))
      have r6 : Arr w5 w.heap.size 48 .u8 (List.replicate 32 0) := Block.out r4 t5 (by omega)
      have hd5 : w.heap.size + 1 < w5.heap.size := b5.lt
      have hst5 := stateL_st (xs ++ endB xs.length)
      obtain ⟨S5, hS5⟩ : ∃ S5, S5 = stateL (xs ++ endB xs.length) := ⟨_, rfl⟩
      rw [← hS5] at b5 hst5
      have HS5 : Hid (digL S5 = sumL xs) := Lib.hid (by rw [hS5]; rfl)
      clear hS5 hW5 t5 GW z0 z1 z2 r4 hb4 hEr
      generalize ((xs ++ endB xs.length).length : Int) = N5 at *
      go_wp2_with fail
      have a7 : Arr (w5.alloc (.cells ((List.replicate 32 (0 : Int)).map (Value.int .u8)).toArray 48)) w5.heap.size 48 .u8 (padN 32 ((digL S5).take 0)) := Block.new w5 _ _
      have r7 := r6.alloc (.cells ((List.replicate 32 (0 : Int)).map (Value.int .u8)).toArray 48)
      have b7 := hb_alloc b5 (.cells ((List.replicate 32 (0 : Int)).map (Value.int .u8)).toArray 48)
      have hw7 := below_one hb5 (.cells ((List.replicate 32 (0 : Int)).map (Value.int .u8)).toArray 48) hb5.size
      clear r6 b5 hb5
      generalize w5.heap.size = D at *
      go_loopw [48] (fun s wr => ∃ i : Nat, i ≤ 32 ∧ s = .int .i64 i ∧ Arr wr D 48 .u8 (padN 32 ((digL S5).take i)) ∧ Arr wr w.heap.size 48 .u8 (List.replicate 32 0) ∧ HB wr (w.heap.size + 1) S5 r5 N5 ∧ Below w.heap.size w wr) (fun s _ => 32 - (intOf s).toNat)
      case atStart => exact ⟨0, by omega, rfl, a7, r7, b7, hw7⟩
      case round =>
        clear a7 r7 b7 hw7
        obtain ⟨i, hi, rfl, a8, r8, b8, hw8⟩ := hrel
        have htl8 : ((digL S5).take i).length = i := by rw [List.length_take, digL_length]; omega
        by_cases hlt : i < 32
        · have kc := b8.stCell hst5.1 (i := i / 4) (by omega)
          have xb := (foldN_get hst5 (i / 4))
          have hpl : (padN 32 ((digL S5).take i)).length = 32 := padN_length (by omega)
          have hc := a8.cell (i := i) (by omega)
          have hf := a8.frozen i
          have hset := padN_set (m := 32) (n := i) (l := (digL S5).take i) (x := (digL S5).getD i 0) (by omega) (by omega)
          rw [← take_snoc (by rw [digL_length]; omega)] at hset
          have hset := Lib.hid hset
          have hv := digL_get S5 hlt
          simp only [List.getD_eq_getElem?_getD] at hv xb
          generalize (padN 32 ((digL S5).take i))[i]?.getD 0 = old at *
          generalize S5[i / 4]?.getD 0 = X at *
          have hv := Lib.hid hv
          clear hpl htl8
          go_wp2_with fail
          have k9 := a8.set_ i ((digL S5).getD i 0)
          rw [hset.out, List.getD_eq_getElem?_getD, hv.out] at k9
          go_roundw
          case rel => exact ⟨i + 1, by omega, by go_num, k9, r8.far (by simp; omega) _, hb_far b8 (by simp; omega) _, hw8.setCell (by simp; omega) _⟩
          case measure => simp [intOf] <;> omega
        · obtain rfl : i = 32 := by omega
          rw [padN_full htl8, List.take_of_length_le (by rw [digL_length]; omega), HS5.out] at a8
          have hsl := Lib.hid (sumL_length xs)
          have arr32 : Tryd.prog.underlying 48 = some (.array 32 5) := Tryd.underlying48
          clear htl8
          go_wp2_with (first
            | (refine wpList_load_arr rfl _ _ rfl a8 rfl arr32 rfl (by rw [hsl.out]; kernel_rfl) ?_)
            | (refine wpList_store_arr rfl _ _ _ rfl r8 rfl rfl (by rw [hsl.out]; rfl) (by rw [hsl.out]; kernel_rfl) ?_; intro w9 r9 g9))
          refine bodyPost_ret (v := arrV .u8 (sumL xs)) (results_cell_row rfl _ _ w.heap.size 48 _ (0, 0) _ rfl r9 arr32 rfl (by rw [show ((sumL xs).map (Value.int .u8)).toArray.size = 32 by simp [sumL_length]]; kernel_rfl)) rfl ⟨rfl, ?_⟩
          exact hw8.trans (below_of_grown g9 hw8.size fun b hb => by injection hb with hb; omega)
end Go.Proofs.YtpnodocjpedcmaaDoor.Sha
