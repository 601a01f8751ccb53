/-
  Layer 1, sha: the state behind bytes, the sum: plain words; what a hash's block has. No program but its types. No conditions beyond what each theorem names.
-/
import Derived.Test.YtdfgdchmeikigaaDoorShM
import Derived.Test.YtdfgdchmeikigaaDoorOut
namespace Go.Proofs.YtdfgdchmeikigaaDoor.Sha
open Go.ChangeShapes Go.WideShapes Go.ChangeAt Go.RowKit Go.Proofs.YtdfgdchmeikigaaDoor.Kit

theorem iv_st : St8 ivL := ⟨rfl, (by decide : ∀ x ∈ ivL, 0 ≤ x ∧ x ≤ 4294967295)⟩
/-- The state behind the whole blocks of bytes. -/
def stateL (xs : List Int) : List Int := foldN (xs.length / 64) ivL xs
theorem stateL_st (xs : List Int) : St8 (stateL xs) := foldN_st _ _ iv_st
theorem stateL_nil : stateL [] = ivL := rfl
theorem stateL_part {ys zs : List Int} (h : ys.length % 64 = 0) (hz : zs.length < 64) : stateL (ys ++ zs) = stateL ys := by
  unfold stateL
  rw [List.length_append, show (ys.length + zs.length) / 64 = ys.length / 64 by omega, foldN_app _ _ _ _ (by omega)]
theorem stateL_block {ys zs : List Int} (h : ys.length % 64 = 0) (hz : zs.length = 64) : stateL (ys ++ zs) = mixS (stateL ys) zs := by
  unfold stateL
  rw [List.length_append, show (ys.length + zs.length) / 64 = ys.length / 64 + 1 by omega, foldN_next, foldN_app _ _ _ _ (by omega)]
  congr 1
  rw [show 64 * (ys.length / 64) = ys.length by omega, List.drop_append_of_le_length (Nat.le_refl _), List.drop_length, List.nil_append, List.take_of_length_le (by omega)]

theorem stateL_whole (xs : List Int) : stateL (xs.take (64 * (xs.length / 64))) = stateL xs := by
  have h := stateL_part (ys := xs.take (64 * (xs.length / 64))) (zs := xs.drop (64 * (xs.length / 64))) (by simp; omega) (by simp; omega)
  rw [List.take_append_drop] at h
  exact h.symm
theorem state_same {xs bs : List Int} (h : xs.length % 64 + bs.length < 64) : stateL (xs ++ bs) = stateL xs := by
  have h1 := stateL_part (ys := xs.take (64 * (xs.length / 64))) (zs := xs.drop (64 * (xs.length / 64)) ++ bs) (by simp; omega) (by simp; omega)
  rw [← List.append_assoc, List.take_append_drop, stateL_whole] at h1
  exact h1
theorem state_full {xs zs : List Int} (h : xs.length % 64 + zs.length = 64) : stateL (xs ++ zs) = mixS (stateL xs) (xs.drop (64 * (xs.length / 64)) ++ zs) := by
  have h1 := stateL_block (ys := xs.take (64 * (xs.length / 64))) (zs := xs.drop (64 * (xs.length / 64)) ++ zs) (by simp; omega) (by simp; omega)
  rw [← List.append_assoc, List.take_append_drop, stateL_whole] at h1
  exact h1
theorem rest_next {xs bs r : List Int} (h2 : r.length = 64) (h3 : r.take (xs.length % 64) = xs.drop (64 * (xs.length / 64))) (hs : xs.length % 64 + bs.length < 64) :
    (r.take (xs.length % 64) ++ (bs ++ r.drop (xs.length % 64 + bs.length))).take ((xs ++ bs).length % 64) = (xs ++ bs).drop (64 * ((xs ++ bs).length / 64)) := by
  rw [h3, List.length_append, show (xs.length + bs.length) % 64 = xs.length % 64 + bs.length by omega, show 64 * ((xs.length + bs.length) / 64) = 64 * (xs.length / 64) by omega,
    ← List.append_assoc, List.take_append_of_le_length (by simp; omega), List.take_of_length_le (by simp; omega), List.drop_append_of_le_length (by omega)]
theorem rest_full {xs zs r : List Int} (h3 : r.take (xs.length % 64) = xs.drop (64 * (xs.length / 64))) (h2 : r.length = 64) (hs : xs.length % 64 + zs.length = 64) :
    r.take (xs.length % 64) ++ (zs ++ r.drop (xs.length % 64 + zs.length)) = xs.drop (64 * (xs.length / 64)) ++ zs := by
  rw [h3, hs, List.drop_of_length_le (l := r) (by omega), List.append_nil]
/-- What is copied into an empty rest. -/
theorem rest_last {ys zs r : List Int} (h : ys.length % 64 = 0) (hz : zs.length < 64) : (zs ++ r).take ((ys ++ zs).length % 64) = (ys ++ zs).drop (64 * ((ys ++ zs).length / 64)) := by
  rw [List.length_append, show (ys.length + zs.length) % 64 = zs.length by omega, show 64 * ((ys.length + zs.length) / 64) = ys.length by omega, List.take_left, List.drop_left]

def tailZ (n : Nat) : Nat := (119 - n % 64) % 64
theorem tailZ_lt (n : Nat) : tailZ n < 64 := by unfold tailZ; omega
theorem tailZ_mod (n : Nat) : (n + (9 + tailZ n)) % 64 = 0 := by unfold tailZ; omega
def lenB (n : Nat) : List Int := (List.range 8).map fun i => ((8 * n / 2 ^ (56 - 8 * i) % 256 : Nat) : Int)
theorem lenB_length (n : Nat) : (lenB n).length = 8 := by simp [lenB]
/-- What stands behind n bytes. -/
def endB (n : Nat) : List Int := 128 :: (List.replicate (tailZ n) 0 ++ lenB n)
theorem endB_length (n : Nat) : (endB n).length = 9 + tailZ n := by simp [endB, lenB_length]; omega
theorem lenB_octets (n : Nat) : Octets (lenB n) := by
  intro x hx
  obtain ⟨i, _, rfl⟩ := List.mem_map.1 hx
  omega
theorem endB_octets (n : Nat) : Octets (endB n) := by
  intro x hx
  rcases List.mem_cons.1 hx with rfl | hx
  · omega
  · rcases List.mem_append.1 hx with hx | hx
    · obtain ⟨_, rfl⟩ := List.mem_replicate.1 hx; omega
    · exact lenB_octets n x hx
def padL (xs : List Int) : List Int := xs ++ endB xs.length
theorem padL_mod (xs : List Int) : (padL xs).length % 64 = 0 := by
  unfold padL
  rw [List.length_append, endB_length]
  exact tailZ_mod _
/-- The bytes of a state. -/
def digL (s : List Int) : List Int := (List.range 32).map fun i => s.getD (i / 4) 0 / 2 ^ (24 - 8 * (i % 4)) % 256
theorem digL_length (s : List Int) : (digL s).length = 32 := by simp [digL]
theorem digL_octets (s : List Int) : Octets (digL s) := by
  intro x hx
  obtain ⟨i, _, rfl⟩ := List.mem_map.1 hx
  omega
/-- The sum of bytes. -/
def sumL (xs : List Int) : List Int := digL (stateL (padL xs))
theorem sumL_length (xs : List Int) : (sumL xs).length = 32 := digL_length _
theorem sumL_octets (xs : List Int) : Octets (sumL xs) := digL_octets _

/-! ### What a hash's block has -/

def hcells (st rest : List Int) (n : Int) : List Value := st.map (.int .u32) ++ (rest.map (.int .u8) ++ [.int .u64 n])
theorem hcells_length {st rest : List Int} (n : Int) (hs : st.length = 8) (hr : rest.length = 64) : (hcells st rest n).length = 73 := by simp [hcells, hs, hr]

/-- Block g is a hash of this state, these bytes that wait, so many taken. -/
def HB (w : World) (g : Nat) (st rest : List Int) (n : Int) : Prop := Block w g 122 (hcells st rest n).toArray

section
variable {w w' : World} {g : Nat} {st rest : List Int} {n : Int}
theorem HB.lt (h : HB w g st rest n) : g < w.heap.size := Block.lt h
theorem HB.frozen (h : HB w g st rest n) (i : Nat) : w.frozen? ⟨g, i, none⟩ = false := Block.frozen h i
theorem HB.out {S : Nat → Prop} (h : HB w g st rest n) (ho : TurnsIn S w w') (hg : ¬ S g) : HB w' g st rest n := Block.out h ho hg
theorem HB.below {B : Nat} (h : HB w g st rest n) (hb : Below B w w') (hg : g < B) : HB w' g st rest n := Block.below h hb hg
theorem HB.stCell (h : HB w g st rest n) (hs : st.length = 8) {i : Nat} (hi : i < 8) : w.cell? ⟨g, i, none⟩ = some (.int .u32 (st[i]?.getD 0)) := by
  rw [Block.cell h i]
  simp only [List.getElem?_toArray, hcells]
  rw [List.getElem?_append_left (by simp; omega)]
  simp [List.getElem?_eq_getElem (show i < st.length by omega)]
theorem HB.restCell (h : HB w g st rest n) (hs : st.length = 8) (hr : rest.length = 64) {i : Nat} (hi : i < 64) : w.cell? ⟨g, 8 + i, none⟩ = some (.int .u8 (rest[i]?.getD 0)) := by
  rw [Block.cell h (8 + i)]
  simp only [List.getElem?_toArray, hcells]
  rw [List.getElem?_append_right (by simp; omega), List.getElem?_append_left (by simp; omega)]
  simp [hs, List.getElem?_eq_getElem (show i < rest.length by omega)]
theorem HB.taken (h : HB w g st rest n) (hs : st.length = 8) (hr : rest.length = 64) : w.cell? ⟨g, 72, none⟩ = some (.int .u64 n) := by
  rw [Block.cell h 72]
  simp only [List.getElem?_toArray, hcells]
  rw [List.getElem?_append_right (by simp; omega), List.getElem?_append_right (by simp; omega)]
  simp [hs, hr]
theorem HB.setTaken (h : HB w g st rest n) (hs : st.length = 8) (hr : rest.length = 64) (m : Int) : HB (w.setCell ⟨g, 72, none⟩ (.int .u64 m)) g st rest m := by
  have := Block.set_ h 72 (.int .u64 m)
  unfold HB
  rw [List.setIfInBounds_toArray] at this
  have e : (hcells st rest n).set 72 (.int .u64 m) = hcells st rest m := by
    unfold hcells
    rw [List.set_append, if_neg (by simp; omega), List.set_append, if_neg (by simp; omega)]
    simp [hs, hr]
  rwa [e] at this
theorem HB.range (h : HB w g st rest n) : w.rangeAt g 0 (hcells st rest n) := by
  have := World.rangeAt_of_block h 0 (hcells st rest n).length
  simpa using this
theorem hcells_one (st rest : List Int) (n : Int) : ∀ v ∈ hcells st rest n, v.oneCell' = true := by
  intro v hv
  simp only [hcells, List.mem_append, List.mem_map, List.mem_singleton] at hv
  rcases hv with ⟨x, _, rfl⟩ | ⟨x, _, rfl⟩ | rfl <;> rfl
theorem HB.restHolds (h : HB w g st rest n) (hs : st.length = 8) (hr : rest.length = 64) : Holds w w.heap.size .u8 (some ⟨g, 8, none⟩) rest := by
  intro _
  exact ⟨g, 8, rfl, h.lt, fun j hj => by rw [h.restCell hs hr (by omega)]; simp [List.getD]⟩
theorem hcells_splice {zs : List Int} {q : Nat} (hs : st.length = 8) (hr : rest.length = 64) (hq : q + zs.length ≤ 64) :
    (hcells st rest n).take (8 + q) ++ (zs.map (Value.int .u8) ++ (hcells st rest n).drop (8 + q + zs.length)) = hcells st (rest.take q ++ (zs ++ rest.drop (q + zs.length))) n := by
  unfold hcells
  rw [List.take_append, List.take_of_length_le (by simp; omega), List.take_append_of_le_length (by simp; omega), List.drop_append, List.drop_of_length_le (by simp; omega), List.nil_append, List.drop_append_of_le_length (by simp; omega)]
  simp only [List.length_map, hs, show 8 + q - 8 = q by omega, show 8 + q + zs.length - 8 = q + zs.length by omega, List.map_append, List.map_take, List.map_drop, List.append_assoc]
theorem HB.there (h : HB w g st rest n) (m : Nat) (hm : m ≤ (hcells st rest n).length) : w.there g 0 m := fun j hj => by
  rw [Nat.zero_add, Block.cell h j]
  exact ⟨by simp; omega, h.frozen j⟩
theorem HB.setAll (h : HB w g st rest n) (hs : st.length = 8) (hr : rest.length = 64) {st2 rest2 : List Int} (n2 : Int) (h2 : st2.length = 8) (h3 : rest2.length = 64) : HB (w.setCells g 0 (hcells st2 rest2 n2)) g st2 rest2 n2 := by
  have := setCells_block (hcells st2 rest2 n2) 0 w _ h (by simp [hcells, h2, h3]; omega)
  unfold HB
  have e : (hcells st rest n).take 0 ++ (hcells st2 rest2 n2 ++ (hcells st rest n).drop (0 + (hcells st2 rest2 n2).length)) = hcells st2 rest2 n2 := by
    rw [List.drop_of_length_le (by rw [hcells_length _ hs hr, hcells_length _ h2 h3]; omega)]
    simp
  simp only [] at this
  rwa [e] at this
/-- A whole hash is stored over another. -/
theorem wpList_store_hash {P : Program} {ops : Array Oper} {more : List Oper} {o : Oper} {a : Act} {Q : Exit → Act → World → Prop} (hgd : o.guard = none) (ty : TypeId) (x y : Operand) (ho : o.op = .store ty x y)
    (h : HB w g st rest n) (hs : st.length = 8) (hr : rest.length = 64) {st2 rest2 : List Int} {n2 : Int} (h2 : st2.length = 8) (h3 : rest2.length = 64) (hx : a.eval x = .pointer (some ⟨g, 0, none⟩)) (hy : a.eval y = .agg (hcells st2 rest2 n2).toArray)
    (hi : (P.info? ty).map (·.size) = some 73) (hK : ∀ w', HB w' g st2 rest2 n2 → w.grownBy w' (some g) → wpList P ops Q more (a.put o.dst undef) w') : wpList P ops Q (o :: more) a w := by
  refine wpList_store_mid hgd ty x y ho g 0 (hcells st2 rest2 n2).toArray hx hy (h.there _ (by simp [hcells, h2, h3, hs, hr])) (by rw [hi]; simp [hcells, h2, h3]) (all_oneCell_toArray (hcells_one st2 rest2 n2)) ?_
  exact hK _ (h.setAll hs hr n2 h2 h3) (setCells_grown g _ 0 w)
theorem HB.setState (h : HB w g st rest n) (hs : st.length = 8) {s2 : List Int} (h2 : s2.length = 8) : HB (w.setCells g 0 (s2.map (.int .u32))) g s2 rest n := by
  have := setCells_block (s2.map (Value.int .u32)) 0 w _ h (by simp [hcells]; omega)
  unfold HB
  have e : (hcells st rest n).take 0 ++ (s2.map (Value.int .u32) ++ (hcells st rest n).drop (0 + (s2.map (Value.int .u32)).length)) = hcells s2 rest n := by
    unfold hcells
    simp [h2, hs]
  simp only [] at this
  rwa [e] at this
end
end Go.Proofs.YtdfgdchmeikigaaDoor.Sha
