/-
  Suffixes in order, by doubling: plain maths: the first level, the next one, the last one. Conditions: as each theorem names.
  Layers 14 and 15: the longest that stands anywhere; how far one gets; pieces: plain. Conditions: as each theorem names.
  Layer 16, plan: numbers as bytes: both functions, one answer. Conditions: as each theorem names.
  Layer 16, plan: what bytes tell of a number: plain words. No program. No conditions beyond what each theorem names.
  Layer 16, plan: what bytes tell of a step and of a plan: plain words. No program. No conditions beyond what each theorem names.
  Layer 16, plan: what bytes tell of a plan: plain words. No program. No conditions beyond what each theorem names.
  Layer 16, plan: plans as bytes: both functions, one answer. Conditions: as each theorem names.
  Layer 16, plan: what is deferred by Eval: it catches what is thrown. Conditions: as each theorem names.
  Layer 16, plan: bytes of an image, and what a step makes: contracts. Conditions: as each theorem names.
  Layer 16, plan: what a step makes: contracts. Conditions: as each theorem names.
  Layer 16, plan: what a step makes of an image: contract. Conditions: as each theorem names.
  Layer 16, plan: Eval: contract. Conditions: as each theorem names.
  Layer 16, plan: Eval of right steps: contract. Conditions: as each theorem names.
  Layer 16, plan: rows of steps of a call's own. Conditions: as each theorem names.
  Layer 16, plan: what takes bytes of a writing: contracts. Conditions: as each theorem names.
  Layer 16, plan: what takes a number of a writing: contract. Conditions: as each theorem names.
  Layer 16, plan: the document's reading of a number: contract. Conditions: as each theorem names.
  Layer 16, plan: what takes a step of a writing: contract. Conditions: as each theorem names.
  Layer 16, plan: what takes a step of a writing: the second number, and the ways it ends. Conditions: as each theorem names.
  Layer 16, plan: what takes a step of a writing: bytes that are missing. Conditions: as each theorem names.
  Layer 16, plan: what takes a step of a writing: a copy. Conditions: as each theorem names.
  Layer 16, plan: what takes a step of a writing: bytes. Conditions: as each theorem names.
  Layer 16, plan: what takes a step of a writing: for all bytes. Conditions: as each theorem names.
  Layer 16, plan: what is deferred by Get: it catches what is thrown. Conditions: as each theorem names.
  Layer 16, plan: what is deferred by Get: it catches a refusal. Conditions: as each theorem names.
  Layer 16, plan: Get: contract. Conditions: as each theorem names.
  Layer 16, plan: the document's reading of a step: contract. Conditions: as each theorem names.
  Layer 16, plan: the document's reading of a step: the second number. Conditions: as each theorem names.
  Layer 16, plan: the document's reading of a step: its bytes. Conditions: as each theorem names.
  Layer 16, plan: the document's reading of a step: for all bytes. Conditions: as each theorem names.
  Layer 16, plan: the document's Eval: contract. Conditions: as each theorem names.
  Layer 16, plan: the document's measure of a plan; the example; images read as strings. Conditions: as each theorem names.
  Layer 16, plan: the document's Get, and whether steps are the same. Conditions: as each theorem names.
  Layer 16, plan: the document's numbers and plans as bytes; the size of a plan. Conditions: as each theorem names.
  Layer 16, plan: the document's writing of a plan; the size of a plan. Conditions: as each theorem names.
  Own words: whole arrays of integers stored and loaded, as steps of a region that draws its order. No program. No conditions beyond what each theorem names.
  Own words: rows of bytes that a call lays itself in a new block. No program. No conditions beyond what each theorem names.
  Own words: rows that stay where something new is laid and filled; a row's first numbers; rows that grow in a world that only adds. No program. No conditions beyond what each theorem names.
  Own words for rows of values of one cell each (slices, strings) that a call makes itself: append, and rows of bytes among them. No program. No conditions beyond what each theorem names.
-/
import Derived.Test.YtlcnbepldkbkgaaMSxP
import Derived.Lib.Bytealg
import Derived.Lib.Bytes
import Derived.Laws.BytesArg
import Derived.Test.YtlcnbepldkbkgaaMGDcks4
import Derived.Test.YtlcnbepldkbkgaaMApp
import Derived.Laws.BitsAllLaws
import Derived.Laws.Bits128
import Derived.Deep.RegionLaw
import Derived.Deep.RegionWith
import Derived.Deep.DeepCutAuto
import Derived.Defers
import Derived.Recover
import Derived.Laws.Pointers
import Derived.RegionTactic
import Derived.Outline
import Derived.BigQuiet
import Derived.WalkLawsBesides
import Derived.LoopTactic
import Derived.Deep.AppendLies
import Derived.Lib.SlBytesConst
import Derived.Deep.QuietTactic
import Derived.Test.YtlcnbepldkbkgaaMArr
import Derived.Test.YtlcnbepldkbkgaaMGDcks2
namespace Go.Proofs.Ytlcnbepldkbkgaa.Sx
open Go.Proofs.Ytlcnbepldkbkgaa.Ordr

theorem cnt_countP (p : Nat → Bool) : ∀ m, cnt p m = (List.range m).countP p
  | 0 => rfl
  | m + 1 => by
    rw [List.range_succ, List.countP_append, ← cnt_countP p m, List.countP_singleton]
    rfl
theorem cnt_from (k : Nat) : ∀ m, cnt (fun i => decide (k ≤ i)) m = m - k
  | 0 => by simp [cnt]
  | m + 1 => by
    unfold cnt
    rw [cnt_from k m]
    by_cases h : k ≤ m
    · rw [if_pos (decide_eq_true h)]; omega
    · rw [if_neg (by simpa using h)]; omega
theorem PermT.cnt {n : Nat} {T : Nat → Nat} (h : PermT n T) (p : Nat → Bool) : Sx.cnt (fun i => p (T i)) n = Sx.cnt p n := by
  rw [cnt_countP, cnt_countP]
  have h1 : ((List.range n).map T).Perm (List.range n) := by
    refine (List.perm_ext_iff_of_nodup ?_ List.nodup_range).2 fun x => ?_
    · rw [List.nodup_iff_pairwise_ne, List.pairwise_map]
      refine (List.pairwise_lt_range (n := n)).imp_of_mem ?_
      intro a c ha hc hac e
      have := h.inj a c (List.mem_range.1 ha) (List.mem_range.1 hc) e
      omega
    · rw [List.mem_map, List.mem_range]
      constructor
      · rintro ⟨i, hi, rfl⟩; exact h.lt i (List.mem_range.1 hi)
      · intro hx
        obtain ⟨i, hi, e⟩ := h.onto hx
        exact ⟨i, List.mem_range.2 hi, e⟩
  rw [← h1.countP_eq p, List.countP_map]
  rfl
/-- The place of each that counts. -/
theorem cnt_onto {p : Nat → Bool} : ∀ {n c : Nat}, c < cnt p n → ∃ i, i < n ∧ p i = true ∧ cnt p i = c
  | 0, c, h => absurd h (by simp [cnt])
  | n + 1, c, h => by
    by_cases h1 : c < cnt p n
    · obtain ⟨i, hi, h2⟩ := cnt_onto h1
      exact ⟨i, by omega, h2⟩
    · unfold cnt at h
      by_cases hp : p n = true
      · rw [if_pos hp] at h
        exact ⟨n, by omega, hp, by omega⟩
      · rw [if_neg hp] at h
        omega
theorem cnt_less {p : Nat → Bool} {i j : Nat} (h : i < j) (hp : p i = true) : cnt p i < cnt p j := by
  have h1 := cnt_mono p (show i + 1 ≤ j by omega)
  have h2 : cnt p (i + 1) = cnt p i + 1 := by show _ + _ = _; rw [if_pos hp]
  omega

/-- The row that is put in order next: those without a second half ahead, the others as their second halves are in order. -/
structure SecRow (n k : Nat) (T row : Nat → Nat) : Prop where
  lo : ∀ j, j < k → row j = n - k + j
  hi : ∀ p, p < n → k ≤ T p → row (k + cnt (fun i => decide (k ≤ T i)) p) = T p - k
theorem SecRow.at_ {n k : Nat} {T row : Nat → Nat} (h : SecRow n k T row) (hT : PermT n T) {j : Nat} (hj : j < n) (hkj : k ≤ j) : ∃ p, p < n ∧ k ≤ T p ∧ j = k + cnt (fun i => decide (k ≤ T i)) p ∧ row j = T p - k := by
  have hc : j - k < cnt (fun i => decide (k ≤ T i)) n := by
    rw [hT.cnt (fun i => decide (k ≤ i)), cnt_from]
    omega
  obtain ⟨p, hp, hq, e⟩ := cnt_onto hc
  have hq := of_decide_eq_true hq
  have := h.hi p hp hq
  rw [e, show k + (j - k) = j by omega] at this
  exact ⟨p, hp, hq, by omega, this⟩
theorem SecRow.ok {b : List Int} {k c : Nat} {T row : Nat → Nat} {r : Nat → Int} (h : SecRow b.length k T row) (L : Lvl b k T r c) (hk : k < b.length) :
    PermT b.length row ∧ ∀ i j, i < j → j < b.length → secL b.length k r (row i) ≤ secL b.length k r (row j) := by
  have hlow : ∀ j, j < k → secL b.length k r (row j) = -1 := fun j hj => by unfold secL; rw [h.lo j hj, if_pos (by omega)]
  have hhi : ∀ p, p < b.length → k ≤ T p → secL b.length k r (T p - k) = r (T p) := fun p hp hq => by
    have := L.pm.lt p hp
    unfold secL
    rw [show T p - k + k = T p by omega, if_neg (by omega)]
  refine ⟨⟨fun j hj => ?_, fun i j hi hj e => ?_⟩, fun i j hij hj => ?_⟩
  · by_cases hjk : j < k
    · rw [h.lo j hjk]; omega
    · obtain ⟨p, hp, _, _, e⟩ := h.at_ L.pm hj (by omega)
      have := L.pm.lt p hp
      omega
  · by_cases hik : i < k
    · by_cases hjk : j < k
      · rw [h.lo i hik, h.lo j hjk] at e; omega
      · obtain ⟨p, hp, hq, _, e2⟩ := h.at_ L.pm hj (by omega)
        rw [h.lo i hik, e2] at e
        have := L.pm.lt p hp
        omega
    · obtain ⟨p, hp, hq, e1, e2⟩ := h.at_ L.pm hi (by omega)
      by_cases hjk : j < k
      · rw [h.lo j hjk, e2] at e
        have := L.pm.lt p hp
        omega
      · obtain ⟨u, hu, hv, e3, e4⟩ := h.at_ L.pm hj (by omega)
        rw [e2, e4] at e
        have := L.pm.inj p u hp hu (by omega)
        subst this
        omega
  · by_cases hik : i < k
    · rw [hlow i hik]
      by_cases hjk : j < k
      · rw [hlow j hjk]; omega
      · obtain ⟨u, hu, hv, e3, e4⟩ := h.at_ L.pm hj (by omega)
        rw [e4, hhi u hu hv]
        have := (L.lo _ (L.pm.lt u hu)).1
        omega
    · obtain ⟨p, hp, hq, e1, e2⟩ := h.at_ L.pm (show i < b.length by omega) (by omega)
      obtain ⟨u, hu, hv, e3, e4⟩ := h.at_ L.pm hj (by omega)
      rw [e2, e4, hhi p hp hq, hhi u hu hv]
      rcases Nat.lt_trichotomy p u with h1 | h1 | h1
      · exact L.so p u h1 hu
      · subst h1; omega
      · have := cnt_less (p := fun i => decide (k ≤ T i)) h1 (decide_eq_true hv)
        omega
/-- From a level to the next one. -/
theorem lvl_double {b : List Int} {k c : Nat} {T row T' : Nat → Nat} {r y : Nat → Int} (L : Lvl b k T r c) (hk : k < b.length) (hS : SecRow b.length k T row) (hP : Placed b.length row (fun j => (r (row j)).toNat) T')
    (hy : ∀ p, p < b.length → y (T' p) = (cnt (markT T' r (secL b.length k r)) (p + 1) : Int) - 1) : Lvl b (k + k) T' y (cnt (markT T' r (secL b.length k r)) b.length) := by
  obtain ⟨h1, h2⟩ := hS.ok L hk
  refine lvl_of (by have := L.kp; omega) (hP.perm h1) (hP.sorted (fun j hj => ?_) h2) hy (fun i j hi hj => lvl_key L hi hj)
  have := (L.lo _ (h1.lt j hj)).1
  show (((r (row j)).toNat : Nat) : Int) = r (row j)
  omega
/-- The first level. -/
theorem lvl_first {b : List Int} {T : Nat → Nat} {y : Nat → Int} (hb : ∀ x ∈ b, 0 ≤ x) (hP : Placed b.length id (fun j => (b.getD j 0).toNat) T)
    (hy : ∀ p, p < b.length → y (T p) = (cnt (markT T (fun i => b.getD i 0) (fun _ => 0)) (p + 1) : Int) - 1) : Lvl b 1 T y (cnt (markT T (fun i => b.getD i 0) (fun _ => 0)) b.length) := by
  have hid : PermT b.length id := ⟨fun p hp => hp, fun p q _ _ e => e⟩
  have hg : ∀ i, i < b.length → b.getD i 0 = b[i]?.getD 0 ∧ b.getD i 0 ∈ b := fun i hi => ⟨rfl, by
    rw [List.getD, List.getElem?_eq_getElem hi]
    exact List.getElem_mem hi⟩
  refine lvl_of (by omega) (hP.perm hid) (hP.sorted (a := fun i => b.getD i 0) (s := fun _ => 0) (fun j hj => ?_) (fun _ _ _ _ => Int.le_refl _)) hy (fun i j hi hj => ?_)
  · have := hb _ (hg j hj).2
    show (((b.getD j 0).toNat : Nat) : Int) = b.getD j 0
    omega
  · unfold Klt pre
    have e : ∀ i, i < b.length → (b.drop i).take 1 = [b.getD i 0] := fun i hi => by
      rw [List.drop_eq_getElem_cons hi, List.getD, List.getElem?_eq_getElem hi]
      rfl
    rw [e i hi, e j hj]
    simp [lexlt]
/-- The suffixes in order. -/
structure SaOk (b : List Int) (T : Nat → Nat) : Prop where
  pm : PermT b.length T
  so : ∀ p q, p < q → q < b.length → lexlt (b.drop (T p)) (b.drop (T q))
theorem lvl_end {b : List Int} {k c : Nat} {T : Nat → Nat} {r : Nat → Int} (L : Lvl b k T r c) (hc : ¬ c < b.length) : SaOk b T := by
  refine ⟨L.pm, fun p q hpq hq => ?_⟩
  have h1 := L.all (by have := L.cn; omega) p q hpq hq
  have h2 := (L.rk _ _ (L.pm.lt p (by omega)) (L.pm.lt q hq)).1 h1
  have h3 := (lexlt_split b.length k (b.drop (T p)) (b.drop (T q))).2 (.inl h2)
  rwa [List.take_of_length_le (by simp; omega), List.take_of_length_le (by simp; omega)] at h3
end Go.Proofs.Ytlcnbepldkbkgaa.Sx

namespace Go.Proofs.Ytlcnbepldkbkgaa.Sx
open Go.Proofs.Ytlcnbepldkbkgaa.Ordr

/-- With how many both begin. -/
def comL : List Int → List Int → Nat
  | x :: X, y :: Y => if x = y then comL X Y + 1 else 0
  | _, _ => 0
theorem comL_spec : ∀ (k : Nat) (X Y : List Int), k ≤ X.length → k ≤ Y.length → (∀ j, j < k → X.getD j 0 = Y.getD j 0) → (k < X.length → k < Y.length → X.getD k 0 ≠ Y.getD k 0) → comL X Y = k
  | 0, [], _, _, _, _, _ => by unfold comL; rfl
  | 0, x :: X, [], _, _, _, _ => by unfold comL; rfl
  | 0, x :: X, y :: Y, _, _, _, h => by
    have := h (by simp) (by simp)
    unfold comL
    rw [if_neg (by simpa using this)]
  | k + 1, [], _, h, _, _, _ => absurd h (by simp)
  | k + 1, _ :: _, [], _, h, _, _ => absurd h (by simp)
  | k + 1, x :: X, y :: Y, h1, h2, h3, h4 => by
    have e : x = y := by simpa using h3 0 (by omega)
    unfold comL
    rw [if_pos e, comL_spec k X Y (by simpa using h1) (by simpa using h2) (fun j hj => by simpa using h3 (j + 1) (by omega)) (fun a b => by simpa using h4 (by simpa using a) (by simpa using b))]
theorem comL_nil (Y : List Int) : comL [] Y = 0 := by unfold comL; rfl
theorem comL_cons {x y : Int} {X Y : List Int} : comL (x :: X) (y :: Y) = if x = y then comL X Y + 1 else 0 := by rw [comL]
theorem comL_le : ∀ X Y, comL X Y ≤ X.length ∧ comL X Y ≤ Y.length
  | [], Y => by rw [comL_nil]; simp
  | _ :: _, [] => by unfold comL; simp
  | x :: X, y :: Y => by
    rw [comL_cons]
    have := comL_le X Y
    split <;> simp <;> omega
theorem comL_get : ∀ (X Y : List Int) (j : Nat), j < comL X Y → X.getD j 0 = Y.getD j 0
  | [], Y, j, h => by rw [comL_nil] at h; omega
  | _ :: _, [], j, h => by unfold comL at h; omega
  | x :: X, y :: Y, j, h => by
    rw [comL_cons] at h
    by_cases e : x = y
    · rw [if_pos e] at h
      cases j with
      | zero => simpa using e
      | succ j => simpa using comL_get X Y j (by omega)
    · rw [if_neg e] at h; omega
/-- As many are common as agree. -/
theorem comL_ge : ∀ (k : Nat) (X Y : List Int), k ≤ X.length → k ≤ Y.length → (∀ j, j < k → X.getD j 0 = Y.getD j 0) → k ≤ comL X Y
  | 0, _, _, _, _, _ => Nat.zero_le _
  | k + 1, [], _, h, _, _ => absurd h (by simp)
  | k + 1, _ :: _, [], _, h, _ => absurd h (by simp)
  | k + 1, x :: X, y :: Y, h1, h2, h3 => by
    have e : x = y := by simpa using h3 0 (by omega)
    rw [comL_cons, if_pos e]
    have := comL_ge k X Y (by simpa using h1) (by simpa using h2) (fun j hj => by simpa using h3 (j + 1) (by omega))
    omega

theorem lexlt_trans : ∀ {X Y Z : List Int}, lexlt X Y → lexlt Y Z → lexlt X Z
  | [], [], _, h, _ => h.elim
  | [], _ :: _, [], _, h => h.elim
  | [], _ :: _, _ :: _, _, _ => trivial
  | _ :: _, [], _, h, _ => h.elim
  | _ :: _, _ :: _, [], _, h => h.elim
  | x :: X, y :: Y, z :: Z, h1, h2 => by
    unfold lexlt at h1 h2 ⊢
    rcases h1 with h1 | ⟨h1, h3⟩
    · rcases h2 with h2 | ⟨h2, _⟩
      · exact .inl (by omega)
      · exact .inl (by omega)
    · rcases h2 with h2 | ⟨h2, h4⟩
      · exact .inl (by omega)
      · exact .inr ⟨by omega, lexlt_trans h3 h4⟩
/-- What stands nearer, on the low side, has as much in common. -/
theorem com_left : ∀ {X Y Z : List Int}, (X = Y ∨ lexlt X Y) → lexlt Y Z → comL X Z ≤ comL Y Z
  | [], _, _, _, _ => by rw [comL_nil]; exact Nat.zero_le _
  | x :: X, [], _, h, _ => by rcases h with h | h; exact absurd h (by simp); exact h.elim
  | x :: X, y :: Y, [], _, h => h.elim
  | x :: X, y :: Y, z :: Z, h1, h2 => by
    rw [comL_cons, comL_cons]
    unfold lexlt at h2
    have h3 : x < y ∨ x = y ∧ (X = Y ∨ lexlt X Y) := by
      rcases h1 with h1 | h1
      · injection h1 with a b; exact .inr ⟨a, .inl b⟩
      · unfold lexlt at h1
        exact h1.imp id (fun h => ⟨h.1, .inr h.2⟩)
    by_cases e : x = z
    · rw [if_pos e]
      rcases h3 with h3 | ⟨h3, h4⟩
      · omega
      · rcases h2 with h2 | ⟨h2, h5⟩
        · omega
        · rw [if_pos h2]
          have := com_left h4 h5
          omega
    · rw [if_neg e]; exact Nat.zero_le _
/-- The same on the high side. -/
theorem com_right : ∀ {X Y Z : List Int}, (Y = X ∨ lexlt Y X) → (Z = Y ∨ lexlt Z Y) → comL X Z ≤ comL Y Z
  | [], _, _, _, _ => by rw [comL_nil]; exact Nat.zero_le _
  | _ :: _, _, [], _, _ => by unfold comL; exact Nat.zero_le _
  | x :: X, [], z :: Z, _, h => by rcases h with h | h; exact absurd h (by simp); exact h.elim
  | x :: X, y :: Y, z :: Z, h1, h2 => by
    rw [comL_cons, comL_cons]
    have h3 : y < x ∨ y = x ∧ (Y = X ∨ lexlt Y X) := by
      rcases h1 with h1 | h1
      · injection h1 with a b; exact .inr ⟨a, .inl b⟩
      · unfold lexlt at h1
        exact h1.imp id (fun h => ⟨h.1, .inr h.2⟩)
    have h4 : z < y ∨ z = y ∧ (Z = Y ∨ lexlt Z Y) := by
      rcases h2 with h2 | h2
      · injection h2 with a b; exact .inr ⟨a, .inl b⟩
      · unfold lexlt at h2
        exact h2.imp id (fun h => ⟨h.1, .inr h.2⟩)
    by_cases e : x = z
    · rw [if_pos e]
      rcases h3 with h3 | ⟨h3, h5⟩
      · omega
      · rcases h4 with h4 | ⟨h4, h6⟩
        · omega
        · rw [if_pos h4.symm]
          have := com_right h5 h6
          omega
    · rw [if_neg e]; exact Nat.zero_le _

def Bytes8 (xs : List Int) : Prop := ∀ x ∈ xs, 0 ≤ x ∧ x ≤ 255
theorem u8_lt {x y : Int} (hx : 0 ≤ x ∧ x ≤ 255) (hy : 0 ≤ y ∧ y ≤ 255) : UInt8.ofNat x.toNat < UInt8.ofNat y.toNat ↔ x < y := by
  rw [UInt8.lt_iff_toNat_lt, UInt8.toNat_ofNat', UInt8.toNat_ofNat', Nat.mod_eq_of_lt (by omega), Nat.mod_eq_of_lt (by omega)]
  omega
/-- The library's word on which text is greater. -/
theorem compare_ge : ∀ {X Y : List Int}, Bytes8 X → Bytes8 Y → (0 ≤ Lib.compareBytes (Lib.bytesOf X) (Lib.bytesOf Y) ↔ ¬ lexlt X Y)
  | [], [], _, _ => by simp [Lib.bytesOf, Lib.compareBytes, lexlt]
  | [], _ :: _, _, _ => by simp [Lib.bytesOf, Lib.compareBytes, lexlt]
  | _ :: _, [], _, _ => by simp [Lib.bytesOf, Lib.compareBytes, lexlt]
  | x :: X, y :: Y, hx, hy => by
    have h1 := hx x (by simp)
    have h2 := hy y (by simp)
    have ih := compare_ge (X := X) (Y := Y) (fun z hz => hx z (by simp [hz])) (fun z hz => hy z (by simp [hz]))
    unfold Lib.bytesOf at ih ⊢
    simp only [List.map_cons, Lib.compareBytes, u8_lt h1 h2, u8_lt h2 h1, lexlt]
    by_cases a : x < y
    · rw [if_pos a]
      constructor
      · intro h; omega
      · intro h; exact absurd (.inl a) h
    · rw [if_neg a]
      by_cases c : y < x
      · rw [if_pos c]
        constructor
        · intro _ h; omega
        · intro _; omega
      · rw [if_neg c, ih]
        have e : x = y := by omega
        constructor
        · rintro h (h1 | ⟨_, h1⟩)
          · exact a h1
          · exact h h1
        · intro h h1
          exact h (.inr ⟨e, h1⟩)

/-- The least place from which on it is so. -/
structure LeastAt (n : Nat) (p : Nat → Bool) (k : Nat) : Prop where
  le : k ≤ n
  lo : ∀ u, u < k → p u = false
  hi : ∀ u, k ≤ u → u < n → p u = true
def geS (b : List Int) (T : Nat → Nat) (q : List Int) (u : Nat) : Bool := decide (0 ≤ Lib.compareBytes (Lib.bytesOf (b.drop (T u))) (Lib.bytesOf q))
theorem geS_yes {b q : List Int} {T : Nat → Nat} {u : Nat} (hb : Bytes8 b) (hq : Bytes8 q) : geS b T q u = true ↔ ¬ lexlt (b.drop (T u)) q := by
  unfold geS
  rw [decide_eq_true_iff, compare_ge (fun x hx => hb x (List.mem_of_mem_drop hx)) hq]
theorem geS_no {b q : List Int} {T : Nat → Nat} {u : Nat} (hb : Bytes8 b) (hq : Bytes8 q) (h : geS b T q u = false) : lexlt (b.drop (T u)) q := by
  rcases Classical.em (lexlt (b.drop (T u)) q) with h1 | h1
  · exact h1
  · rw [(geS_yes hb hq).2 h1] at h
    exact absurd h (by simp)
theorem geS_mono {b q : List Int} {T : Nat → Nat} (hb : Bytes8 b) (hq : Bytes8 q) (h : SaOk b T) {u v : Nat} (huv : u ≤ v) (hv : v < b.length) (hu : geS b T q u = true) : geS b T q v = true := by
  by_cases e : u = v
  · subst e; exact hu
  · have h1 := h.so u v (by omega) hv
    have h2 := (geS_yes hb hq).1 hu
    exact (geS_yes hb hq).2 fun h3 => h2 (lexlt_trans h1 h3)
/-- Nothing has more in common than the two neighbours. -/
theorem near_most {b q : List Int} {T : Nat → Nat} {k m : Nat} (hb : Bytes8 b) (hq : Bytes8 q) (h : SaOk b T) (hk : LeastAt b.length (geS b T q) k) (h1 : 0 < k → comL (b.drop (T (k - 1))) q ≤ m) (h2 : k < b.length → comL (b.drop (T k)) q ≤ m) :
    ∀ i, i < b.length → comL (b.drop i) q ≤ m := by
  intro i hi
  obtain ⟨u, hu, rfl⟩ := h.pm.onto hi
  by_cases huk : u < k
  · refine Nat.le_trans (com_left (Y := b.drop (T (k - 1))) ?_ ?_) (h1 (by omega))
    · by_cases e : u = k - 1
      · exact .inl (by rw [e])
      · exact .inr (h.so u (k - 1) (by omega) (by have := hk.le; omega))
    · exact geS_no hb hq (hk.lo (k - 1) (by omega))
  · refine Nat.le_trans (com_right (Y := b.drop (T k)) ?_ ?_) (h2 (by omega))
    · by_cases e : u = k
      · exact .inl (by rw [e])
      · exact .inr (h.so k u (by omega) hu)
    · have h3 := (geS_yes hb hq).1 (hk.hi k (Nat.le_refl _) (by omega))
      rcases lexlt_total q (b.drop (T k)) with h4 | h4 | h4
      · exact .inr h4
      · exact .inl h4
      · exact absurd h4 h3
/-- What is told of the longest. -/
structure FoundB (b q : List Int) (at_ most : Nat) : Prop where
  lt : 0 < most → at_ < b.length ∧ comL (b.drop at_) q = most
  z : most = 0 → at_ = 0
  mx : ∀ i, i < b.length → comL (b.drop i) q ≤ most

/-! ### How far one gets -/
/-- So far, at least half of it are the same. -/
structure ReachOk (most : Int) (p : Nat → Bool) (far : Nat) : Prop where
  le : (far : Int) ≤ most ∨ far = 0
  half : far ≤ 2 * cnt p far
theorem cnt_add (p : Nat → Bool) (a : Nat) : ∀ c, cnt p (a + c) = cnt p a + cnt (fun j => p (a + j)) c
  | 0 => rfl
  | c + 1 => by
    show cnt p (a + c) + (if p (a + c) = true then 1 else 0) = cnt p a + (cnt (fun j => p (a + j)) c + (if p (a + c) = true then 1 else 0))
    rw [cnt_add p a c]
    omega
theorem cnt_first (p : Nat → Bool) (c : Nat) : cnt p (c + 1) = (if p 0 = true then 1 else 0) + cnt (fun j => p (j + 1)) c := by
  have := cnt_add p 1 c
  rw [show 1 + c = c + 1 by omega] at this
  rw [this]
  congr 1
  · show 0 + (if p 0 = true then 1 else 0) = _
    exact Nat.zero_add _
  · congr 1
    funext j
    rw [Nat.add_comm]
theorem cnt_rev (p : Nat → Bool) : ∀ c, cnt (fun j => p (c - 1 - j)) c = cnt p c
  | 0 => rfl
  | c + 1 => by
    rw [cnt_first]
    have h := cnt_rev p c
    have e : cnt (fun j => p (c + 1 - 1 - (j + 1))) c = cnt (fun j => p (c - 1 - j)) c := by
      congr 1
      funext j
      congr 1
      omega
    rw [e, h]
    show _ = cnt p c + (if p c = true then 1 else 0)
    rw [show c + 1 - 1 - 0 = c by omega]
    omega
theorem cnt_congr {p q : Nat → Bool} : ∀ c, (∀ j, j < c → p j = q j) → cnt p c = cnt q c
  | 0, _ => rfl
  | c + 1, h => by unfold cnt; rw [cnt_congr c (fun j hj => h j (by omega)), h c (by omega)]
end Go.Proofs.Ytlcnbepldkbkgaa.Sx

namespace Go.Proofs.Ytlcnbepldkbkgaa.Pl
open Go.ChangeShapes Go.WideShapes Go.ChangeAt Go.RowKit Go.Proofs.Ytlcnbepldkbkgaa.Kit

theorem elem8 : IntElem Try.prog 22 5 .u8 1 := ⟨Try.underlying22, by kernel_rfl, by omega⟩

/-- A number, seven bits a byte, the lowest first; all but the last have 128 more. -/
def numF : Nat → Int → List Int
  | 0, n => [n]
  | f + 1, n => if n < 128 then [n] else (128 + n % 128) :: numF f (n / 128)
def numB (n : Int) : List Int := numF 8 n

theorem numF_length : ∀ (f : Nat) (n : Int), 1 ≤ (numF f n).length ∧ (numF f n).length ≤ f + 1
  | 0, n => by simp [numF]
  | f + 1, n => by
    have := numF_length f (n / 128)
    rw [numF]
    split <;> simp <;> omega
theorem numB_length (n : Int) : 1 ≤ (numB n).length ∧ (numB n).length ≤ 9 := numF_length 8 n
theorem numF_octets : ∀ (f : Nat) (n : Int), 0 ≤ n → n < 128 ^ (f + 1) → Octets (numF f n)
  | 0, n, h0, h1 => by
    intro x hx
    simp [numF] at hx
    subst hx
    simp at h1
    omega
  | f + 1, n, h0, h1 => by
    intro x hx
    rw [numF] at hx
    split at hx
    · simp at hx; omega
    · rcases List.mem_cons.1 hx with rfl | hx
      · omega
      · exact numF_octets f (n / 128) (by omega) (by rw [Int.pow_succ] at h1; exact Int.ediv_lt_of_lt_mul (by omega) (by omega)) x hx

theorem or128 (y : Int) (h : 0 ≤ y ∧ y ≤ 255) : bits BinOp.or IntKind.u8 y 128 = 128 + y % 128 := by
  obtain ⟨n, rfl⟩ := Int.eq_ofNat_of_zero_le h.1
  have e : ∀ a, a < 256 → a ||| 128 = 128 + a % 128 := by decide +kernel
  have := e n (by omega)
  rw [show (128 : Int) = ((128 : Nat) : Int) from rfl, u8_or_nat _ _ (by omega) (by omega), this]
  omega

/-- What number gives: the row, longer. -/
def Longer (B : Nat) (v : Value) (xs : List Int) (w : World) (e : Ending) (w' : World) : Prop :=
  ∃ A' c', e = .returned (.slice A' xs.length c') ∧ Own w' B 5 .u8 (.slice A' xs.length c') xs ∧ TurnsIn (fun b => v.ownBlock = some b) w w' ∧ Newer w v (.slice A' xs.length c')

theorem TurnsIn.own {w w1 w2 : World} {v v1 : Value} (t1 : TurnsIn (fun b => v.ownBlock = some b) w w1) (n1 : Newer w v v1) (t2 : TurnsIn (fun b => v1.ownBlock = some b) w1 w2) : TurnsIn (fun b => v.ownBlock = some b) w w2 :=
  t1.then_ t2 fun b hb hv => by
    rcases n1 with h | h
    · rw [← h]; exact hv
    · have := h b hv; omega

set_option maxHeartbeats 1600000 in
theorem number_any (B : Nat) (v : Value) (xs : List Int) (x : Int) (w : World) (hx : 0 ≤ x ∧ x ≤ 9223372036854775807) (hB : B ≤ w.heap.size) (hl : xs.length ≤ 100000000) (hown : Own w B 5 .u8 v xs) :
    Calls Try.prog 44 #[v, .int .i64 x] w (Longer B v (xs ++ numB x) w) := by
  obtain ⟨A, c, rfl, _, _, _⟩ := hown.opened
  have hN := (numB_length x).2
  have hp9 : x < 128 ^ (8 + 1) := by
    have h : (128 : Int) ^ (8 + 1) = 9223372036854775808 := by decide
    omega
  go_enter Try.func44, Try.ntmps44
  go_wp2_with fail
  go_loopw [0, 1] (fun u s wr => ∃ (f : Nat) (y : Int) (zs : List Int) (A' : Option Addr) (c' : Nat), s = .int .i64 y ∧ u = .slice A' zs.length c' ∧ 0 ≤ y ∧ y ≤ x ∧ y < 128 ^ (f + 1) ∧ zs ++ numF f y = xs ++ numB x ∧ zs.length + f ≤ xs.length + 8 ∧
    Own wr B 5 .u8 (.slice A' zs.length c') zs ∧ TurnsIn (fun b => (Value.slice A xs.length c).ownBlock = some b) w wr ∧ Newer w (.slice A xs.length c) (.slice A' zs.length c')) (fun _ s _ => (intOf s).toNat)
  case atStart => exact ⟨8, x, xs, A, c, rfl, rfl, hx.1, Int.le_refl _, hp9, rfl, by omega, hown, TurnsIn.refl _ _, Newer.refl _ _⟩
  case round =>
    obtain ⟨f, y, zs, A', c', rfl, rfl, h0, hyx, hy, hz, hzl, own1, t1, n1⟩ := hrel
    have hBr : B ≤ wr.heap.size := Nat.le_trans hB t1.size
    have Hz := Lib.hid hz
    have ho := or128 (y % 256) (by omega)
    have hmm : y % 256 % 128 = y % 128 := by omega
    rw [hmm] at ho
    clear hz
    by_cases h128 : 128 ≤ y
    · have hd : decide ((128 : Int) ≤ y) = true := decide_eq_true h128
      cases f with
      | zero => simp at hy; omega
      | succ f =>
        have hnext : numF (f + 1) y = (128 + y % 128) :: numF f (y / 128) := by rw [numF, if_neg (by omega)]
        have hy2 : y / 128 < 128 ^ (f + 1) := by rw [Int.pow_succ] at hy; exact Int.ediv_lt_of_lt_mul (by omega) (by omega)
        have Hn := Lib.hid hnext
        have Hy := Lib.hid hy2
        clear hnext hy hy2 hmm
        go_wp2_with (at_builtin; refine wpList_append_one_out (z := 128 + y % 128) _ rfl _ _ _ rfl elem8 own1 rfl rfl (by omega) hBr ?_; intro A5 c5 w5 own5 t5 n5)
        go_roundw
        case rel => exact ⟨f, y / 128, zs ++ [128 + y % 128], A5, c5, rfl, by simp, by omega, by omega, Hy.out, by rw [← Hz.out, Hn.out]; simp, by simp; omega, by simpa using own5, TurnsIn.own t1 n1 t5, by simpa using n1.trans t1.size n5⟩
        case measure => simp [intOf] <;> omega
    · have hd : decide ((128 : Int) ≤ y) = false := decide_eq_false h128
      have hlast : numF f y = [y] := by cases f <;> simp [numF]; omega
      have Hl := Lib.hid hlast
      have hb : y % 256 = y := by omega
      clear hlast hmm
      go_wp2_with (at_builtin; refine wpList_append_one_out (z := y) _ rfl _ _ _ rfl elem8 own1 rfl rfl (by omega) hBr ?_; intro A5 c5 w5 own5 t5 n5)
      go_ret
      have hq : zs ++ [y] = xs ++ numB x := by rw [← Hz.out, Hl.out]
      have hq2 : zs.length + 1 = (xs ++ numB x).length := by rw [← hq]; simp
      rw [hq, hq2] at own5
      rw [hq2] at n5
      rw [hq2]
      exact ⟨A5, c5, rfl, own5, TurnsIn.own t1 n1 t5, n1.trans t1.size n5⟩
end Go.Proofs.Ytlcnbepldkbkgaa.Pl

namespace Go.Proofs.Ytlcnbepldkbkgaa.Pl
open Go.ChangeShapes Go.WideShapes Go.ChangeAt Go.RowKit Go.Proofs.Ytlcnbepldkbkgaa.Kit

/-- A number: at most so many more bytes, the next one's weight, the sum so far; it and what stands behind, or the error. -/
def numG : Nat → Int → Int → List Int → Except Int (Int × List Int)
  | 0, _, _, _ => .error 13
  | _ + 1, _, _, [] => .error 2
  | f + 1, p, n, c :: r => if c < 128 then (if c = 0 ∧ f < 4 then .error 13 else .ok (n + p * c, r)) else numG f (p * 128) (n + p * (c % 128)) r

theorem numG_rest : ∀ (f : Nat) (p n : Int) (l : List Int) (x : Int) (r : List Int), numG f p n l = .ok (x, r) → ∃ k, 1 ≤ k ∧ k ≤ f ∧ k ≤ l.length ∧ r = l.drop k
  | 0, _, _, _, _, _, h => by simp [numG] at h
  | _ + 1, _, _, [], _, _, h => by simp [numG] at h
  | f + 1, p, n, c :: l, x, r, h => by
    rw [numG] at h
    by_cases hc : c < 128
    · rw [if_pos hc] at h
      by_cases h0 : c = 0 ∧ f < 4
      · rw [if_pos h0] at h; cases h
      · rw [if_neg h0] at h
        injection h with h
        injection h with h1 h2
        exact ⟨1, by omega, by omega, by simp, by simp [h2]⟩
    · rw [if_neg hc] at h
      obtain ⟨k, h1, h2, h3, h4⟩ := numG_rest f _ _ l x r h
      exact ⟨k + 1, by omega, by omega, by simp; omega, by simp [h4]⟩

theorem numG_bd : ∀ (f : Nat) (p n : Int) (l : List Int) (x : Int) (r : List Int), 0 ≤ p → Octets l → numG f p n l = .ok (x, r) → n ≤ x ∧ x + p ≤ n + p * 128 ^ f
  | 0, _, _, _, _, _, _, _, h => by simp [numG] at h
  | _ + 1, _, _, [], _, _, _, _, h => by simp [numG] at h
  | f + 1, p, n, c :: l, x, r, hp, ho, h => by
    have hc0 : 0 ≤ c := (ho c (by simp)).1
    rw [numG] at h
    have hpow : (1 : Int) ≤ 128 ^ f := by
      have := Int.pow_pos (n := 128) (m := f) (by decide)
      omega
    have e1 : p * 128 ^ (f + 1) = p * 128 * 128 ^ f := by rw [Int.pow_succ, Int.mul_assoc, Int.mul_comm (128 ^ f)]
    by_cases hc : c < 128
    · rw [if_pos hc] at h
      by_cases h0 : c = 0 ∧ f < 4
      · rw [if_pos h0] at h; cases h
      · rw [if_neg h0] at h
        injection h with h
        injection h with h1 h2
        have q1 : 0 ≤ p * c := Int.mul_nonneg hp hc0
        have q2 : p * c ≤ p * 127 := Int.mul_le_mul_of_nonneg_left (by omega) hp
        have q3 : p * 128 * 1 ≤ p * 128 * 128 ^ f := Int.mul_le_mul_of_nonneg_left hpow (by omega)
        rw [e1]
        omega
    · rw [if_neg hc] at h
      have := numG_bd f _ _ l x r (by omega) (fun y hy => ho y (by simp [hy])) h
      have q1 : 0 ≤ p * (c % 128) := Int.mul_nonneg hp (by omega)
      have q2 : p * (c % 128) ≤ p * 127 := Int.mul_le_mul_of_nonneg_left (by omega) hp
      rw [e1]
      omega

/-- What was written is read. -/
theorem numG_of : ∀ (f g : Nat) (p n x : Int) (r : List Int), 0 ≤ x → x < 128 ^ f → f ≤ g + 1 → f ≤ 5 → 1 ≤ x ∨ f = 5 → numG f p n (numF g x ++ r) = .ok (n + p * x, r)
  | 0, _, _, _, x, _, h0, h1, _, _, h4 => by simp at h1; omega
  | f + 1, g, p, n, x, r, h0, h1, h2, h3, h4 => by
    by_cases hx : x < 128
    · have e : numF g x = [x] := by cases g <;> simp [numF, hx]
      rw [e, List.singleton_append, numG, if_pos hx, if_neg (by omega)]
    · cases g with
      | zero =>
        obtain rfl : f = 0 := by omega
        simp at h1
        omega
      | succ g =>
        have hd : x / 128 < 128 ^ f := by rw [Int.pow_succ] at h1; exact Int.ediv_lt_of_lt_mul (by omega) (by omega)
        have ih := numG_of f g (p * 128) (n + p * (x % 128)) (x / 128) r (by omega) hd (by omega) (by omega) (by omega)
        rw [numF, if_neg hx, List.cons_append, numG, if_neg (by omega), show (128 + x % 128) % 128 = x % 128 by omega, ih]
        have hx2 : x = x % 128 + 128 * (x / 128) := by omega
        congr 2
        have : p * x = p * (x % 128) + p * 128 * (x / 128) := by
          conv => lhs; rw [hx2]
          rw [Int.mul_add, Int.mul_assoc]
        omega

/-- What is read was written so. -/
theorem numG_is : ∀ (f g : Nat) (p n : Int) (l : List Int) (x : Int) (r : List Int), Octets l → f ≤ g + 1 → f ≤ 5 → numG f p n l = .ok (x, r) → ∃ y, x = n + p * y ∧ l = numF g y ++ r ∧ 0 ≤ y ∧ (f < 5 → 1 ≤ y)
  | 0, _, _, _, _, _, _, _, _, _, h => by simp [numG] at h
  | _ + 1, _, _, _, [], _, _, _, _, _, h => by simp [numG] at h
  | f + 1, g, p, n, c :: l, x, r, ho, hg, hf, h => by
    have hc0 := ho c (by simp)
    rw [numG] at h
    by_cases hc : c < 128
    · rw [if_pos hc] at h
      by_cases h0 : c = 0 ∧ f < 4
      · rw [if_pos h0] at h; cases h
      · rw [if_neg h0] at h
        injection h with h
        injection h with h1 h2
        have e : numF g c = [c] := by cases g <;> simp [numF, hc]
        exact ⟨c, h1.symm, by rw [e, h2]; rfl, hc0.1, by omega⟩
    · rw [if_neg hc] at h
      cases g with
      | zero =>
        obtain rfl : f = 0 := by omega
        simp [numG] at h
      | succ g =>
        obtain ⟨y, h1, h2, h3, h4⟩ := numG_is f g _ _ l x r (fun y hy => ho y (by simp [hy])) (by omega) (by omega) h
        have h5 := h4 (by omega)
        refine ⟨c % 128 + 128 * y, ?_, ?_, by omega, by omega⟩
        · rw [h1, Int.mul_add, Int.mul_assoc, Int.add_assoc]
        · rw [numF, if_neg (by omega), show 128 + (c % 128 + 128 * y) % 128 = c by omega, show (c % 128 + 128 * y) / 128 = y by omega, h2]
          rfl

/-- x | (c & 127) << 7i. -/
theorem or_seven (x c : Int) (i : Nat) (hi : i ≤ 4) (hx : 0 ≤ x ∧ x < 128 ^ i) : bits BinOp.or .i64 x (c % 128 * 128 ^ i) = x + 128 ^ i * (c % 128) := by
  have hw : ∀ n : Int, 0 ≤ n → n < 2 ^ 62 → IntKind.i64.wrap n = n := fun n h0 h1 => by rw [IntKind.wrap_i64]; omega
  have hcm : bits BinOp.or .i64 x (c % 128 * 128 ^ i) = bits BinOp.or .i64 (c % 128 * 128 ^ i) x := by simp only [bits, BitVec.or_comm]
  have hm : 0 ≤ c % 128 ∧ c % 128 ≤ 127 := by omega
  generalize c % 128 = y at *
  rw [hcm]
  match i, hi with
  | 0, _ => rw [bits_join .i64 62 (by decide) hw 0 _ x (by omega) (by omega) (by omega) hx.1 (by omega) (by omega)]; omega
  | 1, _ => rw [bits_join .i64 62 (by decide) hw 7 _ x (by omega) (by omega) (by omega) hx.1 (by omega) (by omega)]; omega
  | 2, _ => rw [bits_join .i64 62 (by decide) hw 14 _ x (by omega) (by omega) (by omega) hx.1 (by omega) (by omega)]; omega
  | 3, _ => rw [bits_join .i64 62 (by decide) hw 21 _ x (by omega) (by omega) (by omega) hx.1 (by omega) (by omega)]; omega
  | 4, _ => rw [bits_join .i64 62 (by decide) hw 28 _ x (by omega) (by omega) (by omega) hx.1 (by omega) (by omega)]; omega
end Go.Proofs.Ytlcnbepldkbkgaa.Pl

namespace Go.Proofs.Ytlcnbepldkbkgaa.Pl
open Go.ChangeShapes Go.WideShapes Go.ChangeAt Go.RowKit Go.Proofs.Ytlcnbepldkbkgaa.Kit

/-- A step, wherever its bytes stand. -/
structure Sq where
  a : Int
  b : Int
  x : Int
  zs : List Int

def rightQ (s : Sq) : Bool := rightB s.a s.b s.x s.zs.length
def putQ (s : Sq) : List Int := [s.a] ++ numB s.x ++ (if s.a = 1 then [] else numB s.b) ++ s.zs

def lastG (k n f : Int) (r : List Int) : Except Int (Sq × List Int) :=
  if n < 1 ∨ 4096 < n ∨ 2147483647 < f then .error 13
  else if k = 2 then .ok (⟨k, f, n, []⟩, r)
  else if (r.length : Int) < n then .error 2
  else .ok (⟨k, f, n, r.take n.toNat⟩, r.drop n.toNat)

/-- A step, and what stands behind; or the error. -/
def stepG : List Int → Except Int (Sq × List Int)
  | [] => .error 2
  | k :: r => if k < 1 ∨ 3 < k then .error 13 else match numG 5 1 0 r with
    | .error e => .error e
    | .ok (n, r1) => if k = 1 then lastG k n 0 r1 else match numG 5 1 0 r1 with
      | .error e => .error e
      | .ok (f, r2) => lastG k n f r2

theorem num_of (x : Int) (r : List Int) (h : 0 ≤ x ∧ x < 34359738368) : numG 5 1 0 (numB x ++ r) = .ok (x, r) := by
  have := numG_of 5 8 1 0 x r h.1 (by rw [show (128 : Int) ^ 5 = 34359738368 by decide]; exact h.2) (by omega) (by omega) (.inr rfl)
  rw [show (0 : Int) + 1 * x = x by omega] at this
  exact this

theorem num_is {l : List Int} {x : Int} {r : List Int} (ho : Octets l) (h : numG 5 1 0 l = .ok (x, r)) : l = numB x ++ r ∧ 0 ≤ x ∧ x < 34359738368 := by
  obtain ⟨y, h1, h2, h3, _⟩ := numG_is 5 8 1 0 l x r ho (by omega) (by omega) h
  obtain rfl : x = y := by omega
  have := (numG_bd 5 1 0 l x r (by omega) ho h).2
  rw [show (128 : Int) ^ 5 = 34359738368 by decide] at this
  exact ⟨h2, h3, by omega⟩

theorem octets_right {l r : List Int} (h : Octets (l ++ r)) : Octets r := fun x hx => h x (List.mem_append_right _ hx)

theorem lastG_is {k n f : Int} {r r2 : List Int} {q : Sq} (hk : 1 ≤ k ∧ k ≤ 3) (hf : 0 ≤ f) (h1 : k = 1 → f = 0) (h : lastG k n f r = .ok (q, r2)) : rightQ q = true ∧ q.a = k ∧ q.b = f ∧ q.x = n ∧ r = q.zs ++ r2 := by
  unfold lastG at h
  by_cases hn : n < 1 ∨ 4096 < n ∨ 2147483647 < f
  · rw [if_pos hn] at h; cases h
  · rw [if_neg hn] at h
    by_cases h2 : k = 2
    · rw [if_pos h2] at h
      injection h with h
      injection h with e1 e2
      subst e1 e2
      refine ⟨?_, rfl, rfl, rfl, rfl⟩
      unfold rightQ rightB
      simp
      omega
    · rw [if_neg h2] at h
      by_cases h3 : (r.length : Int) < n
      · rw [if_pos h3] at h; cases h
      · rw [if_neg h3] at h
        injection h with h
        injection h with e1 e2
        subst e1 e2
        have hl : (r.take n.toNat).length = n.toNat := by rw [List.length_take]; omega
        refine ⟨?_, rfl, rfl, rfl, (List.take_append_drop _ _).symm⟩
        unfold rightQ rightB
        rw [hl]
        simp
        omega

/-- What is read as a step was written so, and is right. -/
theorem stepG_is {l r : List Int} {q : Sq} (ho : Octets l) (h : stepG l = .ok (q, r)) : rightQ q = true ∧ l = putQ q ++ r := by
  cases l with
  | nil => cases h
  | cons k l =>
    rw [stepG] at h
    by_cases hk : k < 1 ∨ 3 < k
    · rw [if_pos hk] at h; cases h
    · rw [if_neg hk] at h
      have ho2 : Octets l := fun x hx => ho x (List.mem_cons_of_mem _ hx)
      cases hn : numG 5 1 0 l with
      | error e => rw [hn] at h; cases h
      | ok y =>
        obtain ⟨n, r1⟩ := y
        rw [hn] at h
        simp only at h
        obtain ⟨e1, _, _⟩ := num_is ho2 hn
        have ho3 : Octets r1 := octets_right (e1 ▸ ho2)
        by_cases h1 : k = 1
        · rw [if_pos h1] at h
          obtain ⟨g1, g2, g3, g4, g5⟩ := lastG_is (by omega) (by omega) (fun _ => rfl) h
          refine ⟨g1, ?_⟩
          unfold putQ
          rw [g2, if_pos h1, g4, e1, g5]
          simp
        · rw [if_neg h1] at h
          cases hf : numG 5 1 0 r1 with
          | error e => rw [hf] at h; cases h
          | ok y =>
            obtain ⟨f, r2⟩ := y
            rw [hf] at h
            simp only at h
            obtain ⟨e2, k1, k2⟩ := num_is ho3 hf
            obtain ⟨g1, g2, g3, g4, g5⟩ := lastG_is (by omega) k1 (fun h => absurd h h1) h
            refine ⟨g1, ?_⟩
            unfold putQ
            rw [g2, if_neg h1, g3, g4, e1, e2, g5]
            simp

/-- What is right is read as it was written. -/
theorem stepG_of {q : Sq} (r : List Int) (h : rightQ q = true) : stepG (putQ q ++ r) = .ok (q, r) := by
  obtain ⟨a, b, x, zs⟩ := q
  unfold rightQ rightB at h
  have hr := of_decide_eq_true h
  simp only at hr
  have hx : 0 ≤ x ∧ x < 34359738368 := by omega
  have hb : 0 ≤ b ∧ b < 34359738368 := by omega
  have hlast : lastG a x b (zs ++ r) = .ok (⟨a, b, x, zs⟩, r) := by
    unfold lastG
    rw [if_neg (by omega)]
    by_cases h2 : a = 2
    · rw [if_pos h2]
      obtain rfl : zs = [] := List.length_eq_zero_iff.1 (by omega)
      rfl
    · rw [if_neg h2, if_neg (by simp; omega)]
      have : x.toNat = zs.length := by omega
      rw [this]
      simp
  unfold putQ
  simp only [List.cons_append, List.nil_append, List.append_assoc]
  rw [stepG, if_neg (by omega), num_of x _ hx]
  simp only
  by_cases h1 : a = 1
  · rw [if_pos h1, if_pos h1, List.nil_append]
    obtain rfl : b = 0 := by omega
    exact hlast
  · rw [if_neg h1, if_neg h1, num_of b _ hb]
    exact hlast
end Go.Proofs.Ytlcnbepldkbkgaa.Pl

namespace Go.Proofs.Ytlcnbepldkbkgaa.Pl
open Go.ChangeShapes Go.WideShapes Go.ChangeAt Go.RowKit Go.Proofs.Ytlcnbepldkbkgaa.Kit

/-- What was got ahead, and what the rest tells. -/
def joinG (acc : List Sq) : Except Int (List Sq) → Except Int (List Sq)
  | .error e => .error e
  | .ok qs => .ok (acc ++ qs)

/-- A plan (at most so many steps); or the first error. -/
def getG : Nat → List Int → Except Int (List Sq)
  | _, [] => .ok []
  | 0, _ :: _ => .error 0
  | f + 1, k :: l => match stepG (k :: l) with
    | .error e => .error e
    | .ok (q, r) => joinG [q] (getG f r)

theorem joinG_joinG (a b : List Sq) (x : Except Int (List Sq)) : joinG a (joinG b x) = joinG (a ++ b) x := by
  cases x <;> simp [joinG]

theorem getG_end (acc : List Sq) (f : Nat) : joinG acc (getG f []) = .ok acc := by
  cases f <;> simp [getG, joinG]
theorem getG_no {acc : List Sq} {f : Nat} {k e : Int} {l : List Int} (h : stepG (k :: l) = .error e) : joinG acc (getG (f + 1) (k :: l)) = .error e := by
  rw [getG, h]
  rfl
theorem getG_next {acc : List Sq} {f : Nat} {k : Int} {l r : List Int} {q : Sq} (h : stepG (k :: l) = .ok (q, r)) : joinG acc (getG (f + 1) (k :: l)) = joinG (acc ++ [q]) (getG f r) := by
  rw [getG, h]
  simp only
  rw [joinG_joinG]

theorem putQ_length (q : Sq) : 1 ≤ (putQ q).length := by
  unfold putQ
  simp

theorem stepG_less {l r : List Int} {q : Sq} (ho : Octets l) (h : stepG l = .ok (q, r)) : r.length < l.length ∧ Octets r := by
  obtain ⟨_, e⟩ := stepG_is ho h
  have := putQ_length q
  refine ⟨?_, octets_right (e ▸ ho)⟩
  rw [e, List.length_append]
  omega

def putsQ (qs : List Sq) : List Int := qs.flatMap putQ

theorem getG_of : ∀ (f : Nat) (qs : List Sq), qs.all rightQ = true → qs.length ≤ f → getG f (putsQ qs) = .ok qs
  | f, [], _, _ => by cases f <;> rfl
  | 0, _ :: _, _, h => by simp at h
  | f + 1, q :: qs, h, hl => by
    simp only [List.all_cons, Bool.and_eq_true] at h
    have hs := stepG_of (putsQ qs) h.1
    have hp : putsQ (q :: qs) = putQ q ++ putsQ qs := by simp [putsQ]
    have ih := getG_of f qs h.2 (by simp at hl; omega)
    rw [hp]
    cases hq : putQ q ++ putsQ qs with
    | nil =>
      have := putQ_length q
      have h0 := congrArg List.length hq
      rw [List.length_append, List.length_nil] at h0
      omega
    | cons k l =>
      rw [hq] at hs
      rw [getG, hs]
      simp only
      rw [ih]
      rfl

theorem getG_is : ∀ (f : Nat) (l : List Int) (qs : List Sq), Octets l → getG f l = .ok qs → l = putsQ qs ∧ qs.all rightQ = true
  | f, [], qs, _, h => by
    have : qs = [] := by cases f <;> (simp [getG] at h; exact h)
    subst this
    exact ⟨rfl, rfl⟩
  | 0, _ :: _, _, _, h => by simp [getG] at h
  | f + 1, k :: l, qs, ho, h => by
    rw [getG] at h
    cases hs : stepG (k :: l) with
    | error e => rw [hs] at h; cases h
    | ok y =>
      obtain ⟨q, r⟩ := y
      rw [hs] at h
      simp only at h
      obtain ⟨g1, g2⟩ := stepG_is ho hs
      cases hg : getG f r with
      | error e => rw [hg] at h; cases h
      | ok ps =>
        rw [hg] at h
        injection h with h
        subst h
        obtain ⟨k1, k2⟩ := getG_is f r ps (stepG_less ho hs).2 hg
        refine ⟨?_, ?_⟩
        · rw [g2, k1]
          simp [putsQ]
        · simp [g1, k2]
end Go.Proofs.Ytlcnbepldkbkgaa.Pl

namespace Go.Proofs.Ytlcnbepldkbkgaa.Pl
open Go.ChangeShapes Go.WideShapes Go.ChangeAt Go.RowKit Go.Proofs.Ytlcnbepldkbkgaa.Kit

/-- The steps at A, of this program's kinds. -/
def HoldsS (w : World) (A : Option Addr) (ss : List Stp) : Prop := HoldsE (StpIn .u8 .i64 .i64 w w.heap.size) 4 w w.heap.size A ss

def rightS (s : Stp) : Bool := rightB s.a s.b s.x s.zs.length
def putS (s : Stp) : List Int := [s.a] ++ numB s.x ++ (if s.a = 1 then [] else numB s.b) ++ s.zs
def putB (ss : List Stp) : List Int := ss.flatMap putS

theorem putB_snoc (l : List Stp) (s : Stp) : putB (l ++ [s]) = putB l ++ putS s := by simp [putB]
theorem putS_length (s : Stp) : (putS s).length ≤ 20 + s.zs.length ∧ 1 ≤ (putS s).length := by
  have h1 := numB_length s.x
  have h2 := numB_length s.b
  unfold putS
  by_cases h : s.a = 1
  · rw [if_pos h]; simp; omega
  · rw [if_neg h]; simp; omega

theorem right_data {s : Stp} (h : rightS s = true) : s.zs.length ≤ 4096 := by
  unfold rightS rightB at h
  have := of_decide_eq_true h
  omega

theorem putB_bd : ∀ (ss : List Stp), ss.all rightS = true → (putB ss).length ≤ 5000 * ss.length
  | [], _ => by simp [putB]
  | s :: ss, h => by
    simp only [List.all_cons, Bool.and_eq_true] at h
    have h1 := putB_bd ss h.2
    have h2 := putS_length s
    have h3 := right_data h.1
    simp only [putB, List.flatMap_cons, List.length_append, List.length_cons] at h1 ⊢
    omega

theorem all_take {ss : List Stp} (h : ss.all rightS = true) (i : Nat) : (ss.take i).all rightS = true := by
  rw [List.all_eq_true] at h ⊢
  exact fun x hx => h x (List.mem_of_mem_take hx)

theorem take_next {ss : List Stp} {i : Nat} (h : i < ss.length) : ss.take (i + 1) = ss.take i ++ [ss[i]] := by
  rw [List.take_succ_eq_append_getElem h]

set_option maxHeartbeats 1600000 in
theorem are_any (A : Option Addr) (ss : List Stp) (c : Nat) (w : World) (hc : ss.length ≤ c) (hm : c ≤ maxLen) (hr : HoldsS w A ss) :
    Calls Try.prog 43 #[.slice A ss.length c] w (Gives (.bool (ss.all rightS)) w) := by
  unfold maxLen at hm
  cases hall : ss.all rightS with
  | true =>
    have hall' := fun (i : Nat) (h : i < ss.length) => List.all_eq_true.1 hall ss[i] (List.getElem_mem h)
    go_enter Try.func43, Try.ntmps43
    go_wp2_with fail
    go_loopw [7] (fun s wr => ∃ i : Nat, i ≤ ss.length ∧ s = .int .i64 i ∧ Below w.heap.size w wr) (fun s _ => ss.length - (intOf s).toNat)
    case atStart => exact ⟨0, Nat.zero_le _, rfl, Below.refl _ _⟩
    case round =>
      obtain ⟨i, hi, rfl, hb⟩ := hrel
      by_cases hlt : i < ss.length
      · have hri := hall' i hlt
        obtain ⟨b, off, rfl, hbl, c0, c1, c2, c3, k0, k1, k2, h1, h2, hoz, hrz⟩ := stepAt (steps_below hr hb) hlt
        unfold rightS at hri
        generalize ss[i] = s at *
        obtain ⟨a, n, x, Az, cz, zs⟩ := s
        simp only at c0 c1 c2 c3 hri
        have G := Lib.hid (fun W => hri ▸ right_any a n x Az zs.length cz W)
        clear hall' hri k0 k1 k2 h1 h2 hoz hrz
        go_wp2_with (go_at_call 45; refine (G.out _).mono ?_; rintro e w2 ⟨rfl, hb2⟩; have hb3 := (hb.alloc hb.size (.cells #[.int .u8 a, .int .i64 n, .int .i64 x, .slice Az zs.length cz] 30)).trans (hb2.mono (by simp; have := hb.size; omega)))
        go_roundw
        case rel => exact ⟨i + 1, by omega, by go_num, hb3⟩
        case measure => simp [intOf] <;> omega
      · go_wp2_with fail
        go_ret
        exact ⟨rfl, hb⟩
  | false =>
    go_enter Try.func43, Try.ntmps43
    go_wp2_with fail
    go_loopw [7] (fun s wr => ∃ i : Nat, i ≤ ss.length ∧ s = .int .i64 i ∧ (ss.take i).all rightS = true ∧ Below w.heap.size w wr) (fun s _ => ss.length - (intOf s).toNat)
    case atStart => exact ⟨0, Nat.zero_le _, rfl, by simp, Below.refl _ _⟩
    case round =>
      obtain ⟨i, hi, rfl, hpre, hb⟩ := hrel
      by_cases hlt : i < ss.length
      · obtain ⟨b, off, rfl, hbl, c0, c1, c2, c3, k0, k1, k2, h1, h2, hoz, hrz⟩ := stepAt (steps_below hr hb) hlt
        have hnext := take_next hlt
        generalize ss[i] = s at *
        cases hri : rightS s with
        | true =>
          have hpre2 : (ss.take (i + 1)).all rightS = true := by rw [hnext, List.all_append, hpre]; simp [hri]
          have HP := Lib.hid hpre2
          unfold rightS at hri
          obtain ⟨a, n, x, Az, cz, zs⟩ := s
          simp only at c0 c1 c2 c3 hri
          have G := Lib.hid (fun W => hri ▸ right_any a n x Az zs.length cz W)
          clear hri k0 k1 k2 h1 h2 hoz hrz hnext hpre hpre2
          go_wp2_with (go_at_call 45; refine (G.out _).mono ?_; rintro e w2 ⟨rfl, hb2⟩; have hb3 := (hb.alloc hb.size (.cells #[.int .u8 a, .int .i64 n, .int .i64 x, .slice Az zs.length cz] 30)).trans (hb2.mono (by simp; have := hb.size; omega)))
          go_roundw
          case rel => exact ⟨i + 1, by omega, by go_num, HP.out, hb3⟩
          case measure => simp [intOf] <;> omega
        | false =>
          unfold rightS at hri
          obtain ⟨a, n, x, Az, cz, zs⟩ := s
          simp only at c0 c1 c2 c3 hri
          have G := Lib.hid (fun W => hri ▸ right_any a n x Az zs.length cz W)
          clear hri k0 k1 k2 h1 h2 hoz hrz hnext hpre
          go_wp2_with (go_at_call 45; refine (G.out _).mono ?_; rintro e w2 ⟨rfl, hb2⟩; have hb3 := (hb.alloc hb.size (.cells #[.int .u8 a, .int .i64 n, .int .i64 x, .slice Az zs.length cz] 30)).trans (hb2.mono (by simp; have := hb.size; omega)))
          go_ret
          exact ⟨rfl, hb3⟩
      · obtain rfl : i = ss.length := by omega
        rw [List.take_of_length_le (Nat.le_refl _), hall] at hpre
        cases hpre

/-- What Put gives of right steps. -/
def PutsB (ss : List Stp) (w : World) (e : Ending) (w' : World) : Prop :=
  ∃ A c, e = .returned (.tuple #[.slice A (putB ss).length c, .int .i64 0]) ∧ Own w' w.heap.size 5 .u8 (.slice A (putB ss).length c) (putB ss) ∧ Below w.heap.size w w'

set_option maxHeartbeats 800000 in
theorem put_no (A : Option Addr) (ss : List Stp) (c : Nat) (w : World) (hc : ss.length ≤ c) (hm : c ≤ maxLen) (hr : HoldsS w A ss) (h : ss.all rightS = false) :
    Calls Try.prog 37 #[.slice A ss.length c] w (Gives (.tuple #[.slice none 0 0, .int .i64 3]) w) := by
  have G := Lib.hid (h ▸ are_any A ss c w hc hm hr)
  clear h
  go_enter Try.func37, Try.ntmps37
  go_wp2_with (go_at_call 43; refine G.out.mono ?_; rintro e w2 ⟨rfl, hb2⟩)
  go_ret2
  exact ⟨rfl, hb2⟩

set_option maxRecDepth 100000 in
set_option maxHeartbeats 6400000 in
theorem put_yes (A : Option Addr) (ss : List Stp) (c : Nat) (w : World) (hl : ss.length ≤ 5000) (hc : ss.length ≤ c) (hm : c ≤ maxLen) (hr : HoldsS w A ss) (h : ss.all rightS = true) :
    Calls Try.prog 37 #[.slice A ss.length c] w (PutsB ss w) := by
  unfold maxLen at hm
  have G := Lib.hid (h ▸ are_any A ss c w hc (by unfold maxLen; omega) hr)
  have hall := fun (i : Nat) (hi : i < ss.length) => List.all_eq_true.1 h ss[i] (List.getElem_mem hi)
  have hbd := fun (i : Nat) => putB_bd (ss.take i) (all_take h i)
  clear h
  go_enter Try.func37, Try.ntmps37
  go_wp2_with (go_at_call 43; refine G.out.mono ?_; rintro e w1 ⟨rfl, hb1⟩)
  go_loopw [4, 12] (fun v s wr => ∃ (i : Nat) (A' : Option Addr) (c' : Nat), i ≤ ss.length ∧ s = .int .i64 i ∧ v = .slice A' (putB (ss.take i)).length c' ∧ Own wr w.heap.size 5 .u8 (.slice A' (putB (ss.take i)).length c') (putB (ss.take i)) ∧ Below w.heap.size w wr) (fun _ s _ => ss.length - (intOf s).toNat)
  case atStart => exact ⟨0, none, 0, Nat.zero_le _, rfl, by simp [putB], by simpa [putB] using Own.nil w1 w.heap.size 5 .u8, hb1⟩
  case round =>
    obtain ⟨i, A', c', hi, rfl, rfl, own, hb⟩ := hrel
    by_cases hlt : i < ss.length
    · have hri := hall i hlt
      obtain ⟨b, off, rfl, hbl, c0, c1, c2, c3, k0, k1, k2, h1, h2, hoz, hrz⟩ := stepAt (steps_below hr hb) hlt
      have hnext : putB (ss.take (i + 1)) = putB (ss.take i) ++ putS ss[i] := by rw [take_next hlt, putB_snoc]
      have hbi := hbd i
      have hd := right_data hri
      rw [List.length_take] at hbi
      generalize ss[i] = s at *
      obtain ⟨a, n, x, Az, cz, zs⟩ := s
      simp only at c0 c1 c2 c3 k0 k1 k2 hrz hd
      have hps : putS ⟨a, n, x, Az, cz, zs⟩ = [a] ++ numB x ++ (if a = 1 then [] else numB n) ++ zs := rfl
      rw [hps] at hnext
      unfold rightS rightB at hri
      have hri := of_decide_eq_true hri
      simp only at hri
      generalize putB (ss.take i) = xs at *
      have hxl : xs.length ≤ 25000000 := by omega
      have hxx : 0 ≤ x ∧ x ≤ 9223372036854775807 := by omega
      have hnn : 0 ≤ n ∧ n ≤ 9223372036854775807 := by omega
      have hN1 := numB_length x
      have hN2 := numB_length n
      have HN := Lib.hid hnext
      have HR := Lib.hid hri
      clear hall hbd hri hps hnext k0 k1 k2 hbi
      have blk := Block.new wr 30 #[.int .u8 a, .int .i64 n, .int .i64 x, .slice Az zs.length cz]
      have ownA := own.alloc (.cells #[.int .u8 a, .int .i64 n, .int .i64 x, .slice Az zs.length cz] 30)
      have hbA := hb.alloc hb.size (.cells #[.int .u8 a, .int .i64 n, .int .i64 x, .slice Az zs.length cz] 30)
      have hrA := hrz.below ((Below.refl w.heap.size wr).alloc hb.size (.cells #[.int .u8 a, .int .i64 n, .int .i64 x, .slice Az zs.length cz] 30))
      go_wp2_with fail
      clear c0 c1 c2 c3 own hrz
      generalize wr.alloc (.cells #[.int .u8 a, .int .i64 n, .int .i64 x, .slice Az zs.length cz] 30) = wa at *
      have q0 : wa.cell? ⟨wr.heap.size, 0, none⟩ = some (.int .u8 a) := blk.cell 0
      have q2 : wa.cell? ⟨wr.heap.size, 2, none⟩ = some (.int .i64 x) := blk.cell 2
      have qa : ∀ o, (wa.alloc o).cell? ⟨wr.heap.size, 2, none⟩ = some (.int .i64 x) := fun o => (blk.alloc o).cell 2
      have hBa := hbA.size
      obtain ⟨ys, hys⟩ : ∃ ys, xs ++ [a] ++ numB x = ys := ⟨_, rfl⟩
      have hyl : ys.length ≤ 25000100 := by rw [← hys]; simp; omega
      have GN := Lib.hid (fun (v : Value) (W : World) (h1 : w.heap.size ≤ W.heap.size) (h2 : Own W w.heap.size 5 .u8 v (xs ++ [a])) => hys ▸ number_any w.heap.size v (xs ++ [a]) x W hxx h1 (by simp; omega) h2)
      have HY := Lib.hid hys
      clear hys
      go_cut [4] (fun v wx => ∃ (A6 : Option Addr) (c6 : Nat), v = .slice A6 ys.length c6 ∧ Own wx w.heap.size 5 .u8 (.slice A6 ys.length c6) ys ∧ Block wx wr.heap.size 30 #[.int .u8 a, .int .i64 n, .int .i64 x, .slice Az zs.length cz] ∧ Below w.heap.size wa wx)
      case first =>
        go_region_law (first
          | (refine step_append_one_drew (z := a) (by rfl) _ _ _ (by rfl) elem8 (by exact ownA) (by rfl) (by rfl) (by omega) hBa (by exact blk) (by decide) ?_; intro A5 c5 w5 own5 tu5 ne5 blk5; have s2 := blk5.cell 2; have hb5 := ownA.turned tu5 hBa; have hs5 := Nat.le_trans hBa hb5.size)
          | (go_simp; go_at_call 44; refine (GN.out _ w5 hs5 own5).mono ?_; rintro e w6 ⟨A6, c6, rfl, own6, tu6, ne6⟩; have blk6 := blk5.apart own5 (by decide) tu6; have hb6 := own5.turned tu6 hs5))
        all_goals (go_wp2_with fail; go_meet; exact ⟨A6, c6, rfl, own6, blk6, hb5.trans hb6⟩)
      case rest =>
        obtain ⟨A6, c6, rfl, own6, blk6, hb6⟩ := hcut
        clear q0 q2 qa blk ownA GN
        have q0 := blk6.cellOf 0 (u := .int .u8 a) rfl
        have q1 := blk6.cellOf 1 (u := .int .i64 n) rfl
        have q3 := blk6.cellOf 3 (u := .slice Az zs.length cz) rfl
        have hb06 := hbA.trans hb6
        have hr6 := hrA.below hb6
        have hs6 := hb06.size
        by_cases ha : a = 1
        · subst ha
          go_wp2_with (at_builtin; refine wpList_append_out (ys := zs) _ rfl _ _ _ rfl elem8 own6 rfl rfl hr6 (by omega) hs6 ?_; intro A7 c7 w7 own7 tu7 ne7)
          have hb7 := own6.turned tu7 hs6
          have hfin : putB (ss.take (i + 1)) = ys ++ zs := by rw [HN.out, if_pos rfl, ← HY.out]; simp
          go_roundw
          case rel => exact ⟨i + 1, A7, c7, by omega, by go_num, by rw [hfin]; simp, by rw [hfin]; simpa using own7, hb06.trans hb7⟩
          case measure => simp [intOf] <;> omega
        · have hne : (a != 1) = true := by simp [ha]
          obtain ⟨us, hus⟩ : ∃ us, ys ++ numB n = us := ⟨_, rfl⟩
          have hul : us.length ≤ 25000200 := by rw [← hus]; simp; omega
          have GM := Lib.hid (hus ▸ number_any w.heap.size (.slice A6 ys.length c6) ys n _ hnn hs6 (by omega) own6)
          have HU := Lib.hid hus
          clear hus
          go_wp2_with (first
            | (go_at_call 44; refine GM.out.mono ?_; rintro e w7 ⟨A7, c7, rfl, own7, tu7, ne7⟩; have blk7 := blk6.apart own6 (by decide) tu7; have hb7 := own6.turned tu7 hs6; have hr7 := hr6.below hb7; have hs7 := Nat.le_trans hs6 hb7.size; have s3 : w7.cell? ⟨wr.heap.size, 3, none⟩ = some (.slice Az zs.length cz) := blk7.cell 3)
            | (at_builtin; refine wpList_append_out (ys := zs) _ rfl _ _ _ rfl elem8 own7 rfl rfl hr7 (by omega) hs7 ?_; intro A8 c8 w8 own8 tu8 ne8))
          have hb8 := own7.turned tu8 hs7
          have hfin : putB (ss.take (i + 1)) = us ++ zs := by rw [HN.out, if_neg ha, ← HU.out, ← HY.out]; simp
          go_roundw
          case rel => exact ⟨i + 1, A8, c8, by omega, by go_num, by rw [hfin]; simp, by rw [hfin]; simpa using own8, hb06.trans (hb7.trans hb8)⟩
          case measure => simp [intOf] <;> omega
    · obtain rfl : i = ss.length := by omega
      rw [List.take_of_length_le (Nat.le_refl _)] at own
      go_wp2_with fail
      go_ret2
      exact ⟨A', c', by simp, own, hb⟩
end Go.Proofs.Ytlcnbepldkbkgaa.Pl

namespace Go.Proofs.Ytlcnbepldkbkgaa.Pl
open Go.ChangeShapes Go.WideShapes Go.ChangeAt Go.RowKit Go.Proofs.Ytlcnbepldkbkgaa.Kit

/-- An error was thrown: it is the answer. -/
def Caught (pb qb : Nat) (why : Int) (u : FrameMode) (w : World) (e : Ending) (u' : FrameMode) (w' : World) : Prop :=
  e = .returned (.tuple #[]) ∧ u' = u ∧ Block w' pb 22 #[.slice none 0 0] ∧ Block w' qb 34 #[.int .i64 why] ∧ TurnsIn (fun b => b = pb ∨ b = qb) w w'

end Go.Proofs.Ytlcnbepldkbkgaa.Pl

namespace Go.Proofs.Ytlcnbepldkbkgaa.Pl
open Go.ChangeShapes Go.WideShapes Go.ChangeAt Go.RowKit Go.Proofs.Ytlcnbepldkbkgaa.Kit

/-- A part of what a slice holds. -/
theorem holds_part {w : World} {B : Nat} {k : IntKind} {A : Option Addr} {xs : List Int} (h : Holds w B k A xs) (from_ n : Nat) : Holds w B k (A.map fun x => x.add from_) ((xs.drop from_).take n) := by
  intro hx
  simp only [List.length_take, List.length_drop] at hx
  obtain ⟨b, off, rfl, hb, hc⟩ := h (by omega)
  refine ⟨b, off + from_, by rw [Option.map_some, add_plain], hb, fun j hj => ?_⟩
  simp only [List.length_take, List.length_drop] at hj
  have := hc (from_ + j) (by omega)
  rw [Nat.add_assoc, this]
  simp [List.getD, show j < n by omega]

/-- Bytes, or an error. -/
def GivesE (zs : List Int) (why : Int) (w : World) (e : Ending) (w' : World) : Prop :=
  ∃ A c, e = .returned (.tuple #[.slice A zs.length c, .int .i64 why]) ∧ Holds w' w'.heap.size .u8 A zs ∧ zs.length ≤ c ∧ c ≤ maxLen ∧ Below w.heap.size w w'

def okRange (old : List Int) (from_ n : Int) : Bool := decide (0 ≤ from_ ∧ 0 ≤ n ∧ from_ + n ≤ old.length)
def rangeB (old : List Int) (from_ n : Int) : List Int := (old.drop from_.toNat).take n.toNat

end Go.Proofs.Ytlcnbepldkbkgaa.Pl

namespace Go.Proofs.Ytlcnbepldkbkgaa.Pl
open Go.ChangeShapes Go.WideShapes Go.ChangeAt Go.RowKit Go.Proofs.Ytlcnbepldkbkgaa.Kit

def addB (xs zs : List Int) : List Int := (List.range xs.length).map fun j => (xs.getD j 0 + zs.getD j 0) % 256
def madeO (src : Option (List Int)) (s : Stp) : Option (List Int) :=
  if s.a = 1 then some s.zs else match src with
    | none => none
    | some old => if okRange old s.b s.x = true then some (addB (rangeB old s.b s.x) s.zs) else none

def GivesH (ys : List Int) (w : World) (e : Ending) (w' : World) : Prop := ∃ A c, e = .returned (.slice A ys.length c) ∧ Holds w' w'.heap.size .u8 A ys ∧ Below w.heap.size w w'

end Go.Proofs.Ytlcnbepldkbkgaa.Pl

namespace Go.Proofs.Ytlcnbepldkbkgaa.Pl
open Go.ChangeShapes Go.WideShapes Go.ChangeAt Go.RowKit Go.Proofs.Ytlcnbepldkbkgaa.Kit

/-- The first k sums, and the rest as it was. -/
def addK (xs zs : List Int) (k : Nat) : List Int := (List.range xs.length).map fun j => if j < k then (xs.getD j 0 + zs.getD j 0) % 256 else xs.getD j 0

theorem addK_length (xs zs : List Int) (k : Nat) : (addK xs zs k).length = xs.length := by simp [addK]
theorem addK_zero (xs zs : List Int) : addK xs zs 0 = xs := by
  apply List.ext_getElem
  · simp [addK]
  · intro i h1 h2
    simp [addK, List.getD, List.getElem?_eq_getElem h2]
theorem addK_get (xs zs : List Int) (k : Nat) (h : k < xs.length) : (addK xs zs k)[k]?.getD 0 = xs.getD k 0 := by simp [addK, h]
theorem addK_next (xs zs : List Int) (k : Nat) (h : k < xs.length) : addK xs zs (k + 1) = (addK xs zs k).set k ((xs.getD k 0 + zs.getD k 0) % 256) := by
  apply List.ext_getElem?
  intro i
  by_cases hi : i < xs.length
  · rw [List.getElem?_set]
    by_cases hik : k = i
    · subst hik
      rw [if_pos rfl, if_pos (by rw [addK_length]; exact h)]
      simp [addK, h]
    · rw [if_neg hik]
      simp [addK, hi, show (i < k + 1) = (i < k) from propext ⟨fun h => by omega, fun h => by omega⟩]
  · rw [List.getElem?_eq_none (by rw [addK_length]; omega), List.getElem?_eq_none (by rw [List.length_set, addK_length]; omega)]
theorem getD_octet {xs : List Int} (h : Octets xs) (j : Nat) : 0 ≤ xs.getD j 0 ∧ xs.getD j 0 ≤ 255 := by
  have := h.at_ j
  simpa [List.getD] using this
theorem addK_all (xs zs : List Int) (ho : Octets xs) : addK xs zs zs.length = addB xs zs := by
  unfold addK addB
  apply List.map_congr_left
  intro j _
  have := getD_octet ho j
  by_cases hj : j < zs.length
  · rw [if_pos hj]
  · rw [if_neg hj, List.getD_eq_getElem?_getD (l := zs), List.getElem?_eq_none (by omega)]
    simp only [Option.getD_none]
    omega
theorem addB_length (xs zs : List Int) : (addB xs zs).length = xs.length := by simp [addB]

end Go.Proofs.Ytlcnbepldkbkgaa.Pl

namespace Go.Proofs.Ytlcnbepldkbkgaa.Pl
open Go.ChangeShapes Go.WideShapes Go.ChangeAt Go.RowKit Go.Proofs.Ytlcnbepldkbkgaa.Kit

theorem right_facts {s : Stp} (h : rightS s = true) : (1 ≤ s.x ∧ s.x ≤ 4096) ∧ (s.a = 1 ∧ s.b = 0 ∧ (s.zs.length : Int) = s.x ∨ s.a = 2 ∧ (0 ≤ s.b ∧ s.b ≤ 2147483647) ∧ s.zs.length = 0 ∨ s.a = 3 ∧ (0 ≤ s.b ∧ s.b ≤ 2147483647) ∧ (s.zs.length : Int) = s.x) := of_decide_eq_true h

def stepV (s : Stp) : Value := .agg #[.int .u8 s.a, .int .i64 s.b, .int .i64 s.x, .slice s.A s.zs.length s.cap]

def evalO (src : Option (List Int)) : List Stp → Option (List Int)
  | [] => some []
  | s :: ss => match madeO src s, evalO src ss with
    | some a, some b => some (a ++ b)
    | _, _ => none

theorem evalO_snoc (src : Option (List Int)) (s : Stp) : ∀ (l : List Stp), evalO src (l ++ [s]) = match evalO src l, madeO src s with
    | some a, some b => some (a ++ b)
    | _, _ => none
  | [] => by
    simp only [List.nil_append, evalO]
    cases madeO src s <;> simp
  | t :: l => by
    have ih := evalO_snoc src s l
    simp only [List.cons_append, evalO, ih]
    cases madeO src t <;> cases evalO src l <;> cases madeO src s <;> simp

def sumX (ss : List Stp) : Int := (ss.map (·.x)).sum
theorem sumX_snoc (l : List Stp) (s : Stp) : sumX (l ++ [s]) = sumX l + s.x := by simp [sumX]
theorem sumX_bd : ∀ (ss : List Stp), ss.all rightS = true → 0 ≤ sumX ss ∧ sumX ss ≤ 4096 * ss.length
  | [], _ => by simp [sumX]
  | s :: ss, h => by
    simp only [List.all_cons, Bool.and_eq_true] at h
    have h1 := sumX_bd ss h.2
    have h2 := (right_facts h.1).1
    simp only [sumX, List.map_cons, List.sum_cons, List.length_cons] at h1 ⊢
    omega

theorem holdsS_later {w w' : World} {A : Option Addr} {ss : List Stp} (h : HoldsS w A ss) (hb : Below w.heap.size w w') : HoldsS w' A ss := by
  intro hx
  obtain ⟨b, off, e, hlt, hc⟩ := steps_below h hb hx
  refine ⟨b, off, e, Nat.lt_of_lt_of_le hlt hb.size, fun i r hi => ?_⟩
  obtain ⟨cs, ⟨r0, r1, r2, r3, r4, r5, r6, r7⟩, h2, h3⟩ := hc i r hi
  exact ⟨cs, ⟨r0, r1, r2, r3, r4, r5, r6, r7.more hb.size⟩, h2, h3⟩

end Go.Proofs.Ytlcnbepldkbkgaa.Pl

namespace Go.Proofs.Ytlcnbepldkbkgaa.Pl
open Go.ChangeShapes Go.WideShapes Go.ChangeAt Go.RowKit Go.Proofs.Ytlcnbepldkbkgaa.Kit

/-- Behind i steps. -/
structure Made (w wr : World) (pre : List Int) (A' : Option Addr) (c' : Nat) : Prop where
  bp : Block wr w.heap.size 22 #[.slice A' pre.length c']
  bq : Block wr (w.heap.size + 1) 34 #[.int .i64 0]
  own : Own wr w.heap.size 5 .u8 (.slice A' pre.length c') pre
  below : Below w.heap.size w wr

theorem madeO_bd {src : Option (List Int)} {s : Stp} {ys : List Int} (h : madeO src s = some ys) (hr : rightS s = true) (hs : ∀ old, src = some old → old.length ≤ 1000000) : ys.length ≤ 4096 := by
  have hf := right_facts hr
  have hd := right_data hr
  unfold madeO at h
  by_cases ha : s.a = 1
  · rw [if_pos ha] at h
    injection h with h
    subst h
    exact hd
  · rw [if_neg ha] at h
    cases src with
    | none => cases h
    | some old =>
      simp only at h
      by_cases hok : okRange old s.b s.x = true
      · rw [if_pos hok] at h
        injection h with h
        subst h
        rw [addB_length]
        unfold rangeB
        simp
        omega
      · rw [if_neg hok] at h
        cases h

theorem evalO_bd (src : Option (List Int)) (hs : ∀ old, src = some old → old.length ≤ 1000000) : ∀ (ss : List Stp) (zs : List Int), ss.all rightS = true → evalO src ss = some zs → zs.length ≤ 4096 * ss.length
  | [], zs, _, h => by simp [evalO] at h; subst h; simp
  | s :: ss, zs, hr, h => by
    simp only [List.all_cons, Bool.and_eq_true] at hr
    unfold evalO at h
    cases hm : madeO src s with
    | none => rw [hm] at h; simp at h
    | some a =>
      cases he : evalO src ss with
      | none => rw [hm, he] at h; simp at h
      | some b =>
        rw [hm, he] at h
        simp only [Option.some.injEq] at h
        subst h
        have h1 := madeO_bd hm hr.1 hs
        have h2 := evalO_bd src hs ss b hr.2 he
        simp only [List.length_append, List.length_cons]
        omega

theorem evalO_front (src : Option (List Int)) : ∀ (l r : List Stp) (zs : List Int), evalO src (l ++ r) = some zs → ∃ p, evalO src l = some p
  | [], _, _, _ => ⟨[], rfl⟩
  | s :: l, r, zs, h => by
    simp only [List.cons_append, evalO] at h ⊢
    cases hm : madeO src s with
    | none => rw [hm] at h; simp at h
    | some a =>
      cases he : evalO src (l ++ r) with
      | none => rw [hm, he] at h; simp at h
      | some b =>
        obtain ⟨p, hp⟩ := evalO_front src l r b he
        exact ⟨a ++ p, by simp [hp]⟩

end Go.Proofs.Ytlcnbepldkbkgaa.Pl

namespace Go.Proofs.Ytlcnbepldkbkgaa.Pl
open Go.ChangeShapes Go.WideShapes Go.ChangeAt Go.RowKit Go.Proofs.Ytlcnbepldkbkgaa.Kit

def sqS (s : Stp) : Sq := ⟨s.a, s.b, s.x, s.zs⟩
def cellsS (s : Stp) : List Value := [.int .u8 s.a, .int .i64 s.b, .int .i64 s.x, .slice s.A s.zs.length s.cap]
def FineS (s : Stp) : Prop := (Lit.int .u8 s.a).wf = true ∧ (Lit.int .i64 s.b).wf = true ∧ (Lit.int .i64 s.x).wf = true ∧ s.zs.length ≤ s.cap ∧ s.cap ≤ maxLen ∧ Octets s.zs

/-- v is a row of steps of the call's own. -/
def OwnSteps (w : World) (B : Nat) (v : Value) (ss : List Stp) : Prop := w.ownsRow B 30 4 v ss.length (ss.flatMap cellsS)

theorem flat_get : ∀ (ss : List Stp) (i j : Nat) (s : Stp) (u : Value), ss[i]? = some s → (cellsS s)[j]? = some u → (ss.flatMap cellsS)[i * 4 + j]? = some u
  | [], i, j, s, u, h, _ => by simp at h
  | a :: ss, 0, j, s, u, h, hu => by
    simp at h
    subst h
    have hj : j < (cellsS a).length := (List.getElem?_eq_some_iff.1 hu).1
    rw [List.flatMap_cons, Nat.zero_mul, Nat.zero_add, List.getElem?_append_left hj]
    exact hu
  | a :: ss, i + 1, j, s, u, h, hu => by
    have ih := flat_get ss i j s u (by simpa using h) hu
    rw [List.flatMap_cons, List.getElem?_append_right (by simp [cellsS]; omega)]
    have e : (i + 1) * 4 + j - (cellsS a).length = i * 4 + j := by simp [cellsS]; omega
    rw [e]
    exact ih

theorem OwnSteps.nil (w : World) (B : Nat) : OwnSteps w B (.slice none 0 0) [] := World.ownsRow_nil w B _ 4
theorem OwnSteps.empty {B : Nat} (w : World) (hB : B ≤ w.heap.size) : OwnSteps (w.alloc (.cells #[] 30)) B (.slice (some ⟨w.heap.size, 0, none⟩) 0 0) [] :=
  World.ownsRow_lit (size := 4) w #[] 0 hB (Nat.zero_le _) rfl

theorem OwnSteps.holds {w : World} {B : Nat} {A : Option Addr} {n c : Nat} {ss : List Stp} (h : OwnSteps w B (.slice A n c) ss) (hg : ∀ s ∈ ss, FineS s ∧ Holds w w.heap.size .u8 s.A s.zs) :
    n = ss.length ∧ n ≤ c ∧ c ≤ maxLen ∧ HoldsS w A ss := by
  rcases h.2 with ⟨he, h0⟩ | ⟨g, cap, cur, he, hb, hg2, hnc, hcm, hcs, htake⟩
  · injection he with e1 e2 e3
    subst e1 e2 e3
    exact ⟨h0.symm, Nat.le_refl _, Nat.zero_le _, fun hx => by omega⟩
  · injection he with e1 e2 e3
    subst e1 e2 e3
    refine ⟨rfl, hnc, hcm, fun hx => ⟨g, 0, rfl, (Array.getElem?_eq_some_iff.1 hg2).1, fun i s hi => ?_⟩⟩
    obtain ⟨⟨f1, f2, f3, f4, f5, f6⟩, hh⟩ := hg s (List.mem_of_getElem? hi)
    refine ⟨cellsS s, ⟨rfl, f1, f2, f3, f4, f5, f6, hh⟩, rfl, fun j u hu => ?_⟩
    have hcell := World.ownsRow.cells h (g := g) rfl (i * 4 + j) u (flat_get ss i j s u hi hu)
    rw [add_plain] at hcell
    rw [Nat.zero_add] at hcell ⊢
    exact hcell

theorem OwnSteps.out {S : Nat → Prop} {w w' : World} {B : Nat} {v : Value} {ss : List Stp} (h : OwnSteps w B v ss) (ho : TurnsIn S w w') (hv : ∀ g, v.ownBlock = some g → ¬ S g) : OwnSteps w' B v ss := by
  rcases h.2 with ⟨rfl, h0⟩ | ⟨g, cap, cur, rfl, hbg, hg, hnc, hcm, hcs, htake⟩
  · exact ⟨h.1, .inl ⟨rfl, h0⟩⟩
  · exact ⟨h.1, .inr ⟨g, cap, cur, rfl, hbg, (ho.block g (Array.getElem?_eq_some_iff.1 hg).1 (hv g rfl)).trans hg, hnc, hcm, hcs, htake⟩⟩

theorem OwnSteps.lt {w : World} {B : Nat} {v : Value} {ss : List Stp} (h : OwnSteps w B v ss) : ∀ g, v.ownBlock = some g → B ≤ g ∧ g < w.heap.size := World.ownsRow.lt h

theorem OwnSteps.ne_block {w : World} {B g : Nat} {t : TypeId} {cs : Array Value} {v : Value} {ss : List Stp} (h : OwnSteps w B v ss) (hg : Block w g t cs) (hne : 30 ≠ t) : v.ownBlock ≠ some g := by
  rcases h.2 with ⟨rfl, _⟩ | ⟨g', cap, cur, rfl, _, hh, _⟩
  · simp [Value.ownBlock]
  · intro he
    obtain rfl : g' = g := by simpa [Value.ownBlock] using he
    unfold Block at hg
    rw [hh] at hg
    injection hg with hg
    injection hg with _ ht
    exact hne ht

/-- A row of integers and a row of steps share no block. -/
theorem OwnSteps.ne_own {w : World} {B B' : Nat} {e : TypeId} {k : IntKind} {u v : Value} {xs : List Int} {ss : List Stp} (h : OwnSteps w B v ss) (ho : Own w B' e k u xs) (hne : 30 ≠ e) : ∀ g, u.ownBlock = some g → v.ownBlock ≠ some g := by
  intro g hu
  rcases ho.2 with ⟨rfl, _⟩ | ⟨g', cap, cur, rfl, _, hh, _⟩
  · simp [Value.ownBlock] at hu
  · obtain rfl : g' = g := by simpa [Value.ownBlock] using hu
    have hB : Block w g' e cur := hh
    exact h.ne_block hB hne

theorem OwnSteps.turned {w w' : World} {B : Nat} {v : Value} {ss : List Stp} (h : OwnSteps w B v ss) (t : TurnsIn (fun b => v.ownBlock = some b) w w') (hB : B ≤ w.heap.size) : Below B w w' :=
  t.toBelow hB fun b hb he => by have := h.lt b he; omega

theorem elemS : Try.prog.underlying 26 = some (.slice 30) ∧ (Try.prog.info? 30).map (fun i => (i.zero, i.size, i.bytes)) = some (some (.agg #[.int .u8 0, .int .i64 0, .int .i64 0, .slice none 0 0]), 4, 48) := by
  constructor <;> kernel_rfl

theorem OwnSteps.alloc {w : World} {B : Nat} {v : Value} {ss : List Stp} (h : OwnSteps w B v ss) (o : Obj) : OwnSteps (w.alloc o) B v ss := World.ownsRow.alloc h o

section
variable {w : World} {B : Nat} {v : Value} {ss : List Stp}

theorem run_append_step (h : OwnSteps w B v ss) (q : Stp) (c : Nat) (hsz : ss.length ≤ 1000000) (hbase : B ≤ w.heap.size) (ty : TypeId) :
    ∃ A' c' w', (Builtin.append_ #[26, 26] ty #[v, .slice (some ⟨w.heap.size, 0, none⟩) 1 c]).run Try.prog (w.alloc (.cells (cellsS q).toArray 30)) = .ok (.slice A' (ss.length + 1) c') w' ∧
      OwnSteps w' B (.slice A' (ss.length + 1) c') (ss ++ [q]) ∧ TurnsIn (fun b => v.ownBlock = some b) w w' := by
  obtain ⟨ht, hinfo⟩ := elemS
  obtain ⟨i, hi, hz, hs, hby⟩ := info_parts hinfo
  have hnew := Block.new w 30 (cellsS q).toArray
  obtain ⟨g, cap, w', hrun, h2, h3, _, _⟩ := run_append_lies (P := Try.prog) (w.alloc (.cells (cellsS q).toArray 30)) 26 ty B 30 i _ 4 48 ht hi hz hs hby rfl (by omega) v ss.length (ss.flatMap cellsS) (h.alloc _)
    ⟨w.heap.size, 0, none⟩ 1 c (cellsS q) (by simp [cellsS]) (by
      intro j u hu
      have := World.news_of_block hnew j u (by simpa using hu)
      exact this) (by
      intro u hu
      simp [cellsS] at hu
      rcases hu with rfl | rfl | rfl | rfl <;> rfl) (by omega) (by unfold maxLen; omega) (by omega) (by simp; omega) _ rfl
  refine ⟨some ⟨g, 0, none⟩, cap, w', hrun, ?_, ((TurnsIn.refl _ w).alloc _).trans (.ofGrown h3 fun b hb => hb)⟩
  unfold OwnSteps
  rw [List.length_append, List.flatMap_append]
  simpa using h2

theorem step_append_step {ops : Array Oper} {o : Oper} {a : Act} {K : Act → World → Prop} {Q : Exit → Act → World → Prop} {E : Prop} (hg : o.guard = none) (s x : Operand)
    (ho : o.op = Op.call { callee := Callee.builtin Builtin.append, args := #[s, x], argTypes := #[26, 26] })
    (q : Stp) (hown : OwnSteps w B v ss) (hs : a.eval s = v) {c : Nat} (hx : a.eval x = .slice (some ⟨w.heap.size, 0, none⟩) 1 c) (hsz : ss.length ≤ 1000000) (hbase : B ≤ w.heap.size)
    (hK : ∀ A' c' w', OwnSteps w' B (.slice A' (ss.length + 1) c') (ss ++ [q]) → TurnsIn (fun b => v.ownBlock = some b) w w' → K (a.put o.dst (.slice A' (ss.length + 1) c')) w') :
    if Region.wanted o (yielded ops a.tmps) = true then Oper.wp Try.prog o a (w.alloc (.cells #[.int .u8 q.a, .int .i64 q.b, .int .i64 q.x, .slice q.A q.zs.length q.cap] 30)) K Q else E := by
  have hw : Region.wanted o (yielded ops a.tmps) = true := by simp [Region.wanted, hg]
  rw [if_pos hw]
  obtain ⟨A', c', w', hrun, h2, h3⟩ := run_append_step hown q c hsz hbase o.type
  have hrun' : (Builtin.append_ #[26, 26] o.type #[v, .slice (some ⟨w.heap.size, 0, none⟩) 1 c]).run Try.prog (w.alloc (.cells #[.int .u8 q.a, .int .i64 q.b, .int .i64 q.x, .slice q.A q.zs.length q.cap] 30)) = .ok (.slice A' (ss.length + 1) c') w' := hrun
  unfold Oper.wp
  simp [execOp, ho, resolve, invoke, builtin, hs, hx, hrun', Result.andThen]
  exact hK _ _ _ h2 h3

theorem wpList_append_step {ops : Array Oper} {rest : List Oper} {o : Oper} {a : Act} {Q : Exit → Act → World → Prop} (hgd : o.guard = none) (s x : Operand)
    (ho : o.op = Op.call { callee := Callee.builtin Builtin.append, args := #[s, x], argTypes := #[26, 26] })
    (q : Stp) (hown : OwnSteps w B v ss) (hs : a.eval s = v) {c : Nat} (hx : a.eval x = .slice (some ⟨w.heap.size, 0, none⟩) 1 c) (hsz : ss.length ≤ 1000000) (hbase : B ≤ w.heap.size)
    (hK : ∀ A' c' w', OwnSteps w' B (.slice A' (ss.length + 1) c') (ss ++ [q]) → TurnsIn (fun b => v.ownBlock = some b) w w' → wpList Try.prog ops Q rest (a.put o.dst (.slice A' (ss.length + 1) c')) w') :
    wpList Try.prog ops Q (o :: rest) a (w.alloc (.cells #[.int .u8 q.a, .int .i64 q.b, .int .i64 q.x, .slice q.A q.zs.length q.cap] 30)) := by
  refine wpList_plain hgd fun K hK2 => ?_
  obtain ⟨A', c', w', hrun, h2, h3⟩ := run_append_step hown q c hsz hbase o.type
  have hrun' : (Builtin.append_ #[26, 26] o.type #[v, .slice (some ⟨w.heap.size, 0, none⟩) 1 c]).run Try.prog (w.alloc (.cells #[.int .u8 q.a, .int .i64 q.b, .int .i64 q.x, .slice q.A q.zs.length q.cap] 30)) = .ok (.slice A' (ss.length + 1) c') w' := hrun
  unfold Oper.wp
  simp only [execOp, ho, resolve, invoke, builtin, Sem.run_bind, Sem.run_pure, Result.andThen_ok, List.map_toArray, List.map_cons, List.map_nil, hs, hx, hrun']
  exact hK2 _ _ (hK _ _ _ h2 h3)
end

/-- What is right and its bytes: as a step may lie in memory. -/
theorem fine_of {q : Sq} (h : rightQ q = true) (A : Option Addr) (c : Nat) (hl : q.zs.length ≤ c) (hm : c ≤ maxLen) (ho : Octets q.zs) : FineS ⟨q.a, q.b, q.x, A, c, q.zs⟩ := by
  have hf := of_decide_eq_true (h : decide _ = true)
  refine ⟨?_, ?_, ?_, hl, hm, ho⟩ <;> simp [Lit.wf, IntKind.min, IntKind.max, IntKind.signed, IntKind.bits] <;> omega
end Go.Proofs.Ytlcnbepldkbkgaa.Pl

namespace Go.Proofs.Ytlcnbepldkbkgaa.Pl
open Go.ChangeShapes Go.WideShapes Go.ChangeAt Go.RowKit Go.Proofs.Ytlcnbepldkbkgaa.Kit

theorem holds_first {w : World} {B : Nat} {k : IntKind} {A : Option Addr} {xs : List Int} (n : Nat) (h : Holds w B k A xs) : Holds w B k A (xs.take n) := by
  intro hx
  rw [List.length_take] at hx
  obtain ⟨b, off, rfl, hb, hcs⟩ := h (by omega)
  refine ⟨b, off, rfl, hb, fun j hj => ?_⟩
  rw [List.length_take] at hj
  rw [hcs j (by omega)]
  simp [List.getD, List.getElem?_take, show j < n by omega]

theorem holds_from {w : World} {B : Nat} {k : IntKind} {A : Option Addr} {c q : Nat} {xs : List Int} (h : Holds w B k A xs) (hc : xs.length ≤ c) : Holds w B k (if c = q then A else A.map fun x => x.add q) (xs.drop q) := by
  intro hx
  rw [List.length_drop] at hx
  obtain ⟨b, off, rfl, hb, hcs⟩ := h (by omega)
  rw [if_neg (by omega)]
  refine ⟨b, off + q, by simp only [Option.map_some, Addr.add]; split <;> simp_all, hb, fun j hj => ?_⟩
  rw [List.length_drop] at hj
  rw [Nat.add_assoc, hcs (q + j) (by omega)]
  simp [List.getD]

end Go.Proofs.Ytlcnbepldkbkgaa.Pl

namespace Go.Proofs.Ytlcnbepldkbkgaa.Pl
open Go.ChangeShapes Go.WideShapes Go.ChangeAt Go.RowKit Go.Proofs.Ytlcnbepldkbkgaa.Kit

theorem or_in (x c : Int) (i : Nat) (hi : i ≤ 4) (hx : 0 ≤ x ∧ x < 128 ^ i) : bits BinOp.or .i64 x (wrap64 (bits BinOp.and .i64 c 127 * 2 ^ (7 * i))) = x + 128 ^ i * (c % 128) := by
  rw [i64_and127, ← or_seven x c i hi hx]
  have h1 : (2 : Int) ^ (7 * i) = 128 ^ i := by rw [Int.pow_mul]; rfl
  have h2 : 0 ≤ c % 128 ∧ c % 128 ≤ 127 := by omega
  have h3 : (128 : Int) ^ i ≤ 128 ^ 4 := (show ∀ j, j < 5 → (128 : Int) ^ j ≤ 128 ^ 4 by decide) i (by omega)
  have h4 : (0 : Int) < 128 ^ i := Int.pow_pos (by decide)
  have h5 : 0 ≤ c % 128 * 128 ^ i := Int.mul_nonneg h2.1 (by omega)
  have h6 : c % 128 * 128 ^ i ≤ 127 * 128 ^ 4 := Int.mul_le_mul h2.2 h3 (by omega) (by decide)
  rw [h1, ← IntWalk.i64_left, IntKind.wrap_i64]
  congr 1
  omega

end Go.Proofs.Ytlcnbepldkbkgaa.Pl

namespace Go.Proofs.Ytlcnbepldkbkgaa.Pl
open Go.ChangeShapes Go.WideShapes Go.ChangeAt Go.RowKit Go.Proofs.Ytlcnbepldkbkgaa.Kit

def numV (n : Nat) : Except Int (Int × List Int) → Value
  | .ok (x, l) => .tuple #[.int .i64 x, .int .i64 ((n : Int) - (l.length : Int)), .int .i64 0]
  | .error why => .tuple #[.int .i64 0, .int .i64 0, .int .i64 why]

theorem wrap64_in {x : Int} (h : -9223372036854775808 ≤ x ∧ x ≤ 9223372036854775807) : wrap64 x = x := by
  rw [← IntWalk.i64_left, IntKind.wrap_i64]
  omega

theorem ret_num {a b c a' b' c' : Int} (h1 : a = a') (h2 : b = b') (h3 : c = c') : Ending.returned (.tuple #[.int .i64 a, .int .i64 b, .int .i64 c]) = .returned (.tuple #[.int .i64 a', .int .i64 b', .int .i64 c']) := by rw [h1, h2, h3]

end Go.Proofs.Ytlcnbepldkbkgaa.Pl

namespace Go.Proofs.Ytlcnbepldkbkgaa.Pl
open Go.ChangeShapes Go.WideShapes Go.ChangeAt Go.RowKit Go.Proofs.Ytlcnbepldkbkgaa.Kit

end Go.Proofs.Ytlcnbepldkbkgaa.Pl

namespace Go.Proofs.Ytlcnbepldkbkgaa.Pl
open Go.ChangeShapes Go.WideShapes Go.ChangeAt Go.RowKit Go.Proofs.Ytlcnbepldkbkgaa.Kit

end Go.Proofs.Ytlcnbepldkbkgaa.Pl

namespace Go.Proofs.Ytlcnbepldkbkgaa.Pl
open Go.ChangeShapes Go.WideShapes Go.ChangeAt Go.RowKit Go.Proofs.Ytlcnbepldkbkgaa.Kit

end Go.Proofs.Ytlcnbepldkbkgaa.Pl

namespace Go.Proofs.Ytlcnbepldkbkgaa.Pl
open Go.ChangeShapes Go.WideShapes Go.ChangeAt Go.RowKit Go.Proofs.Ytlcnbepldkbkgaa.Kit

end Go.Proofs.Ytlcnbepldkbkgaa.Pl

namespace Go.Proofs.Ytlcnbepldkbkgaa.Pl
open Go.ChangeShapes Go.WideShapes Go.ChangeAt Go.RowKit Go.Proofs.Ytlcnbepldkbkgaa.Kit

end Go.Proofs.Ytlcnbepldkbkgaa.Pl

namespace Go.Proofs.Ytlcnbepldkbkgaa.Pl
open Go.ChangeShapes Go.WideShapes Go.ChangeAt Go.RowKit Go.Proofs.Ytlcnbepldkbkgaa.Kit

theorem split_at_ {l : List Int} {n : Int} (h1 : 1 ≤ n) (h2 : ¬ (l.length : Int) < n) : ∃ ys r : List Int, l = ys ++ r ∧ n = ys.length ∧ l.take n.toNat = ys ∧ l.drop n.toNat = r :=
  ⟨l.take n.toNat, l.drop n.toNat, (List.take_append_drop _ _).symm, by rw [List.length_take]; omega, rfl, rfl⟩

end Go.Proofs.Ytlcnbepldkbkgaa.Pl

namespace Go.Proofs.Ytlcnbepldkbkgaa.Pl
open Go.ChangeShapes Go.WideShapes Go.ChangeAt Go.RowKit Go.Proofs.Ytlcnbepldkbkgaa.Kit

end Go.Proofs.Ytlcnbepldkbkgaa.Pl

namespace Go.Proofs.Ytlcnbepldkbkgaa.Pl
open Go.ChangeShapes Go.WideShapes Go.ChangeAt Go.RowKit Go.Proofs.Ytlcnbepldkbkgaa.Kit

end Go.Proofs.Ytlcnbepldkbkgaa.Pl

namespace Go.Proofs.Ytlcnbepldkbkgaa.Pl
open Go.ChangeShapes Go.WideShapes Go.ChangeAt Go.RowKit Go.Proofs.Ytlcnbepldkbkgaa.Kit

/-- What is told: a plan, or an error. -/
def GivesP (qs : List Sq) (why : Int) (w : World) (e : Ending) (w' : World) : Prop :=
  ∃ A c ss, e = .returned (.tuple #[.slice A (List.length ss) c, .int .i64 why]) ∧ ss.map sqS = qs ∧ ss.length ≤ c ∧ c ≤ maxLen ∧ HoldsS w' A ss ∧ Below w.heap.size w w'

def tellG : Except Int (List Sq) → List Sq × Int
  | .ok qs => (qs, 0)
  | .error e => ([], e)

/-- What bytes tell, with a most. -/
def getA (xs : List Int) (most : Int) : List Sq × Int := if most < xs.length then ([], 12) else tellG (getG xs.length xs)

/-- How many bytes are still to be taken. -/
def restLen (w : World) (r : Nat) : Nat := match w.cell? ⟨r, 0, none⟩ with
  | some (.slice _ n _) => n
  | _ => 0

end Go.Proofs.Ytlcnbepldkbkgaa.Pl

namespace Go.Proofs.Ytlcnbepldkbkgaa.Pl
open Go.ChangeShapes Go.WideShapes Go.ChangeAt Go.RowKit Go.Proofs.Ytlcnbepldkbkgaa.Kit

def DTold (B n : Nat) (w : World) (res : Except Int (Sq × List Int)) (e : Ending) (w' : World) : Prop :=
  Below w.heap.size w w' ∧ match res with
  | .ok (q, l) => ∃ A c, e = .returned (.tuple #[.agg #[.int .u8 q.a, .int .i64 q.b, .int .i64 q.x, .slice A q.zs.length c], .int .i64 ((n - l.length : Nat) : Int), .int .i64 0]) ∧ q.zs.length ≤ c ∧ c ≤ maxLen ∧ Holds w B .u8 A q.zs
  | .error why => ∃ a b x, e = .returned (.tuple #[.agg #[.int .u8 a, .int .i64 b, .int .i64 x, .slice none 0 0], .int .i64 0, .int .i64 why])

theorem drop_cons {xs l : List Int} {i : Nat} {k : Int} (h : xs.drop i = k :: l) : i < xs.length ∧ xs.getD i 0 = k ∧ xs.drop (i + 1) = l := by
  have h1 : i < xs.length := by
    have := congrArg List.length h
    simp at this
    omega
  refine ⟨h1, ?_, ?_⟩
  · have := congrArg (fun z => z[0]?) h
    simp at this
    simp [List.getD, this]
  · have := congrArg (List.drop 1) h
    simpa [List.drop_drop] using this

theorem drop_tail {xs p r : List Int} {i : Nat} (h : xs.drop i = p ++ r) : r.length ≤ xs.length ∧ xs.drop (xs.length - r.length) = r := by
  have e : xs = (xs.take i ++ p) ++ r := by rw [List.append_assoc, ← h, List.take_append_drop]
  have hl := congrArg List.length e
  rw [List.length_append] at hl
  refine ⟨by omega, ?_⟩
  have hl2 : xs.length - r.length = (xs.take i ++ p).length := by omega
  rw [hl2]
  exact (congrArg (List.drop (xs.take i ++ p).length) e).trans List.drop_left

theorem numG_err : ∀ (f : Nat) (p x : Int) (l : List Int) (e : Int), numG f p x l = .error e → e = 2 ∨ e = 13
  | 0, p, x, l, e, h => by
    simp [numG] at h
    omega
  | f + 1, p, x, [], e, h => by
    simp [numG] at h
    omega
  | f + 1, p, x, c :: l, e, h => by
    rw [numG] at h
    split at h
    · split at h
      · injection h with h
        omega
      · cases h
    · exact numG_err f _ _ l e h

end Go.Proofs.Ytlcnbepldkbkgaa.Pl

namespace Go.Proofs.Ytlcnbepldkbkgaa.Pl
open Go.ChangeShapes Go.WideShapes Go.ChangeAt Go.RowKit Go.Proofs.Ytlcnbepldkbkgaa.Kit

end Go.Proofs.Ytlcnbepldkbkgaa.Pl

namespace Go.Proofs.Ytlcnbepldkbkgaa.Pl
open Go.ChangeShapes Go.WideShapes Go.ChangeAt Go.RowKit Go.Proofs.Ytlcnbepldkbkgaa.Kit

theorem _root_.Go.Proofs.Ytlcnbepldkbkgaa.Kit.Block.drew1 {w : World} {g : Nat} {t : TypeId} {cs : Array Value} (h : Block w g t cs) : Block w.drew g t cs := h

end Go.Proofs.Ytlcnbepldkbkgaa.Pl

namespace Go.Proofs.Ytlcnbepldkbkgaa.Pl
open Go.ChangeShapes Go.WideShapes Go.ChangeAt Go.RowKit Go.Proofs.Ytlcnbepldkbkgaa.Kit

end Go.Proofs.Ytlcnbepldkbkgaa.Pl

namespace Go.Proofs.Ytlcnbepldkbkgaa.Pl
open Go.ChangeShapes Go.WideShapes Go.ChangeAt Go.RowKit Go.Proofs.Ytlcnbepldkbkgaa.Kit

/-- No bytes, and an error. -/
def GivesNo (why : Int) (w : World) (e : Ending) (w' : World) : Prop := ∃ A c, e = .returned (.tuple #[.slice A 0 c, .int .i64 why]) ∧ Below w.heap.size w w'

theorem GivesNo.to {why : Int} {w w' : World} {e : Ending} (h : GivesNo why w e w') (hc : ∀ A c, e = .returned (.tuple #[.slice A 0 c, .int .i64 why]) → c ≤ maxLen) : GivesE [] why w e w' := by
  obtain ⟨A, c, he, hb⟩ := h
  exact ⟨A, c, he, Holds.nil, Nat.zero_le _, hc A c he, hb⟩

set_option maxRecDepth 100000 in
set_option maxHeartbeats 3200000 in
theorem reval_form (A : Option Addr) (ss : List Stp) (c : Nat) (Ao : Option Addr) (old : List Int) (co : Nat) (want : Int) (w : World) (hl : ss.length ≤ 5000) (hc : ss.length ≤ c) (hm : c ≤ maxLen) (hr : HoldsS w A ss) (h : ss.all rightS = false) :
    Calls Try.prog 15 #[.slice A ss.length c, .slice Ao old.length co, .int .i64 want] w (GivesE [] 3 w) := by
  have hb0 : Below w.heap.size w (w.alloc (.cells #[] 5)) := (Below.refl _ _).alloc (Nat.le_refl _) _
  unfold maxLen at hm
  go_enter Try.func15, Try.ntmps15
  go_wp2_with fail
  go_loopw [9, 19] (fun t s wr => ∃ (i : Nat) (n : Int), i ≤ ss.length ∧ s = .int .i64 i ∧ t = .int .i64 n ∧ 0 ≤ n ∧ n ≤ 4096 * i ∧ (ss.take i).all rightS = true ∧ Below w.heap.size w wr) (fun _ s _ => ss.length - (intOf s).toNat)
  case atStart => exact ⟨0, 0, Nat.zero_le _, rfl, rfl, by omega, by omega, by simp, hb0⟩
  case round =>
    obtain ⟨i, n, hi, rfl, rfl, hn0, hn1, hpre, hb⟩ := hrel
    by_cases hlt : i < ss.length
    · obtain ⟨b, off, rfl, hbl, c0, c1, c2, c3, k0, k1, k2, h1, h2, hoz, hrz⟩ := stepAt (steps_below hr hb) hlt
      have hnext := take_next hlt
      generalize ss[i] = s at *
      cases hri : rightS s with
      | true =>
        have hf := (right_facts hri).1
        have hpre2 : (ss.take (i + 1)).all rightS = true := by rw [hnext, List.all_append, hpre]; simp [hri]
        have HP := Lib.hid hpre2
        unfold rightS at hri
        obtain ⟨a, f, x, Az, cz, zs⟩ := s
        simp only at c0 c1 c2 c3 hri hf
        have G := Lib.hid (fun W => hri ▸ rright_any a f x Az zs.length cz W)
        clear hri k0 k1 k2 h1 h2 hoz hrz hnext hpre hpre2
        by_cases hle : n ≤ want
        · go_wp2_with (go_at_call 20; refine (G.out _).mono ?_; rintro e w2 ⟨rfl, hb2⟩; have hb3 := hb.trans (hb2.mono hb.size); have d2 := (hb2.cell (p := ⟨b, off + i * 4 + 2, none⟩) (by show b < _; have := hb.size; omega)).trans c2)
          go_roundw
          case rel => exact ⟨i + 1, n + x, by omega, by go_num, rfl, by omega, by omega, HP.out, hb3⟩
          case measure => simp [intOf] <;> omega
        · have hd : decide (n ≤ want) = false := decide_eq_false hle
          go_wp2_with (go_at_call 20; refine (G.out _).mono ?_; rintro e w2 ⟨rfl, hb2⟩; have hb3 := hb.trans (hb2.mono hb.size))
          go_roundw
          case rel => exact ⟨i + 1, n, by omega, by go_num, rfl, by omega, by omega, HP.out, hb3⟩
          case measure => simp [intOf] <;> omega
      | false =>
        unfold rightS at hri
        obtain ⟨a, f, x, Az, cz, zs⟩ := s
        simp only at c0 c1 c2 c3 hri
        have G := Lib.hid (fun W => hri ▸ rright_any a f x Az zs.length cz W)
        clear hri k0 k1 k2 h1 h2 hoz hrz hnext hpre
        go_wp2_with (go_at_call 20; refine (G.out _).mono ?_; rintro e w2 ⟨rfl, hb2⟩; have hb3 := hb.trans (hb2.mono hb.size))
        go_ret2
        exact ⟨_, 0, rfl, Holds.nil, Nat.zero_le _, Nat.zero_le _, hb3⟩
    · obtain rfl : i = ss.length := by omega
      rw [List.take_of_length_le (Nat.le_refl _), h] at hpre
      cases hpre

/-- What the document's sum is, behind some steps. -/
def SumIs (want n S : Int) : Prop := n = S ∨ (want < n ∧ want < S ∧ n ≤ S)

theorem sum_next {want n S x : Int} (h : SumIs want n S) (hx : 1 ≤ x) (hle : n ≤ want) : SumIs want (n + x) (S + x) := by
  rcases h with rfl | h
  · exact .inl rfl
  · omega
theorem sum_stay {want n S x : Int} (h : SumIs want n S) (hx : 1 ≤ x) (hle : ¬ n ≤ want) : SumIs want n (S + x) := by
  rcases h with rfl | h
  · exact .inr ⟨by omega, by omega, by omega⟩
  · exact .inr ⟨by omega, by omega, by omega⟩
theorem sum_end {want n S : Int} (h : SumIs want n S) : n = want ↔ S = want := by
  rcases h with rfl | h
  · exact Iff.rfl
  · constructor <;> intro _ <;> omega


theorem addB_get {old us : List Int} {f k j : Nat} (hj : j < k) (hk : f + k ≤ old.length) : (addB ((old.drop f).take k) us)[j]? = some ((old.getD (f + j) 0 + us.getD j 0) % 256) := by
  have hl : ((old.drop f).take k).length = k := by simp; omega
  unfold addB
  rw [hl]
  simp [hj, List.getD, List.getElem?_take, List.getElem?_drop]

theorem take_snoc {ys : List Int} {j : Nat} {z : Int} (h : ys[j]? = some z) : ys.take (j + 1) = ys.take j ++ [z] := by
  rw [List.take_add_one, h]
  rfl

set_option maxRecDepth 100000 in
set_option maxHeartbeats 6400000 in
theorem reval_right (A : Option Addr) (ss : List Stp) (c : Nat) (Ao : Option Addr) (old : List Int) (co : Nat) (want : Int) (w : World) (hl : ss.length ≤ 5000) (hc : ss.length ≤ c) (hm : c ≤ maxLen) (hr : HoldsS w A ss) (h : ss.all rightS = true)
    (hlo : old.length ≤ 1000000) (hco : old.length ≤ co) (hmo : co ≤ maxLen) (hoo : Octets old) (hro : Holds w w.heap.size .u8 Ao old) (zs : List Int) (why : Int)
    (hz : (sumX ss ≠ want ∧ zs = [] ∧ why = 13) ∨ (sumX ss = want ∧ evalO (some old) ss = none ∧ zs = [] ∧ why = 5) ∨ (sumX ss = want ∧ evalO (some old) ss = some zs ∧ why = 0)) :
    Calls Try.prog 15 #[.slice A ss.length c, .slice Ao old.length co, .int .i64 want] w (GivesE zs why w) := by
  have hb0 : Below w.heap.size w (w.alloc (.cells #[] 5)) := (Below.refl _ _).alloc (Nat.le_refl _) _
  have hall := fun (i : Nat) (hi : i < ss.length) => List.all_eq_true.1 h ss[i] (List.getElem_mem hi)
  have hbd := fun (i : Nat) => sumX_bd (ss.take i) (all_take h i)
  have hlb := fun (i : Nat) (pre : List Int) => evalO_bd (some old) (fun o ho => by injection ho with ho; subst ho; exact hlo) (ss.take i) pre (all_take h i)
  unfold maxLen at hm
  have HZ := Lib.hid hz
  clear h hz
  go_enter Try.func15, Try.ntmps15
  go_wp2_with fail
  go_loopw [9, 19] (fun t s wr => ∃ (i : Nat) (n : Int), i ≤ ss.length ∧ s = .int .i64 i ∧ t = .int .i64 n ∧ 0 ≤ n ∧ n ≤ 4096 * i ∧ SumIs want n (sumX (ss.take i)) ∧ Below w.heap.size w wr) (fun _ s _ => ss.length - (intOf s).toNat)
  case atStart => exact ⟨0, 0, Nat.zero_le _, rfl, rfl, by omega, by omega, .inl (by simp [sumX]), hb0⟩
  case round =>
    obtain ⟨i, n, hi, rfl, rfl, hn0, hn1, hsum, hb⟩ := hrel
    by_cases hlt : i < ss.length
    · obtain ⟨b, off, rfl, hbl, c0, c1, c2, c3, k0, k1, k2, h1, h2, hoz, hrz⟩ := stepAt (steps_below hr hb) hlt
      have hri := hall i hlt
      have hnext : sumX (ss.take (i + 1)) = sumX (ss.take i) + ss[i].x := by rw [take_next hlt, sumX_snoc]
      generalize ss[i] = s at *
      have hf := (right_facts hri).1
      unfold rightS at hri
      obtain ⟨a, f, x, Az, cz, us⟩ := s
      simp only at c0 c1 c2 c3 hri hf hnext
      have G := Lib.hid (fun W => hri ▸ rright_any a f x Az us.length cz W)
      have HS := Lib.hid hsum
      have HN := Lib.hid hnext
      clear hri k0 k1 k2 h1 h2 hoz hrz hnext hsum hall hbd hlb
      by_cases hle : n ≤ want
      · go_wp2_with (go_at_call 20; refine (G.out _).mono ?_; rintro e w2 ⟨rfl, hb2⟩; have hb3 := hb.trans (hb2.mono hb.size); have d2 := (hb2.cell (p := ⟨b, off + i * 4 + 2, none⟩) (by show b < _; have := hb.size; omega)).trans c2)
        go_roundw
        case rel => exact ⟨i + 1, n + x, by omega, by go_num, rfl, by omega, by omega, by rw [HN.out]; exact sum_next HS.out hf.1 hle, hb3⟩
        case measure => simp [intOf] <;> omega
      · have hd : decide (n ≤ want) = false := decide_eq_false hle
        go_wp2_with (go_at_call 20; refine (G.out _).mono ?_; rintro e w2 ⟨rfl, hb2⟩; have hb3 := hb.trans (hb2.mono hb.size))
        go_roundw
        case rel => exact ⟨i + 1, n, by omega, by go_num, rfl, by omega, by omega, by rw [HN.out]; exact sum_stay HS.out hf.1 (by omega), hb3⟩
        case measure => simp [intOf] <;> omega
    · obtain rfl : i = ss.length := by omega
      rw [List.take_of_length_le (Nat.le_refl _)] at hsum
      have hend := sum_end hsum
      by_cases hw : n = want
      · have hsw := hend.1 hw
        subst hw
        have hne : (n != n) = false := by simp
        have own0 := Own.empty (B := w.heap.size) wr 5 .u8 hb.size
        have hb1 := hb.alloc hb.size (.cells #[] 5)
        clear hend hsum hbd
        go_wp2_with fail
        go_loopw [11, 47] (fun v s wx => ∃ (i : Nat) (pre : List Int) (A' : Option Addr) (c' : Nat), i ≤ ss.length ∧ s = .int .i64 i ∧ v = .slice A' pre.length c' ∧ evalO (some old) (ss.take i) = some pre ∧ Own wx w.heap.size 5 .u8 (.slice A' pre.length c') pre ∧ Below w.heap.size w wx) (fun _ s _ => ss.length - (intOf s).toNat)
        case atStart => exact ⟨0, [], _, _, Nat.zero_le _, rfl, rfl, by simp [evalO], own0, hb1⟩
        case round =>
          obtain ⟨i, pre, A', c', hi, rfl, rfl, hpre, own, hb⟩ := hrel
          have hpl := hlb i pre hpre
          rw [List.length_take] at hpl
          by_cases hlt : i < ss.length
          · have hri := hall i hlt
            have hnext := evalO_snoc (some old) ss[i] (ss.take i)
            rw [← take_next hlt, hpre] at hnext
            obtain ⟨b, off, rfl, hbl, c0, c1, c2, c3, k0, k1, k2, h1, h2, hoz, hrz⟩ := stepAt (steps_below hr hb) hlt
            have hf := right_facts hri
            cases hm2 : madeO (some old) ss[i] with
            | none =>
              rw [hm2] at hnext
              have hev : evalO (some old) ss = none := by
                cases he : evalO (some old) ss with
                | none => rfl
                | some q =>
                  obtain ⟨p, hp⟩ := evalO_front (some old) (ss.take (i + 1)) (ss.drop (i + 1)) q (by rw [List.take_append_drop]; exact he)
                  rw [hp] at hnext
                  cases hnext
              obtain ⟨rfl, rfl⟩ : zs = [] ∧ why = 5 := by
                rcases HZ.out with hz | hz | hz
                · exact absurd hsw hz.1
                · exact hz.2.2
                · rw [hev] at hz; cases hz.2.1
              unfold madeO at hm2
              generalize ss[i] = s at *
              obtain ⟨a, f, x, Az, cz, us⟩ := s
              simp only at c0 c1 c2 c3 hf hm2
              have ha : a ≠ 1 := fun ha => by rw [if_pos ha] at hm2; cases hm2
              rw [if_neg ha] at hm2
              have hok : ¬ okRange old f x = true := fun hok => by rw [if_pos hok] at hm2; cases hm2
              have hok : ¬ (0 ≤ f ∧ 0 ≤ x ∧ f + x ≤ old.length) := by simpa [okRange] using hok
              have hab : (a == 1) = false := by rw [beq_eq_false_iff_ne]; exact ha
              have hbA := hb.alloc hb.size (.cells #[.int .u8 a, .int .i64 f, .int .i64 x, .slice Az us.length cz] 30)
              have hff : (0 ≤ f ∧ f ≤ 2147483647) ∧ (1 ≤ x ∧ x ≤ 4096) := by omega
              clear k0 k1 k2 h1 h2 hoz hrz hall hlb hri hm2 hpre hnext hev HZ hsw ha hf
              by_cases hfo : (old.length : Int) < f
              · go_wp2_with fail
                go_ret2
                exact ⟨_, 0, rfl, Holds.nil, Nat.zero_le _, Nat.zero_le _, hbA⟩
              · have hxo : (old.length : Int) - f < x := by omega
                clear hok
                go_wp2_with fail
                go_ret2
                exact ⟨_, 0, rfl, Holds.nil, Nat.zero_le _, Nat.zero_le _, hbA⟩
            | some ys =>
              rw [hm2] at hnext
              have hyl := madeO_bd hm2 hri (fun o ho => by injection ho with ho; subst ho; exact hlo)
              unfold madeO at hm2
              generalize ss[i] = s at *
              obtain ⟨a, f, x, Az, cz, us⟩ := s
              simp only at c0 c1 c2 c3 hf hm2 hnext hrz hoz
              have HN := Lib.hid hnext
              have hbA := hb.alloc hb.size (.cells #[.int .u8 a, .int .i64 f, .int .i64 x, .slice Az us.length cz] 30)
              have hrA := hrz.below ((Below.refl w.heap.size wr).alloc hb.size (.cells #[.int .u8 a, .int .i64 f, .int .i64 x, .slice Az us.length cz] 30))
              have blk := Block.new wr 30 #[.int .u8 a, .int .i64 f, .int .i64 x, .slice Az us.length cz]
              have ownA := own.alloc (.cells #[.int .u8 a, .int .i64 f, .int .i64 x, .slice Az us.length cz] 30)
              have hsA : w.heap.size ≤ (wr.alloc (.cells #[.int .u8 a, .int .i64 f, .int .i64 x, .slice Az us.length cz] 30)).heap.size := hbA.size
              by_cases ha : a = 1
              · subst ha
                rw [if_pos rfl] at hm2
                injection hm2 with hm2
                subst hm2
                clear k0 k1 k2 h1 h2 hoz hrz hall hlb hri hpre hnext HZ hsw hf
                go_wp2_with (have _t := ownA; at_builtin; refine wpList_append_out (ys := us) _ rfl _ _ _ rfl elem8 ownA rfl rfl hrA (by omega) hsA ?_; clear _t; intro A5 c5 w5 own5 t5 n5; have hb5 := hbA.trans (ownA.turned t5 hsA))
                go_roundw
                case rel =>
                  refine ⟨i + 1, pre ++ us, A5, c5, by omega, by go_num, by simp, HN.out, ?_, hb5⟩
                  rw [List.length_append]
                  exact own5
                case measure => simp [intOf] <;> omega
              · rw [if_neg ha] at hm2
                by_cases hok : okRange old f x = true
                · rw [if_pos hok] at hm2
                  injection hm2 with hm2
                  have hk := of_decide_eq_true hok
                  obtain ⟨f, rfl⟩ := Int.eq_ofNat_of_zero_le hk.1
                  obtain ⟨k, rfl⟩ := Int.eq_ofNat_of_zero_le hk.2.1
                  have hfk : f + k ≤ old.length := by omega
                  have hget := fun (j : Nat) (hj : j < k) => addB_get (old := old) (us := us) (f := f) (k := k) hj hfk
                  have hyk : ys.length = k := by rw [← hm2, addB_length]; simp [rangeB]; omega
                  have hget : ∀ j < k, ys[j]? = some ((old.getD (f + j) 0 + us.getD j 0) % 256) := fun j hj => by rw [← hm2]; exact hget j hj
                  have HG := Lib.hid hget
                  have hab : (a == 1) = false := by rw [beq_eq_false_iff_ne]; exact ha
                  have hfo : ¬ (old.length : Int) < f := by omega
                  have hxo : ¬ (old.length : Int) - f < k := by omega
                  have hu : a = 3 ∧ us.length = k ∨ (a == 3) = false ∧ us = [] := by
                    rcases hf.2 with h | h | h
                    · exact absurd h.1 ha
                    · exact .inr ⟨by rw [h.1]; rfl, List.length_eq_zero_iff.1 h.2.2⟩
                    · exact .inl ⟨h.1, by omega⟩
                  have HU := Lib.hid hu
                  have hroA := hro.below hbA
                  clear k0 k1 k2 h1 h2 hrz hall hlb hri hpre hnext HZ hsw hf hk hok hm2 hget hu
                  go_wp2_with fail
                  go_loopw [11, 14] (fun v s wy => ∃ (j : Nat) (A6 : Option Addr) (c6 : Nat), j ≤ k ∧ s = .int .i64 j ∧ v = .slice A6 (pre.length + j) c6 ∧ Own wy w.heap.size 5 .u8 (.slice A6 (pre.length + j) c6) (pre ++ ys.take j) ∧ Block wy wr.heap.size 30 #[.int .u8 a, .int .i64 f, .int .i64 k, .slice Az us.length cz] ∧ Below w.heap.size w wy ∧ Holds wy w.heap.size .u8 Az us) (fun _ s _ => k - (intOf s).toNat)
                  case atStart => exact ⟨0, A', c', Nat.zero_le _, rfl, rfl, by simpa using ownA, blk, hbA, hrA⟩
                  case round =>
                    obtain ⟨j, A6, c6, hj, rfl, rfl, own6, blk6, hb6, hb7⟩ := hrel
                    have q0 := blk6.cellOf 0 (u := .int .u8 a) rfl
                    have q1 := blk6.cellOf 1 (u := .int .i64 f) rfl
                    have q2 := blk6.cellOf 2 (u := .int .i64 k) rfl
                    have q3 := blk6.cellOf 3 (u := .slice Az us.length cz) rfl
                    have hpk : (pre ++ ys.take j).length = pre.length + j := by rw [List.length_append, List.length_take]; omega
                    by_cases hjk : j < k
                    · obtain ⟨bo, oo, rfl, hbo, hco2⟩ := (hro.below hb6) (by omega)
                      have d0 := hco2 (f + j) (by omega)
                      have hzj := HG.out j hjk
                      have hto := take_snoc hzj
                      have ho1 := getD_octet hoo (f + j)
                      have hz1 := getD_octet hoz j
                      have hfj : (f : Int) + j < old.length := by omega
                      have HT := Lib.hid hto
                      have hs6 := hb6.size
                      rcases HU.out with ⟨rfl, hul⟩ | ⟨h3, rfl⟩
                      · obtain ⟨bu, ou, rfl, hbu, hcu⟩ := hb7 (by omega)
                        have d1 := hcu j (by omega)
                        have hju : (j : Int) < (us.length : Int) := by omega
                        generalize old.getD (f + j) 0 = y at *
                        generalize us.getD j 0 = z at *
                        clear hco2 hto hzj HG hcu
                        go_wp2_with (at_builtin; refine wpList_append_one_out (xs := pre ++ ys.take j) (z := (y + z) % 256) _ rfl _ _ _ rfl elem8 own6 rfl rfl (by omega) hs6 ?_; intro A5 c5 w5 own5 t5 n5)
                        go_roundw
                        case rel =>
                          have hb5 := own6.turned t5 hs6
                          have blk5 := blk6.apart own6 (by decide) t5
                          rw [hul] at blk5
                          refine ⟨j + 1, by omega, by go_num, A5, c5, ⟨rfl, by omega, rfl⟩, ?_, blk5, hb6.trans hb5, hb7.below hb5⟩
                          rw [HT.out, ← List.append_assoc]
                          rw [hpk] at own5
                          exact own5
                        case measure => simp [intOf] <;> omega
                      · have hzz : (old.getD (f + j) 0 + ([] : List Int).getD j 0) % 256 = old.getD (f + j) 0 := by rw [show ([] : List Int).getD j 0 = 0 from rfl]; omega
                        rw [hzz] at hto hzj
                        have HT := Lib.hid hto
                        generalize old.getD (f + j) 0 = y at *
                        clear hco2 hto hzj hzz HG
                        go_wp2_with (at_builtin; refine wpList_append_one_out (xs := pre ++ ys.take j) (z := y) _ rfl _ _ _ rfl elem8 own6 rfl rfl (by omega) hs6 ?_; intro A5 c5 w5 own5 t5 n5)
                        go_roundw
                        case rel =>
                          have hb5 := own6.turned t5 hs6
                          refine ⟨j + 1, by omega, by go_num, A5, c5, ⟨rfl, by omega, rfl⟩, ?_, blk6.apart own6 (by decide) t5, hb6.trans hb5, Holds.nil⟩
                          rw [HT.out, ← List.append_assoc]
                          rw [hpk] at own5
                          exact own5
                        case measure => simp [intOf] <;> omega
                    · obtain rfl : j = k := by omega
                      rw [List.take_of_length_le (by omega)] at own6
                      clear HG HU
                      go_wp2_with fail
                      go_roundw
                      case rel => exact ⟨i + 1, pre ++ ys, A6, c6, by omega, by go_num, by simp [hyk], HN.out, by rw [List.length_append, hyk]; exact own6, hb6⟩
                      case measure => simp [intOf] <;> omega
                · rw [if_neg hok] at hm2
                  cases hm2
          · obtain rfl : i = ss.length := by omega
            rw [List.take_of_length_le (Nat.le_refl _)] at hpre
            obtain ⟨rfl, rfl⟩ : zs = pre ∧ why = 0 := by
              rcases HZ.out with hz | hz | hz
              · exact absurd hsw hz.1
              · rw [hpre] at hz; cases hz.2.1
              · rw [hpre] at hz; injection hz.2.1 with hz1; exact ⟨hz1.symm, hz.2.2⟩
            clear HZ hall hlb hpre hpl hsw
            obtain ⟨A7, c7, hv7, hl7, hm7, hr7⟩ := own.opened
            injection hv7 with e1 e2 e3
            subst e1 e3
            go_wp2_with fail
            go_ret2
            exact ⟨A', c', rfl, hr7, hl7, hm7, hb⟩
      · have hne : (n != want) = true := by simpa using hw
        have hz := HZ.out
        have hsw : sumX ss ≠ want := fun h => hw (hend.2 h)
        obtain ⟨_, rfl, rfl⟩ : sumX ss ≠ want ∧ zs = [] ∧ why = 13 := by
          rcases hz with hz | hz | hz
          · exact hz
          · exact absurd hz.1 hsw
          · exact absurd hz.1 hsw
        clear hend hsum hall hbd hlb hz hsw hw HZ
        go_wp2_with fail
        go_ret2
        exact ⟨_, 0, rfl, Holds.nil, Nat.zero_le _, Nat.zero_le _, hb⟩
end Go.Proofs.Ytlcnbepldkbkgaa.Pl

namespace Go.Proofs.Ytlcnbepldkbkgaa.Pl
open Go.ChangeShapes Go.WideShapes Go.ChangeAt Go.RowKit Go.Proofs.Ytlcnbepldkbkgaa.Kit

theorem conv_any (w : World) (A : Option Addr) (xs : List Int) (c B : Nat) (hr : Holds w B .u8 A xs) :
    (convert 22 9 (.slice A xs.length c)).run Try.prog w = .ok (.string (strOfNums xs)) w := conv_bytes Try.underlying22 Try.underlying5 Try.underlying9 w A xs c B hr

/-- More steps, or more bytes in one, than are gone through. -/
def greatB (ss : List Stp) : Bool := decide (60 < ss.length) || ss.any fun s => decide (5000 < s.zs.length)

theorem great_no {ss : List Stp} (h : greatB ss = false) : ss.length ≤ 60 ∧ ∀ s ∈ ss, s.zs.length ≤ 5000 := by
  unfold greatB at h
  rw [Bool.or_eq_false_iff] at h
  refine ⟨by have := of_decide_eq_false h.1; omega, fun s hs => ?_⟩
  have := of_decide_eq_false ((List.any_eq_false.1 h.2 s hs |> Bool.eq_false_iff.2))
  omega

/-- A slice of one step. -/
theorem one_step {W : World} {g : Nat} {a n x : Int} {A : Option Addr} {zs : List Int} {c : Nat} (hb : Block W g 30 #[.int .u8 a, .int .i64 n, .int .i64 x, .slice A zs.length c])
    (h0 : (Lit.int .u8 a).wf = true) (h1 : (Lit.int .i64 n).wf = true) (h2 : (Lit.int .i64 x).wf = true) (hl : zs.length ≤ c) (hm : c ≤ maxLen) (ho : Octets zs) (hr : Holds W W.heap.size .u8 A zs) : HoldsS W (some ⟨g, 0, none⟩) [⟨a, n, x, A, c, zs⟩] := by
  intro _
  refine ⟨g, 0, rfl, hb.lt, fun i r hi => ?_⟩
  match i, hi with
  | 0, hi =>
    injection hi with hi
    subst hi
    refine ⟨_, ⟨rfl, h0, h1, h2, hl, hm, ho, hr⟩, rfl, fun j u hj => ?_⟩
    have := hb.cell j
    match j, hj with
    | 0, hj | 1, hj | 2, hj | 3, hj => rw [← hj]; exact this

theorem holds_block {W : World} {g : Nat} {t : TypeId} {zs : List Int} (hb : Block W g t (zs.map (Value.int .u8)).toArray) : Holds W W.heap.size .u8 (some ⟨g, 0, none⟩) zs := by
  intro _
  refine ⟨g, 0, rfl, hb.lt, fun j hj => ?_⟩
  have := hb.cell j
  simpa [List.getD, List.getElem?_eq_getElem hj] using this

theorem holds_marked {w : World} {t : TypeId} {zs : List Int} (m : Nat × Nat) (o : Obj) : Holds ((w.alloc (.cells (zs.map (Value.int .u8)).toArray t m)).alloc o) ((w.alloc (.cells (zs.map (Value.int .u8)).toArray t m)).alloc o).heap.size .u8 (some ⟨w.heap.size, 0, none⟩) zs := by
  intro _
  refine ⟨w.heap.size, 0, rfl, by simp; omega, fun j hj => Lib.cell?_alloc_marked o ?_⟩
  have := World.cell?_alloc_mark w (zs.map (Value.int .u8)).toArray t m j
  simpa [List.getD, List.getElem?_eq_getElem hj] using this

end Go.Proofs.Ytlcnbepldkbkgaa.Pl

namespace Go.Proofs.Ytlcnbepldkbkgaa.Pl
open Go.ChangeShapes Go.WideShapes Go.ChangeAt Go.RowKit Go.Proofs.Ytlcnbepldkbkgaa.Kit

theorem stepG_err {l : List Int} {why : Int} (h : stepG l = .error why) : why = 2 ∨ why = 13 := by
  cases l with
  | nil => injection h with h; omega
  | cons k r =>
    rw [stepG] at h
    split at h
    · injection h with h; omega
    · cases hn : numG 5 1 0 r with
      | error e =>
        rw [hn] at h
        injection h with h
        subst h
        exact numG_err _ _ _ _ _ hn
      | ok y =>
        obtain ⟨n, r1⟩ := y
        rw [hn] at h
        simp only at h
        have last : ∀ (f : Int) (r2 : List Int), lastG k n f r2 = .error why → why = 2 ∨ why = 13 := by
          intro f r2 h
          unfold lastG at h
          split at h
          · injection h with h; omega
          · split at h
            · cases h
            · split at h
              · injection h with h; omega
              · cases h
        split at h
        · exact last _ _ h
        · cases hf : numG 5 1 0 r1 with
          | error e =>
            rw [hf] at h
            injection h with h
            subst h
            exact numG_err _ _ _ _ _ hf
          | ok y =>
            obtain ⟨f, r2⟩ := y
            rw [hf] at h
            exact last _ _ h

theorem OwnSteps.below {w w' : World} {B : Nat} {v : Value} {ss : List Stp} (h : OwnSteps w B v ss) (hb : Below w.heap.size w w') : OwnSteps w' B v ss :=
  h.out (TurnsIn.ofNew (S := fun _ => False) hb) fun _ _ h => h

set_option maxRecDepth 100000 in
set_option maxHeartbeats 3200000 in
theorem same_any (A1 : Option Addr) (s1 : List Stp) (c1 : Nat) (A2 : Option Addr) (s2 : List Stp) (c2 : Nat) (w : World) (h : s1.map sqS = s2.map sqS) (hl : s1.length ≤ 1000000) (hc1 : s1.length ≤ c1) (hm1 : c1 ≤ maxLen) (hc2 : s2.length ≤ c2) (hm2 : c2 ≤ maxLen) (hr1 : HoldsS w A1 s1) (hr2 : HoldsS w A2 s2) :
    Calls Try.prog 12 #[.slice A1 s1.length c1, .slice A2 s2.length c2] w (Gives (.bool true) w) := by
  have hll : s2.length = s1.length := by
    have := congrArg List.length h
    simpa using this.symm
  rw [hll]
  rw [hll] at hc2
  have HL := Lib.hid hll
  have HH := Lib.hid h
  clear hll h
  unfold maxLen at hm1 hm2
  go_enter Try.func12, Try.ntmps12
  go_wp2_with fail
  go_loopw [13] (fun s wx => ∃ i : Nat, i ≤ s1.length ∧ s = .int .i64 i ∧ Below w.heap.size w wx) (fun s _ => s1.length - (intOf s).toNat)
  case atStart => exact ⟨0, Nat.zero_le _, rfl, Below.refl _ _⟩
  case round =>
    obtain ⟨i, hi, rfl, hb⟩ := hrel
    by_cases hlt : i < s1.length
    · have hlt2 : i < s2.length := by rw [HL.out]; exact hlt
      have he : sqS s1[i] = sqS s2[i] := by
        have h1 : (s1.map sqS)[i]? = (s2.map sqS)[i]? := by rw [HH.out]
        simpa [List.getElem?_eq_getElem hlt, List.getElem?_eq_getElem hlt2] using h1
      obtain ⟨b, off, rfl, hbl, c0, c1', c2', c3, _, _, _, _, _, _, hrz⟩ := stepAt (steps_below hr1 hb) hlt
      obtain ⟨b', off', rfl, hbl', d0, d1, d2, d3, _, _, _, _, _, _, hrz'⟩ := stepAt (steps_below hr2 hb) hlt2
      generalize s1[i] = s at *
      generalize s2[i] = s' at *
      obtain ⟨a, n, x, Az, cz, us⟩ := s
      obtain ⟨a', n', x', Az', cz', us'⟩ := s'
      injection he with e1 e2 e3 e4
      subst e1 e2 e3 e4
      simp only at c0 c1' c2' c3 d0 d1 d2 d3 hrz hrz'
      have f1 := fun k => conv_any (wr.drewN k) Az us cz _ hrz
      have f2 := fun k => conv_any (wr.drewN k) Az' us cz' _ hrz'
      have k1 : (a != a) = false := by simp
      have k2 : (n != n) = false := by simp
      have k3 : (x != x) = false := by simp
      clear hr1 hr2 hrz hrz'
      go_upto_region 6 with (fail)
      go_quiet (fail)
      go_wp2_with fail
      go_roundw
      case rel => exact ⟨i + 1, by omega, by go_num, below_draws hb _⟩
      case measure => simp [intOf] <;> omega
    · obtain rfl : i = s1.length := by omega
      go_wp2_with fail
      go_ret
      exact ⟨rfl, hb⟩
end Go.Proofs.Ytlcnbepldkbkgaa.Pl

namespace Go.Proofs.Ytlcnbepldkbkgaa.Pl
open Go.ChangeShapes Go.WideShapes Go.ChangeAt Go.RowKit Go.Proofs.Ytlcnbepldkbkgaa.Kit

def GivesO (xs : List Int) (w : World) (e : Ending) (w' : World) : Prop :=
  ∃ A c, e = .returned (.slice A xs.length c) ∧ Own w' w.heap.size 5 .u8 (.slice A xs.length c) xs ∧ Below w.heap.size w w'

set_option maxHeartbeats 1600000 in
theorem rnumber_any (x : Int) (w : World) (hx : 0 ≤ x ∧ x ≤ 9223372036854775807) : Calls Try.prog 21 #[.int .i64 x] w (GivesO (numB x) w) := by
  have hN := (numB_length x).2
  have hp9 : x < 128 ^ (8 + 1) := by
    have h : (128 : Int) ^ (8 + 1) = 9223372036854775808 := by decide
    omega
  have own0 := Own.empty (B := w.heap.size) w 5 .u8 (Nat.le_refl _)
  have hb0 : Below w.heap.size w (w.alloc (.cells #[] 5)) := (Below.refl _ _).alloc (Nat.le_refl _) _
  go_enter Try.func21, Try.ntmps21
  go_wp2_with fail
  go_loopw [0, 3] (fun s u wr => ∃ (f : Nat) (y : Int) (zs : List Int) (A' : Option Addr) (c' : Nat), s = .int .i64 y ∧ u = .slice A' zs.length c' ∧ 0 ≤ y ∧ y ≤ x ∧ y < 128 ^ (f + 1) ∧ zs ++ numF f y = numB x ∧ zs.length + f ≤ 8 ∧
    Own wr w.heap.size 5 .u8 (.slice A' zs.length c') zs ∧ Below w.heap.size w wr) (fun s _ _ => (intOf s).toNat)
  case atStart => exact ⟨8, x, [], _, _, rfl, rfl, hx.1, Int.le_refl _, hp9, rfl, by simp, own0, hb0⟩
  case round =>
    obtain ⟨f, y, zs, A', c', rfl, rfl, h0, hyx, hy, hz, hzl, own1, hb⟩ := hrel
    have hBr := hb.size
    have Hz := Lib.hid hz
    clear hz
    by_cases h128 : 127 < y
    · have hd : decide ((127 : Int) < y) = true := decide_eq_true h128
      cases f with
      | zero => simp at hy; omega
      | succ f =>
        have hnext : numF (f + 1) y = (128 + y % 128) :: numF f (y / 128) := by rw [numF, if_neg (by omega)]
        have hy2 : y / 128 < 128 ^ (f + 1) := by rw [Int.pow_succ] at hy; exact Int.ediv_lt_of_lt_mul (by omega) (by omega)
        have Hn := Lib.hid hnext
        have Hy := Lib.hid hy2
        have hq1 : Int.tmod y 128 = y % 128 := Int.tmod_eq_emod_of_nonneg h0
        have hq2 : Int.tdiv y 128 = y / 128 := Int.tdiv_eq_ediv_of_nonneg h0
        clear hnext hy hy2
        go_wp2_with (at_builtin; refine wpList_append_one_out (z := 128 + y % 128) _ rfl _ _ _ rfl elem8 own1 rfl rfl (by omega) hBr ?_; intro A5 c5 w5 own5 t5 n5)
        have hb5 := own1.turned t5 hBr
        go_roundw
        case rel => exact ⟨f, y / 128, zs ++ [128 + y % 128], A5, c5, rfl, by simp, by omega, by omega, Hy.out, by rw [← Hz.out, Hn.out]; simp, by simp; omega, by simpa using own5, hb.trans hb5⟩
        case measure => simp [intOf] <;> omega
    · have hd : decide ((127 : Int) < y) = false := decide_eq_false h128
      have hlast : numF f y = [y] := by cases f <;> simp [numF]; omega
      have Hl := Lib.hid hlast
      clear hlast
      go_wp2_with (at_builtin; refine wpList_append_one_out (z := y) _ rfl _ _ _ rfl elem8 own1 rfl rfl (by omega) hBr ?_; intro A5 c5 w5 own5 t5 n5)
      have hb5 := own1.turned t5 hBr
      go_ret
      have hq : zs ++ [y] = numB x := by rw [← Hz.out, Hl.out]
      have hq2 : zs.length + 1 = (numB x).length := by rw [← hq]; simp
      rw [hq, hq2] at own5
      rw [hq2]
      exact ⟨A5, c5, rfl, own5, hb.trans hb5⟩
end Go.Proofs.Ytlcnbepldkbkgaa.Pl

namespace Go.Proofs.Ytlcnbepldkbkgaa.Pl
open Go.ChangeShapes Go.WideShapes Go.ChangeAt Go.RowKit Go.Proofs.Ytlcnbepldkbkgaa.Kit

set_option maxRecDepth 100000 in
set_option maxHeartbeats 6400000 in
theorem rput_any (A : Option Addr) (ss : List Stp) (c : Nat) (w : World) (hl : ss.length ≤ 5000) (hc : ss.length ≤ c) (hm : c ≤ maxLen) (hr : HoldsS w A ss) (zs : List Int) (why : Int)
    (hz : (ss.all rightS = false ∧ zs = [] ∧ why = 3) ∨ (ss.all rightS = true ∧ zs = putB ss ∧ why = 0)) :
    Calls Try.prog 16 #[.slice A ss.length c] w (GivesE zs why w) := by
  have own0 := Own.empty (B := w.heap.size) w 5 .u8 (Nat.le_refl _)
  have hb0 : Below w.heap.size w (w.alloc (.cells #[] 5)) := (Below.refl _ _).alloc (Nat.le_refl _) _
  have HZ := Lib.hid hz
  have hbd := fun (i : Nat) (h : (ss.take i).all rightS = true) => putB_bd (ss.take i) h
  clear hz
  unfold maxLen at hm
  go_enter Try.func16, Try.ntmps16
  go_wp2_with fail
  go_loopw [4, 12] (fun v s wr => ∃ (i : Nat) (xs : List Int) (A' : Option Addr) (c' : Nat), i ≤ ss.length ∧ s = .int .i64 i ∧ (ss.take i).all rightS = true ∧ putB (ss.take i) = xs ∧ v = .slice A' xs.length c' ∧ Own wr w.heap.size 5 .u8 (.slice A' xs.length c') xs ∧ Below w.heap.size w wr) (fun _ s _ => ss.length - (intOf s).toNat)
  case atStart => exact ⟨0, [], _, _, Nat.zero_le _, rfl, by simp, by simp [putB], rfl, own0, hb0⟩
  case round =>
    obtain ⟨i, xs, A', c', hi, rfl, hpre, hxs, rfl, own, hb⟩ := hrel
    by_cases hlt : i < ss.length
    · obtain ⟨b, off, rfl, hbl, c0, c1, c2, c3, k0, k1, k2, h1, h2, hoz, hrz⟩ := stepAt (steps_below hr hb) hlt
      have hbi := hbd i hpre
      rw [List.length_take, hxs] at hbi
      have hnext := take_next hlt
      have hmem := List.getElem_mem hlt
      generalize ss[i] = s at *
      cases hri : rightS s with
      | false =>
        have hall : ss.all rightS = false := by
          rw [Bool.eq_false_iff]
          intro h
          rw [List.all_eq_true.1 h s hmem] at hri
          cases hri
        obtain ⟨rfl, rfl⟩ : zs = [] ∧ why = 3 := by
          rcases HZ.out with h | h
          · exact h.2
          · rw [hall] at h; cases h.1
        unfold rightS at hri
        obtain ⟨a, n, x, Az, cz, us⟩ := s
        simp only at c0 c1 c2 c3 hri
        have G := Lib.hid (fun W => hri ▸ rright_any a n x Az us.length cz W)
        have hbA := hb.alloc hb.size (.cells #[.int .u8 a, .int .i64 n, .int .i64 x, .slice Az us.length cz] 30)
        clear hri k0 k1 k2 h1 h2 hoz hrz hnext hpre hall hmem hbd hbi hxs HZ
        go_wp2_with (go_at_call 20; refine (G.out _).mono ?_; rintro e w2 ⟨rfl, hb2⟩; have hb3 := hbA.trans (hb2.mono hbA.size))
        go_ret2
        exact ⟨_, 0, rfl, Holds.nil, Nat.zero_le _, Nat.zero_le _, hb3.alloc hb3.size _⟩
      | true =>
        have hpre2 : (ss.take (i + 1)).all rightS = true := by rw [hnext, List.all_append, hpre]; simp [hri]
        have HP := Lib.hid hpre2
        have hput : putB (ss.take (i + 1)) = xs ++ putS s := by rw [hnext, putB_snoc, hxs]
        have hd := right_data hri
        have hf := right_facts hri
        unfold rightS at hri
        obtain ⟨a, n, x, Az, cz, us⟩ := s
        simp only at c0 c1 c2 c3 hri hrz hd hf
        have hps : putS ⟨a, n, x, Az, cz, us⟩ = [a] ++ numB x ++ (if a = 1 then [] else numB n) ++ us := rfl
        rw [hps] at hput
        have HN := Lib.hid hput
        have G := Lib.hid (fun W => hri ▸ rright_any a n x Az us.length cz W)
        have hxx : 0 ≤ x ∧ x ≤ 9223372036854775807 := by omega
        have hnn : 0 ≤ n ∧ n ≤ 9223372036854775807 := by omega
        have ha3 : 1 ≤ a ∧ a ≤ 3 := by omega
        have hN1 := numB_length x
        have hN2 := numB_length n
        have blk := Block.new wr 30 #[.int .u8 a, .int .i64 n, .int .i64 x, .slice Az us.length cz]
        have ownA := own.alloc (.cells #[.int .u8 a, .int .i64 n, .int .i64 x, .slice Az us.length cz] 30)
        have hbA := hb.alloc hb.size (.cells #[.int .u8 a, .int .i64 n, .int .i64 x, .slice Az us.length cz] 30)
        have hrA := hrz.below ((Below.refl w.heap.size wr).alloc hb.size (.cells #[.int .u8 a, .int .i64 n, .int .i64 x, .slice Az us.length cz] 30))
        clear hri k0 k1 k2 h1 h2 hoz hrz hnext hpre hmem hbd hxs HZ hps hput hpre2 hf
        by_cases ha : a = 1
        · subst ha
          have hfin := HN.out
          rw [if_pos rfl, List.append_nil] at hfin
          have HF := Lib.hid hfin
          clear hfin
          go_wp2_with (first
            | (go_at_call 20; refine (G.out _).mono ?_; rintro e w2 ⟨rfl, hb2⟩; have own2 := ownA.below hb2; have blk2 := blk.below hb2 blk.lt; have r2 := hrA.below (hb2.mono hbA.size); have hb3 := hbA.trans (hb2.mono hbA.size); have hs3 := hb3.size; have q0 := blk2.cellOf 0 (u := .int .u8 1) rfl)
            | (have _t := own2; at_builtin; refine wpList_append_one_out (z := 1) _ rfl _ _ _ rfl elem8 own2 rfl rfl (by omega) hs3 ?_; clear _t; intro A4 c4 w4 own4 t4 n4; have blk4 := blk2.apart own2 (by decide) t4; have hb4 := own2.turned t4 hs3; have hb04 := hb3.trans hb4; have r4 := r2.below hb4; have hs4 := hb04.size; have p2 := blk4.cellOf 2 (u := .int .i64 x) rfl; clear own2)
            | (have _t := own4; go_at_call 21; refine (rnumber_any x _ hxx).mono ?_; clear _t; rintro e w5 ⟨A5, c5, rfl, own5, hb5⟩; have own4' := own4.below hb5; have blk5 := blk4.below hb5 blk4.lt; have hb05 := hb04.trans (hb5.mono hs4); have r5 := r4.below (hb5.mono hs4); have hs5 := hb05.size; obtain ⟨_, _, e5, _, _, hr5⟩ := own5.opened; injection e5 with e6 e7 e8; subst e6 e8; clear own4)
            | (have _t := own4'; at_builtin; refine wpList_append_out (ys := numB x) _ rfl _ _ _ rfl elem8 own4' rfl rfl hr5 (by simp; omega) hs5 ?_; clear _t; intro A6 c6 w6 own6 t6 n6; obtain ⟨y6, hy6⟩ : ∃ y, xs ++ [1] ++ numB x = y := ⟨_, rfl⟩; have e6 : (xs ++ [1]).length + (numB x).length = y6.length := (by rw [← hy6]; exact List.length_append.symm); have hy6l : y6.length ≤ 26000000 := (by rw [← hy6]; simp; omega); rw [e6, hy6] at own6; rw [e6]; have HY := Lib.hid hy6; clear hy6 e6; have blk6 := blk5.apart own4' (by decide) t6; have hb6 := own4'.turned t6 hs5; have hb06 := hb05.trans hb6; have r6 := r5.below hb6; have hs6 := hb06.size; have u0 := blk6.cellOf 0 (u := .int .u8 1) rfl; have u1 := blk6.cellOf 1 (u := .int .i64 n) rfl; have u3 := blk6.cellOf 3 (u := .slice Az us.length cz) rfl; clear own4')
            | (have _t := own6; at_builtin; refine wpList_append_out (ys := us) _ rfl _ _ _ rfl elem8 own6 rfl rfl r6 (by omega) hs6 ?_; clear _t; intro A9 c9 w9 own9 t9 n9; have hb9 := hb06.trans (own6.turned t9 hs6); clear own6))
          go_roundw
          case rel =>
            exact ⟨i + 1, y6 ++ us, A9, c9, by omega, by go_num, HP.out, by rw [HF.out, ← HY.out]; simp, by simp [Nat.add_assoc], by simpa [Nat.add_assoc] using own9, hb9⟩

          case measure => simp [intOf] <;> omega
        · have h1a : decide ((1 : Int) < a) = true := decide_eq_true (by omega)
          have hfin := HN.out
          rw [if_neg ha] at hfin
          have HF := Lib.hid hfin
          clear hfin
          go_wp2_with (first
            | (go_at_call 20; refine (G.out _).mono ?_; rintro e w2 ⟨rfl, hb2⟩; have own2 := ownA.below hb2; have blk2 := blk.below hb2 blk.lt; have r2 := hrA.below (hb2.mono hbA.size); have hb3 := hbA.trans (hb2.mono hbA.size); have hs3 := hb3.size; have q0 := blk2.cellOf 0 (u := .int .u8 a) rfl)
            | (have _t := own2; at_builtin; refine wpList_append_one_out (z := a) _ rfl _ _ _ rfl elem8 own2 rfl rfl (by omega) hs3 ?_; clear _t; intro A4 c4 w4 own4 t4 n4; have blk4 := blk2.apart own2 (by decide) t4; have hb4 := own2.turned t4 hs3; have hb04 := hb3.trans hb4; have r4 := r2.below hb4; have hs4 := hb04.size; have p2 := blk4.cellOf 2 (u := .int .i64 x) rfl; clear own2)
            | (have _t := own4; go_at_call 21; refine (rnumber_any x _ hxx).mono ?_; clear _t; rintro e w5 ⟨A5, c5, rfl, own5, hb5⟩; have own4' := own4.below hb5; have blk5 := blk4.below hb5 blk4.lt; have hb05 := hb04.trans (hb5.mono hs4); have r5 := r4.below (hb5.mono hs4); have hs5 := hb05.size; obtain ⟨_, _, e5, _, _, hr5⟩ := own5.opened; injection e5 with e6 e7 e8; subst e6 e8; clear own4)
            | (have _t := own4'; at_builtin; refine wpList_append_out (ys := numB x) _ rfl _ _ _ rfl elem8 own4' rfl rfl hr5 (by simp; omega) hs5 ?_; clear _t; intro A6 c6 w6 own6 t6 n6; obtain ⟨y6, hy6⟩ : ∃ y, xs ++ [a] ++ numB x = y := ⟨_, rfl⟩; have e6 : (xs ++ [a]).length + (numB x).length = y6.length := (by rw [← hy6]; exact List.length_append.symm); have hy6l : y6.length ≤ 26000000 := (by rw [← hy6]; simp; omega); rw [e6, hy6] at own6; rw [e6]; have HY := Lib.hid hy6; clear hy6 e6; have blk6 := blk5.apart own4' (by decide) t6; have hb6 := own4'.turned t6 hs5; have hb06 := hb05.trans hb6; have r6 := r5.below hb6; have hs6 := hb06.size; have u0 := blk6.cellOf 0 (u := .int .u8 a) rfl; have u1 := blk6.cellOf 1 (u := .int .i64 n) rfl; have u3 := blk6.cellOf 3 (u := .slice Az us.length cz) rfl; clear own4')
            | (have _t := own6; go_at_call 21; refine (rnumber_any n _ hnn).mono ?_; clear _t; rintro e w7 ⟨A7, c7, rfl, own7, hb7⟩; have own6' := own6.below hb7; have blk7 := blk6.below hb7 blk6.lt; have hb07 := hb06.trans (hb7.mono hs6); have r7 := r6.below (hb7.mono hs6); have hs7 := hb07.size; obtain ⟨_, _, e5, _, _, hr7⟩ := own7.opened; injection e5 with e6 e7 e8; subst e6 e8; clear own6)
            | (have _t := own6'; at_builtin; refine wpList_append_out (ys := numB n) _ rfl _ _ _ rfl elem8 own6' rfl rfl hr7 (by omega) hs7 ?_; clear _t; intro A8 c8 w8 own8 t8 n8;  have blk8 := blk7.apart own6' (by decide) t8; have hb8 := own6'.turned t8 hs7; have hb08 := hb07.trans hb8; have r8 := r7.below hb8; have hs8 := hb08.size; have u8 := blk8.cellOf 3 (u := .slice Az us.length cz) rfl; clear own6')
            | (have _t := own8; at_builtin; refine wpList_append_out (ys := us) _ rfl _ _ _ rfl elem8 own8 rfl rfl r8 (by simp only [List.length_append]; omega) hs8 ?_; clear _t; intro A9 c9 w9 own9 t9 n9; have hb9 := hb08.trans (own8.turned t9 hs8); clear own8))
          go_roundw
          case rel =>
            exact ⟨i + 1, y6 ++ numB n ++ us, A9, c9, by omega, by go_num, HP.out, by rw [HF.out, ← HY.out]; simp, by simp [Nat.add_assoc], by simpa [Nat.add_assoc] using own9, hb9⟩

          case measure => simp [intOf] <;> omega
    · obtain rfl : i = ss.length := by omega
      rw [List.take_of_length_le (Nat.le_refl _)] at hpre hxs
      obtain ⟨rfl, rfl⟩ : zs = xs ∧ why = 0 := by
        rcases HZ.out with h | h
        · rw [hpre] at h; cases h.1
        · exact ⟨by rw [h.2.1, hxs], h.2.2⟩
      clear hbd hpre hxs HZ
      obtain ⟨A7, c7, hv7, hl7, hm7, hr7⟩ := own.opened
      injection hv7 with e1 e2 e3
      subst e1 e3
      go_wp2_with fail
      go_ret2
      exact ⟨A', c', rfl, hr7, hl7, hm7, hb⟩

/-- What Size gives. -/
theorem size_any (A : Option Addr) (ss : List Stp) (c : Nat) (w : World) (hl : ss.length ≤ 5000) (hc : ss.length ≤ c) (hm : c ≤ maxLen) (hr : HoldsS w A ss) :
    Calls Try.prog 28 #[.slice A ss.length c] w (Gives (.int .i64 (if ss.all rightS = true then (putB ss).length else 0)) w) := by
  cases h : ss.all rightS with
  | true =>
    rw [if_pos rfl]
    have G := Lib.hid (put_yes A ss c w hl hc hm hr h)
    have hbd := putB_bd ss h
    go_enter Try.func28, Try.ntmps28
    go_wp2_with (go_at_call 37; refine G.out.mono ?_; rintro e w2 ⟨A2, c2, rfl, own2, hb2⟩)
    go_ret
    exact ⟨rfl, hb2⟩
  | false =>
    rw [if_neg (by simp)]
    have G := Lib.hid (put_no A ss c w hc hm hr h)
    go_enter Try.func28, Try.ntmps28
    go_wp2_with (go_at_call 37; refine G.out.mono ?_; rintro e w2 ⟨rfl, hb2⟩)
    go_ret
    exact ⟨rfl, hb2⟩
end Go.Proofs.Ytlcnbepldkbkgaa.Pl

namespace Go.Proofs.Ytlcnbepldkbkgaa.Kit
open Go.ChangeShapes Go.WideShapes Go.ChangeAt Go.RowKit

theorem step_store_arr {P : Program} {ops : Array Oper} {o : Oper} {a : Act} {w : World} {K : Act → World → Prop} {Q : Exit → Act → World → Prop} {E : Prop}
    (hgd : o.guard = none) (ty : TypeId) (x y : Operand) (ho : o.op = .store ty x y)
    {g : Nat} {t : TypeId} {k : IntKind} {xs ys : List Int} (h : Arr w g t k xs) (hx : a.eval x = .pointer (some ⟨g, 0, none⟩)) (hy : a.eval y = arrV k ys) (hl : ys.length = xs.length) (hi : (P.info? ty).map (·.size) = some ys.length)
    (hK : ∀ w', Arr w' g t k ys → w.grownBy w' (some g) → K (a.put o.dst undef) w') : if Region.wanted o (yielded ops a.tmps) = true then Oper.wp P o a w K Q else E := by
  have hw : Region.wanted o (yielded ops a.tmps) = true := by simp [Region.wanted, hgd]
  rw [if_pos hw]
  refine wp_store_mid ty x y ho g 0 (ys.map (Value.int k)).toArray hx hy (by simpa using h.there (by omega)) (by simpa using hi) (all_oneCell_toArray (ints_one k ys)) ?_
  refine hK _ ?_ (setCells_grown g _ 0 w)
  have := setCells_block (ys.map (Value.int k)) 0 w _ h (by simp; omega)
  unfold Arr
  have e : ((xs.map (Value.int k)).toArray.toList.take 0 ++ (ys.map (Value.int k) ++ (xs.map (Value.int k)).toArray.toList.drop (0 + (ys.map (Value.int k)).length))).toArray = (ys.map (Value.int k)).toArray := by
    simp [hl]
  rw [e] at this
  simpa using this

/-- A row that lies in memory is loaded as a whole. -/
theorem step_load_row {P : Program} {ops : Array Oper} {o : Oper} {a : Act} {w : World} {K : Act → World → Prop} {Q : Exit → Act → World → Prop} {E : Prop}
    (hw : Region.wanted o (yielded ops a.tmps) = true) (ty : TypeId) (x : Operand) (ho : o.op = .load ty x)
    (b f : Nat) (cs : List Value) (hx : a.eval x = .pointer (some ⟨b, f, none⟩)) (hc : w.rangeAt b f cs) {d : TypeDesc} (hu : P.underlying ty = some d) (hd : d.isRow = true) (hi : (P.info? ty).map (·.size) = some cs.length)
    (hK : K (a.put o.dst (.agg cs.toArray)) w) : if Region.wanted o (yielded ops a.tmps) = true then Oper.wp P o a w K Q else E := by
  rw [if_pos hw]
  exact wp_load_mid ty x ho b f hx cs d hc hu hd hi hK
end Go.Proofs.Ytlcnbepldkbkgaa.Kit

namespace Go.Proofs.Ytlcnbepldkbkgaa.Kit
open Go.ChangeShapes Go.WideShapes Go.ChangeAt Go.RowKit

/-- A row's slice. -/
def Rw.val (r : Rw) : Value := .slice r.A r.zs.length r.cap
/-- A row that may be. -/
def RwOk (w : World) (B : Nat) (r : Rw) : Prop := r.zs.length ≤ r.cap ∧ r.cap ≤ maxLen ∧ Octets r.zs ∧ Holds w B .u8 r.A r.zs

theorem RwOk.below {w w' : World} {B : Nat} {r : Rw} (h : RwOk w B r) (hb : Below B w w') : RwOk w' B r := ⟨h.1, h.2.1, h.2.2.1, h.2.2.2.below hb⟩
theorem RwOk.more {w : World} {B B' : Nat} {r : Rw} (h : RwOk w B r) (hb : B ≤ B') : RwOk w B' r := ⟨h.1, h.2.1, h.2.2.1, h.2.2.2.more hb⟩
theorem RwOk.on {w w' : World} {r : Rw} (h : RwOk w w.heap.size r) (hb : Below w.heap.size w w') : RwOk w' w'.heap.size r := (h.below hb).more hb.size
theorem RwOk.arr {w : World} {g : Nat} {t : TypeId} {xs : List Int} (h : Arr w g t .u8 xs) (ho : Octets xs) (hl : xs.length ≤ maxLen) : RwOk w w.heap.size ⟨some ⟨g, 0, none⟩, xs.length, xs⟩ :=
  ⟨Nat.le_refl _, hl, ho, h.holds_all⟩

theorem rows_laid {w : World} {t : TypeId} (rs : List Rw) (h : ∀ r ∈ rs, RwOk w w.heap.size r) :
    HoldsW (w.alloc (.cells (rs.map Rw.val).toArray t)) (w.alloc (.cells (rs.map Rw.val).toArray t)).heap.size (some ⟨w.heap.size, 0, none⟩) rs := by
  have bk := Block.new w t (rs.map Rw.val).toArray
  have hb := (Below.refl w.heap.size w).alloc (Nat.le_refl _) (.cells (rs.map Rw.val).toArray t)
  intro _
  refine ⟨w.heap.size, 0, rfl, by simp, fun i r hi => ?_⟩
  have hr := (h r (List.mem_of_getElem? hi)).on hb
  refine ⟨_, ⟨rfl, hr⟩, rfl, fun j v hj => ?_⟩
  have hj0 : j = 0 := by
    rcases j with _ | j
    · rfl
    · simp at hj
  subst hj0
  have hv : v = r.val := by simpa [Rw.val] using hj.symm
  subst hv
  rw [Nat.zero_add, Nat.mul_one, Nat.add_zero, bk.cell i]
  simp [hi]
end Go.Proofs.Ytlcnbepldkbkgaa.Kit

namespace Go.Proofs.Ytlcnbepldkbkgaa.Kit
open Go.ChangeShapes Go.WideShapes Go.ChangeAt Go.RowKit

theorem res_new (w : World) (t : TypeId) : Arr (w.alloc (.cells ((List.replicate 32 (0 : Int)).map (Value.int .u8)).toArray t)) w.heap.size t .u8 (List.replicate 32 0) := Arr.new w _ _ _
theorem arr_kept {w w' : World} {g : Nat} {t : TypeId} {k : IntKind} {xs : List Int} {o : Obj} (h : Arr w g t k xs) (g9 : (w.alloc o).grownBy w' (some w.heap.size)) : Arr w' g t k xs :=
  Arr.grown (h.alloc o) g9 (by intro e; injection e with e; have := Arr.lt h; omega)
theorem below_fill {B : Nat} {w0 w w' : World} {o : Obj} (h : Below B w0 w) (hB : B ≤ w.heap.size) (g9 : (w.alloc o).grownBy w' (some w.heap.size)) : Below B w0 w' :=
  (h.alloc hB o).trans (below_of_grown g9 (by simp; omega) fun b hb => by injection hb with hb; omega)
theorem Holds.prefix_ {w : World} {B : Nat} {k : IntKind} {A : Option Addr} {xs : List Int} (h : Holds w B k A xs) (n : Nat) : Holds w B k A (xs.take n) := by
  intro hx
  rw [List.length_take] at hx
  obtain ⟨b, off, e, hb, hc⟩ := h (by omega)
  refine ⟨b, off, e, hb, fun j hj => ?_⟩
  rw [List.length_take] at hj
  rw [hc j (by omega)]
  simp [List.getD, List.getElem?_take, show j < n by omega]
theorem Holds.on {w w' : World} {k : IntKind} {A : Option Addr} {xs : List Int} (h : Holds w w.heap.size k A xs) (hb : Below w.heap.size w w') : Holds w' w'.heap.size k A xs := (h.below hb).more hb.size
theorem Holds.fill {w w' : World} {k : IntKind} {A : Option Addr} {xs : List Int} {o : Obj} (h : Holds w w.heap.size k A xs) (g9 : (w.alloc o).grownBy w' (some w.heap.size)) : Holds w' w'.heap.size k A xs := h.on (below_fill (Below.refl _ _) (Nat.le_refl _) g9)

/-- Results: a whole array out of its block, and a plain value. -/
theorem results_row_tmp {P : Program} {fn : Func} {p q : Tmp} {ty : TypeId} (h : fn.results = #[.cell p ty, .tmp q]) (tmps : Array Value) (w : World) (g : Nat) (t : TypeId) (cs : Array Value) (fr : Nat × Nat) (d : TypeDesc)
    (hp : tmps.getD p undef = .pointer (some ⟨g, 0, none⟩)) (hg : w.heap[g]? = some (.cells cs t fr)) (v : Value) (hq : tmps.getD q undef = v)
    (hu : P.underlying ty = some d) (hd : (match d with | .struct _ | .array _ _ => true | _ => false) = true) (hi : (P.info? ty).map (·.size) = some cs.size) :
    (results fn tmps).run P w = .ok (.tuple #[.agg cs, v]) w := by
  have hp' : tmps[p]?.getD undef = .pointer (some ⟨g, 0, none⟩) := by simpa using hp
  have hq' : tmps[q]?.getD undef = v := by simpa using hq
  simp [results, h, hp', hq', asAddr, run_loadVar_row w g t ty cs fr d hg hu hd hi]
end Go.Proofs.Ytlcnbepldkbkgaa.Kit

namespace Go.Proofs.Ytlcnbepldkbkgaa.Kit
open Go.ChangeShapes Go.WideShapes Go.ChangeAt Go.RowKit

/-- v is a slice of the call's own, from block B on (or nil), and holds the values us. -/
def OwnV (w : World) (B : Nat) (e : TypeId) (v : Value) (us : List Value) : Prop := w.ownsRow B e 1 v us.length us
/-- t is the type of slices over e, of one cell. -/
def ValElem (P : Program) (t e : TypeId) (z : Value) (bytes : Nat) : Prop :=
  P.underlying t = some (.slice e) ∧ (P.info? e).map (fun i => (i.zero, i.size, i.bytes)) = some (some z, 1, bytes) ∧ z.cells.size = 1 ∧ bytes ≤ 64

section
variable {P : Program} {w w' : World} {B : Nat} {e : TypeId} {v : Value} {us : List Value}

theorem OwnV.nil (w : World) (B : Nat) (e : TypeId) : OwnV w B e (.slice none 0 0) [] := World.ownsRow_nil w B e 1
theorem OwnV.empty (w : World) (e : TypeId) (hB : B ≤ w.heap.size) : OwnV (w.alloc (.cells #[] e)) B e (.slice (some ⟨w.heap.size, 0, none⟩) 0 0) [] :=
  World.ownsRow_lit (size := 1) w #[] 0 hB (Nat.zero_le _) rfl
theorem OwnV.one (w : World) (e : TypeId) (hB : B ≤ w.heap.size) (u : Value) : OwnV (w.alloc (.cells #[u] e)) B e (.slice (some ⟨w.heap.size, 0, none⟩) 1 1) [u] :=
  World.ownsRow_lit (size := 1) w #[u] 1 hB (by decide) rfl
theorem OwnV.lt (h : OwnV w B e v us) : ∀ g, v.ownBlock = some g → B ≤ g ∧ g < w.heap.size := World.ownsRow.lt h
theorem OwnV.alloc (h : OwnV w B e v us) (o : Obj) : OwnV (w.alloc o) B e v us := World.ownsRow.alloc h o
theorem OwnV.drewN (h : OwnV w B e v us) (n : Nat) : OwnV (w.drewN n) B e v us := h
theorem OwnV.mono {B' : Nat} (h : OwnV w B e v us) (hb : B' ≤ B) : OwnV w B' e v us := by
  rcases h.2 with ⟨rfl, h0⟩ | ⟨g, cap, cur, rfl, hbg, hrest⟩
  · exact ⟨h.1, .inl ⟨rfl, h0⟩⟩
  · exact ⟨h.1, .inr ⟨g, cap, cur, rfl, by omega, hrest⟩⟩
theorem OwnV.kept {row : Option Nat} (h : OwnV w B e v us) (hg : w.grownBy w' row) (hne : v.ownBlock = none ∨ v.ownBlock ≠ row) : OwnV w' B e v us := World.ownsRow.kept h hg hne
theorem OwnV.below (h : OwnV w B e v us) (hb : Below w.heap.size w w') : OwnV w' B e v us := by
  refine h.kept (row := none) ⟨hb.os, hb.tape, hb.output, hb.size, fun g hg _ => hb.block g hg⟩ ?_
  cases hv : v.ownBlock with
  | none => exact .inl rfl
  | some g => exact .inr (by simp)
theorem OwnV.opened (h : OwnV w B e v us) : ∃ (A : Option Addr) (cap : Nat), v = .slice A us.length cap ∧ us.length ≤ cap ∧ cap ≤ maxLen := by
  rcases h.2 with ⟨rfl, h0⟩ | ⟨g, cap, cur, rfl, hb, hg, hnc, hcm, hcs, htake⟩
  · exact ⟨none, 0, by rw [h0], by omega, Nat.zero_le _⟩
  · exact ⟨some ⟨g, 0, none⟩, cap, rfl, hnc, hcm⟩
theorem OwnV.cellAt {A : Option Addr} {n cap : Nat} (h : OwnV w B e (.slice A n cap) us) {i : Nat} (hi : i < us.length) : ∃ g, A = some ⟨g, 0, none⟩ ∧ g < w.heap.size ∧ w.cell? ⟨g, i, none⟩ = some us[i] := by
  rcases h.2 with ⟨h1, h0⟩ | ⟨g, cap, cur, h1, hb, hg, hnc, hcm, hcs, htake⟩
  · omega
  · injection h1 with h1 h2 h3
    subst h1 h2 h3
    refine ⟨g, rfl, (Array.getElem?_eq_some_iff.1 hg).1, ?_⟩
    rw [World.ownsRow.cellAt h i (by omega)]
    exact List.getElem?_eq_getElem hi

/-- Rows of other types of cells never share its block. -/
theorem OwnV.ne_block {g : Nat} {t : TypeId} {cs : Array Value} (h : OwnV w B e v us) (hg : Block w g t cs) (hne : t ≠ e) : v.ownBlock ≠ some g := by
  rcases h.2 with ⟨rfl, _⟩ | ⟨g', cap, cur, rfl, _, hh, _⟩
  · simp [Value.ownBlock]
  · intro he
    obtain rfl : g' = g := by simpa [Value.ownBlock] using he
    unfold Block at hg
    rw [hh] at hg
    injection hg with hg
    injection hg with _ ht
    exact hne ht.symm

/-- append(v, u): u lies alone in the newest block. -/
theorem wpList_append_val {ops : Array Oper} {rest : List Oper} {o : Oper} {a : Act} {Q : Exit → Act → World → Prop} (hgd : o.guard = none) (s x : Operand) (t : TypeId)
    (ho : o.op = .call { callee := .builtin .append, args := #[s, x], argTypes := #[t, t] }) {z : Value} {bytes : Nat} (he : ValElem P t e z bytes)
    (hown : OwnV w B e v us) (hs : a.eval s = v) {u : Value} {c : Nat} {e2 : TypeId} (hx : a.eval x = .slice (some ⟨w.heap.size, 0, none⟩) 1 c) (hu : u.oneCell' = true) (hsz : us.length + 1 ≤ 1099511627776) (hbase : B ≤ w.heap.size)
    (h : ∀ v' w', OwnV w' B e v' (us ++ [u]) → (w.alloc (.cells #[u] e2)).grownBy w' v.ownBlock → Below B w w' → wpList P ops Q rest (a.put o.dst v') w') :
    wpList P ops Q (o :: rest) a (w.alloc (.cells #[u] e2)) := by
  obtain ⟨ht, hinfo, hz1, hb8⟩ := he
  obtain ⟨i, hi, hz, hsi, hby⟩ := info_parts hinfo
  refine wpList_plain hgd fun K hK => ?_
  have hmul : (us.length + 1) * bytes ≤ (us.length + 1) * 64 := Nat.mul_le_mul_left _ hb8
  obtain ⟨v', w', hrun, h2, h3, _, _⟩ := run_append_own_at (P := P) (w.alloc (.cells #[u] e2)) B t o.type e i z 1 bytes ht hi hz hsi hby hz1 (by omega) v us.length us (hown.alloc _)
    ⟨w.heap.size, 0, none⟩ 1 c [u] rfl (by
      intro j y hj
      have hj0 : j = 0 := by
        rcases j with _ | j
        · rfl
        · simp at hj
      subst hj0
      obtain rfl : u = y := by simpa using hj
      rw [add_plain]
      exact cell_of_row (w.alloc (.cells #[u] e2)) w.heap.size 0 #[u] e2 (0, 0) (heap_alloc_new w _)) (by intro y hy; simp at hy; subst hy; exact hu) (by unfold maxLen; omega) (by omega) (by simp; omega)
  have h2 : OwnV w' B e v' (us ++ [u]) := by unfold OwnV; rw [List.length_append, List.length_singleton]; exact h2
  unfold Oper.wp
  simp only [execOp, ho, resolve, invoke, builtin, Sem.run_bind, Sem.run_pure, Result.andThen_ok, List.map_toArray, List.map_cons, List.map_nil, hs, hx, hrun]
  exact hK _ _ (h v' w' h2 h3 (((Below.refl B w).alloc hbase _).trans (below_of_grown h3 (by simp; omega) fun g hg => (hown.lt g hg).1)))
end

/-- A row of bytes that lies whole in a block of another type than e. -/
def RwArr (w : World) (e : TypeId) (r : Rw) : Prop := ∃ (g : Nat) (t : TypeId), t ≠ e ∧ r.A = some ⟨g, 0, none⟩ ∧ r.cap = r.zs.length ∧ r.zs.length ≤ 100000 ∧ Octets r.zs ∧ Arr w g t .u8 r.zs
section
variable {w w' : World} {B : Nat} {e : TypeId} {v : Value} {rs : List Rw} {r : Rw}
theorem RwArr.ok (h : RwArr w e r) : RwOk w w.heap.size r := by
  obtain ⟨g, t, _, hA, hc, hl, ho, ha⟩ := h
  refine ⟨by omega, by unfold maxLen; omega, ho, ?_⟩
  rw [hA]
  exact ha.holds_all
theorem RwArr.below (h : RwArr w e r) (hb : Below w.heap.size w w') : RwArr w' e r := by
  obtain ⟨g, t, h0, hA, hc, hl, ho, ha⟩ := h
  exact ⟨g, t, h0, hA, hc, hl, ho, Block.below ha hb (Block.lt ha)⟩
theorem RwArr.grown {us : List Value} (h : RwArr w e r) (hown : OwnV w B e v us) (hg : w.grownBy w' v.ownBlock) : RwArr w' e r := by
  obtain ⟨g, t, h0, hA, hc, hl, ho, ha⟩ := h
  exact ⟨g, t, h0, hA, hc, hl, ho, Block.grown ha hg (hown.ne_block ha h0)⟩
theorem RwArr.mk {g : Nat} {t : TypeId} {xs : List Int} (ha : Arr w g t .u8 xs) (h0 : t ≠ e) (ho : Octets xs) (hl : xs.length ≤ 100000) : RwArr w e ⟨some ⟨g, 0, none⟩, xs.length, xs⟩ :=
  ⟨g, t, h0, rfl, rfl, hl, ho, ha⟩
theorem OwnV.rows {A : Option Addr} {n cap : Nat} (h : OwnV w B e (.slice A n cap) (rs.map Rw.val)) (hr : ∀ r ∈ rs, RwArr w e r) : HoldsW w w.heap.size A rs := by
  intro hx
  obtain ⟨g, rfl, hlt, _⟩ := h.cellAt (i := 0) (by simpa using hx)
  refine ⟨g, 0, rfl, hlt, fun i r hi => ?_⟩
  have hok := (hr r (List.mem_of_getElem? hi)).ok
  refine ⟨_, ⟨rfl, hok⟩, rfl, fun j u hj => ?_⟩
  have hj0 : j = 0 := by
    rcases j with _ | j
    · rfl
    · simp at hj
  subst hj0
  obtain ⟨hil, hir⟩ := List.getElem?_eq_some_iff.1 hi
  obtain ⟨g2, e2, _, hc⟩ := h.cellAt (i := i) (by simpa using hil)
  injection e2 with e2
  injection e2 with e2
  subst e2
  rw [Nat.zero_add, Nat.mul_one, Nat.add_zero, hc]
  have hu : u = r.val := by simpa [Rw.val] using hj.symm
  subst hu
  rw [List.getElem_map, hir]
end
end Go.Proofs.Ytlcnbepldkbkgaa.Kit
