/-
  Layers 14 and 15: the longest that stands anywhere; how far one gets; pieces: plain. Conditions: as each theorem names.
-/
import Derived.Test.YtlcnbepldkbkgaaMSxQ
import Derived.Lib.Bytealg
import Derived.Lib.Bytes
import Derived.Laws.BytesArg
namespace Go.Proofs.Ytlcnbepldkbkgaa.Sx
open Go.Proofs.Ytlcnbepldkbkgaa.Ordr

/-- With how many both begin. -/
def comL : List Int → List Int → Nat
  | x :: X, y :: Y => if x = y then comL X Y + 1 else 0
  | _, _ => 0
theorem comL_spec : ∀ (k : Nat) (X Y : List Int), k ≤ X.length → k ≤ Y.length → (∀ j, j < k → X.getD j 0 = Y.getD j 0) → (k < X.length → k < Y.length → X.getD k 0 ≠ Y.getD k 0) → comL X Y = k
  | 0, [], _, _, _, _, _ => by unfold comL; rfl
  | 0, x :: X, [], _, _, _, _ => by unfold comL; rfl
  | 0, x :: X, y :: Y, _, _, _, h => by
    have := h (by simp) (by simp)
    unfold comL
    rw [if_neg (by simpa using this)]
  | k + 1, [], _, h, _, _, _ => absurd h (by simp)
  | k + 1, _ :: _, [], _, h, _, _ => absurd h (by simp)
  | k + 1, x :: X, y :: Y, h1, h2, h3, h4 => by
    have e : x = y := by simpa using h3 0 (by omega)
    unfold comL
    rw [if_pos e, comL_spec k X Y (by simpa using h1) (by simpa using h2) (fun j hj => by simpa using h3 (j + 1) (by omega)) (fun a b => by simpa using h4 (by simpa using a) (by simpa using b))]
theorem comL_nil (Y : List Int) : comL [] Y = 0 := by unfold comL; rfl
theorem comL_cons {x y : Int} {X Y : List Int} : comL (x :: X) (y :: Y) = if x = y then comL X Y + 1 else 0 := by rw [comL]
theorem comL_le : ∀ X Y, comL X Y ≤ X.length ∧ comL X Y ≤ Y.length
  | [], Y => by rw [comL_nil]; simp
  | _ :: _, [] => by unfold comL; simp
  | x :: X, y :: Y => by
    rw [comL_cons]
    have := comL_le X Y
    split <;> simp <;> omega
theorem comL_get : ∀ (X Y : List Int) (j : Nat), j < comL X Y → X.getD j 0 = Y.getD j 0
  | [], Y, j, h => by rw [comL_nil] at h; omega
  | _ :: _, [], j, h => by unfold comL at h; omega
  | x :: X, y :: Y, j, h => by
    rw [comL_cons] at h
    by_cases e : x = y
    · rw [if_pos e] at h
      cases j with
      | zero => simpa using e
      | succ j => simpa using comL_get X Y j (by omega)
    · rw [if_neg e] at h; omega
/-- As many are common as agree. -/
theorem comL_ge : ∀ (k : Nat) (X Y : List Int), k ≤ X.length → k ≤ Y.length → (∀ j, j < k → X.getD j 0 = Y.getD j 0) → k ≤ comL X Y
  | 0, _, _, _, _, _ => Nat.zero_le _
  | k + 1, [], _, h, _, _ => absurd h (by simp)
  | k + 1, _ :: _, [], _, h, _ => absurd h (by simp)
  | k + 1, x :: X, y :: Y, h1, h2, h3 => by
    have e : x = y := by simpa using h3 0 (by omega)
    rw [comL_cons, if_pos e]
    have := comL_ge k X Y (by simpa using h1) (by simpa using h2) (fun j hj => by simpa using h3 (j + 1) (by omega))
    omega

theorem lexlt_trans : ∀ {X Y Z : List Int}, lexlt X Y → lexlt Y Z → lexlt X Z
  | [], [], _, h, _ => h.elim
  | [], _ :: _, [], _, h => h.elim
  | [], _ :: _, _ :: _, _, _ => trivial
  | _ :: _, [], _, h, _ => h.elim
  | _ :: _, _ :: _, [], _, h => h.elim
  | x :: X, y :: Y, z :: Z, h1, h2 => by
    unfold lexlt at h1 h2 ⊢
    rcases h1 with h1 | ⟨h1, h3⟩
    · rcases h2 with h2 | ⟨h2, _⟩
      · exact .inl (by omega)
      · exact .inl (by omega)
    · rcases h2 with h2 | ⟨h2, h4⟩
      · exact .inl (by omega)
      · exact .inr ⟨by omega, lexlt_trans h3 h4⟩
/-- What stands nearer, on the low side, has as much in common. -/
theorem com_left : ∀ {X Y Z : List Int}, (X = Y ∨ lexlt X Y) → lexlt Y Z → comL X Z ≤ comL Y Z
  | [], _, _, _, _ => by rw [comL_nil]; exact Nat.zero_le _
  | x :: X, [], _, h, _ => by rcases h with h | h; exact absurd h (by simp); exact h.elim
  | x :: X, y :: Y, [], _, h => h.elim
  | x :: X, y :: Y, z :: Z, h1, h2 => by
    rw [comL_cons, comL_cons]
    unfold lexlt at h2
    have h3 : x < y ∨ x = y ∧ (X = Y ∨ lexlt X Y) := by
      rcases h1 with h1 | h1
      · injection h1 with a b; exact .inr ⟨a, .inl b⟩
      · unfold lexlt at h1
        exact h1.imp id (fun h => ⟨h.1, .inr h.2⟩)
    by_cases e : x = z
    · rw [if_pos e]
      rcases h3 with h3 | ⟨h3, h4⟩
      · omega
      · rcases h2 with h2 | ⟨h2, h5⟩
        · omega
        · rw [if_pos h2]
          have := com_left h4 h5
          omega
    · rw [if_neg e]; exact Nat.zero_le _
/-- The same on the high side. -/
theorem com_right : ∀ {X Y Z : List Int}, (Y = X ∨ lexlt Y X) → (Z = Y ∨ lexlt Z Y) → comL X Z ≤ comL Y Z
  | [], _, _, _, _ => by rw [comL_nil]; exact Nat.zero_le _
  | _ :: _, _, [], _, _ => by unfold comL; exact Nat.zero_le _
  | x :: X, [], z :: Z, _, h => by rcases h with h | h; exact absurd h (by simp); exact h.elim
  | x :: X, y :: Y, z :: Z, h1, h2 => by
    rw [comL_cons, comL_cons]
    have h3 : y < x ∨ y = x ∧ (Y = X ∨ lexlt Y X) := by
      rcases h1 with h1 | h1
      · injection h1 with a b; exact .inr ⟨a, .inl b⟩
      · unfold lexlt at h1
        exact h1.imp id (fun h => ⟨h.1, .inr h.2⟩)
    have h4 : z < y ∨ z = y ∧ (Z = Y ∨ lexlt Z Y) := by
      rcases h2 with h2 | h2
      · injection h2 with a b; exact .inr ⟨a, .inl b⟩
      · unfold lexlt at h2
        exact h2.imp id (fun h => ⟨h.1, .inr h.2⟩)
    by_cases e : x = z
    · rw [if_pos e]
      rcases h3 with h3 | ⟨h3, h5⟩
      · omega
      · rcases h4 with h4 | ⟨h4, h6⟩
        · omega
        · rw [if_pos h4.symm]
          have := com_right h5 h6
          omega
    · rw [if_neg e]; exact Nat.zero_le _

def Bytes8 (xs : List Int) : Prop := ∀ x ∈ xs, 0 ≤ x ∧ x ≤ 255
theorem u8_lt {x y : Int} (hx : 0 ≤ x ∧ x ≤ 255) (hy : 0 ≤ y ∧ y ≤ 255) : UInt8.ofNat x.toNat < UInt8.ofNat y.toNat ↔ x < y := by
  rw [UInt8.lt_iff_toNat_lt, UInt8.toNat_ofNat', UInt8.toNat_ofNat', Nat.mod_eq_of_lt (by omega), Nat.mod_eq_of_lt (by omega)]
  omega
/-- The library's word on which text is greater. -/
theorem compare_ge : ∀ {X Y : List Int}, Bytes8 X → Bytes8 Y → (0 ≤ Lib.compareBytes (Lib.bytesOf X) (Lib.bytesOf Y) ↔ ¬ lexlt X Y)
  | [], [], _, _ => by simp [Lib.bytesOf, Lib.compareBytes, lexlt]
  | [], _ :: _, _, _ => by simp [Lib.bytesOf, Lib.compareBytes, lexlt]
  | _ :: _, [], _, _ => by simp [Lib.bytesOf, Lib.compareBytes, lexlt]
  | x :: X, y :: Y, hx, hy => by
    have h1 := hx x (by simp)
    have h2 := hy y (by simp)
    have ih := compare_ge (X := X) (Y := Y) (fun z hz => hx z (by simp [hz])) (fun z hz => hy z (by simp [hz]))
    unfold Lib.bytesOf at ih ⊢
    simp only [List.map_cons, Lib.compareBytes, u8_lt h1 h2, u8_lt h2 h1, lexlt]
    by_cases a : x < y
    · rw [if_pos a]
      constructor
      · intro h; omega
      · intro h; exact absurd (.inl a) h
    · rw [if_neg a]
      by_cases c : y < x
      · rw [if_pos c]
        constructor
        · intro _ h; omega
        · intro _; omega
      · rw [if_neg c, ih]
        have e : x = y := by omega
        constructor
        · rintro h (h1 | ⟨_, h1⟩)
          · exact a h1
          · exact h h1
        · intro h h1
          exact h (.inr ⟨e, h1⟩)

/-- The least place from which on it is so. -/
structure LeastAt (n : Nat) (p : Nat → Bool) (k : Nat) : Prop where
  le : k ≤ n
  lo : ∀ u, u < k → p u = false
  hi : ∀ u, k ≤ u → u < n → p u = true
def geS (b : List Int) (T : Nat → Nat) (q : List Int) (u : Nat) : Bool := decide (0 ≤ Lib.compareBytes (Lib.bytesOf (b.drop (T u))) (Lib.bytesOf q))
theorem geS_yes {b q : List Int} {T : Nat → Nat} {u : Nat} (hb : Bytes8 b) (hq : Bytes8 q) : geS b T q u = true ↔ ¬ lexlt (b.drop (T u)) q := by
  unfold geS
  rw [decide_eq_true_iff, compare_ge (fun x hx => hb x (List.mem_of_mem_drop hx)) hq]
theorem geS_no {b q : List Int} {T : Nat → Nat} {u : Nat} (hb : Bytes8 b) (hq : Bytes8 q) (h : geS b T q u = false) : lexlt (b.drop (T u)) q := by
  rcases Classical.em (lexlt (b.drop (T u)) q) with h1 | h1
  · exact h1
  · rw [(geS_yes hb hq).2 h1] at h
    exact absurd h (by simp)
theorem geS_mono {b q : List Int} {T : Nat → Nat} (hb : Bytes8 b) (hq : Bytes8 q) (h : SaOk b T) {u v : Nat} (huv : u ≤ v) (hv : v < b.length) (hu : geS b T q u = true) : geS b T q v = true := by
  by_cases e : u = v
  · subst e; exact hu
  · have h1 := h.so u v (by omega) hv
    have h2 := (geS_yes hb hq).1 hu
    exact (geS_yes hb hq).2 fun h3 => h2 (lexlt_trans h1 h3)
/-- Nothing has more in common than the two neighbours. -/
theorem near_most {b q : List Int} {T : Nat → Nat} {k m : Nat} (hb : Bytes8 b) (hq : Bytes8 q) (h : SaOk b T) (hk : LeastAt b.length (geS b T q) k) (h1 : 0 < k → comL (b.drop (T (k - 1))) q ≤ m) (h2 : k < b.length → comL (b.drop (T k)) q ≤ m) :
    ∀ i, i < b.length → comL (b.drop i) q ≤ m := by
  intro i hi
  obtain ⟨u, hu, rfl⟩ := h.pm.onto hi
  by_cases huk : u < k
  · refine Nat.le_trans (com_left (Y := b.drop (T (k - 1))) ?_ ?_) (h1 (by omega))
    · by_cases e : u = k - 1
      · exact .inl (by rw [e])
      · exact .inr (h.so u (k - 1) (by omega) (by have := hk.le; omega))
    · exact geS_no hb hq (hk.lo (k - 1) (by omega))
  · refine Nat.le_trans (com_right (Y := b.drop (T k)) ?_ ?_) (h2 (by omega))
    · by_cases e : u = k
      · exact .inl (by rw [e])
      · exact .inr (h.so k u (by omega) hu)
    · have h3 := (geS_yes hb hq).1 (hk.hi k (Nat.le_refl _) (by omega))
      rcases lexlt_total q (b.drop (T k)) with h4 | h4 | h4
      · exact .inr h4
      · exact .inl h4
      · exact absurd h4 h3
/-- What is told of the longest. -/
structure FoundB (b q : List Int) (at_ most : Nat) : Prop where
  lt : 0 < most → at_ < b.length ∧ comL (b.drop at_) q = most
  z : most = 0 → at_ = 0
  mx : ∀ i, i < b.length → comL (b.drop i) q ≤ most

/-! ### How far one gets -/
/-- So far, at least half of it are the same. -/
structure ReachOk (most : Int) (p : Nat → Bool) (far : Nat) : Prop where
  le : (far : Int) ≤ most ∨ far = 0
  half : far ≤ 2 * cnt p far
theorem cnt_add (p : Nat → Bool) (a : Nat) : ∀ c, cnt p (a + c) = cnt p a + cnt (fun j => p (a + j)) c
  | 0 => rfl
  | c + 1 => by
    show cnt p (a + c) + (if p (a + c) = true then 1 else 0) = cnt p a + (cnt (fun j => p (a + j)) c + (if p (a + c) = true then 1 else 0))
    rw [cnt_add p a c]
    omega
theorem cnt_first (p : Nat → Bool) (c : Nat) : cnt p (c + 1) = (if p 0 = true then 1 else 0) + cnt (fun j => p (j + 1)) c := by
  have := cnt_add p 1 c
  rw [show 1 + c = c + 1 by omega] at this
  rw [this]
  congr 1
  · show 0 + (if p 0 = true then 1 else 0) = _
    exact Nat.zero_add _
  · congr 1
    funext j
    rw [Nat.add_comm]
theorem cnt_rev (p : Nat → Bool) : ∀ c, cnt (fun j => p (c - 1 - j)) c = cnt p c
  | 0 => rfl
  | c + 1 => by
    rw [cnt_first]
    have h := cnt_rev p c
    have e : cnt (fun j => p (c + 1 - 1 - (j + 1))) c = cnt (fun j => p (c - 1 - j)) c := by
      congr 1
      funext j
      congr 1
      omega
    rw [e, h]
    show _ = cnt p c + (if p c = true then 1 else 0)
    rw [show c + 1 - 1 - 0 = c by omega]
    omega
theorem cnt_congr {p q : Nat → Bool} : ∀ c, (∀ j, j < c → p j = q j) → cnt p c = cnt q c
  | 0, _ => rfl
  | c + 1, h => by unfold cnt; rw [cnt_congr c (fun j hj => h j (by omega)), h c (by omega)]
end Go.Proofs.Ytlcnbepldkbkgaa.Sx
