/-
  Layer 13, inflate: how a packed text is read, thing by thing: plain. No program. No conditions beyond what each theorem names.
  Layer 13, inflate: what was read when it stops, piece by piece: plain. No program. No conditions beyond what each theorem names.
  Layer 13, inflate: where reading stops, however a text is cut: plain. No program. No conditions beyond what each theorem names.
  Layer 13, inflate: how the document reads: plain. No program. No conditions beyond what each theorem names.
  Layer 13, inflate: how the document reads blocks: plain. No program. No conditions beyond what each theorem names.
-/
import Derived.Test.YthflefdchgpbdaaDoorMInF
namespace Go.Proofs.YthflefdchgpbdaaDoor.Inf
open Go.RowKit Go.Proofs.YthflefdchgpbdaaDoor.Kit Go.Proofs.YthflefdchgpbdaaDoor.Bits Go.Proofs.YthflefdchgpbdaaDoor.Huf Go.Proofs.YthflefdchgpbdaaDoor.Df

/-- What comes of reading: bits are missing, it is wrong, or something is there, up to a place. -/
inductive Res (α : Type) where
  | miss
  | bad (e : Int)
  | ok (a : α) (p : Nat)
abbrev G (α : Type) := List Int → Nat → Res α
def pureG {α : Type} (a : α) : G α := fun _ p => .ok a p
def bindG {α β : Type} (g : G α) (f : α → G β) : G β := fun b p => match g b p with
  | .miss => .miss
  | .bad e => .bad e
  | .ok a q => f a b q
theorem bindG_miss {α β : Type} {g : G α} (f : α → G β) {b : List Int} {p : Nat} (h : g b p = .miss) : bindG g f b p = .miss := by rw [bindG, h]
theorem bindG_bad {α β : Type} {g : G α} (f : α → G β) {b : List Int} {p : Nat} {e : Int} (h : g b p = .bad e) : bindG g f b p = .bad e := by rw [bindG, h]
theorem bindG_ok {α β : Type} {g : G α} (f : α → G β) {b : List Int} {p q : Nat} {a : α} (h : g b p = .ok a q) : bindG g f b p = f a b q := by rw [bindG, h]
def numG (n : Nat) : G Int := fun b p => if p + n ≤ b.length then .ok (val ((b.drop p).take n)) (p + n) else .miss
def symG (l : List Int) : G Int := fun b p => match told l (b.drop p) with
  | .sym s n => .ok s (p + n)
  | .short => .miss
  | .form => .bad 11
def refG (is : Bool) (why : Int) : G Unit := fun _ p => if is then .bad why else .ok () p
def alignG : G Unit := fun _ p => .ok () ((p + 7) / 8 * 8)
theorem refG_no (why : Int) (b : List Int) (p : Nat) : refG false why b p = .ok () p := rfl
theorem refG_yes (why : Int) (b : List Int) (p : Nat) : refG true why b p = .bad why := rfl

/-- The same, from a place that lies 8 k bits lower. -/
def back {α : Type} (k : Nat) : Res α → Res α
  | .miss => .miss
  | .bad e => .bad e
  | .ok a q => .ok a (q - 8 * k)
/-- What is read of bits is read of more bits, too; it takes at most K bits, and lacks fewer; it does not ask where it stands, but for bytes. -/
structure Fine {α : Type} (g : G α) (K : Nat) : Prop where
  more : ∀ b c p, b.length % 8 = 0 → p ≤ b.length → g b p ≠ .miss → g (b ++ c) p = g b p
  le : ∀ b p a q, b.length % 8 = 0 → p ≤ b.length → g b p = .ok a q → p ≤ q ∧ q ≤ b.length ∧ q ≤ p + K
  lack : ∀ b p, b.length % 8 = 0 → p ≤ b.length → g b p = .miss → b.length < p + K
  shift : ∀ b p k, b.length % 8 = 0 → 8 * k ≤ p → p ≤ b.length → g (b.drop (8 * k)) (p - 8 * k) = back k (g b p)
  errs : ∀ b p e, g b p = .bad e → e = 11 ∨ e = 12
theorem Fine.mono {α : Type} {g : G α} {K L : Nat} (h : Fine g K) (hl : K ≤ L) : Fine g L :=
  ⟨h.more, fun b p a q h8 hp hg => by have := h.le b p a q h8 hp hg; omega, fun b p h8 hp hg => by have := h.lack b p h8 hp hg; omega, h.shift, h.errs⟩
theorem fine_pure {α : Type} (a : α) : Fine (pureG a) 0 :=
  ⟨fun _ _ _ _ _ _ => rfl, fun b p a' q h8 hp hg => by
    injection hg with h1 h2
    omega, fun b p h8 hp hg => by simp [pureG] at hg, fun b p k h8 hk hp => rfl, fun b p e hg => by simp [pureG] at hg⟩
theorem fine_ref (is : Bool) (why : Int) (hw : why = 11 ∨ why = 12) : Fine (refG is why) 0 := by
  cases is
  · exact ⟨fun _ _ _ _ _ _ => rfl, fun b p a' q h8 hp hg => by
      injection hg with h1 h2
      omega, fun b p h8 hp hg => by simp [refG] at hg, fun b p k h8 hk hp => rfl, fun b p e hg => by simp [refG] at hg⟩
  · exact ⟨fun _ _ _ _ _ _ => rfl, fun b p a' q h8 hp hg => by simp [refG] at hg, fun b p h8 hp hg => by simp [refG] at hg, fun b p k h8 hk hp => rfl, fun b p e hg => by simp [refG] at hg; omega⟩
theorem fine_align : Fine alignG 7 :=
  ⟨fun _ _ _ _ _ _ => rfl, fun b p a' q h8 hp hg => by
    injection hg with h1 h2
    omega, fun b p h8 hp hg => by simp [alignG] at hg, fun b p k h8 hk hp => by
    have : (p - 8 * k + 7) / 8 * 8 = (p + 7) / 8 * 8 - 8 * k := by omega
    simp only [alignG, back, this], fun b p e hg => by simp [alignG] at hg⟩
theorem fine_num (n : Nat) : Fine (numG n) n := by
  refine ⟨fun b c p h8 hp hg => ?_, fun b p a q h8 hp hg => ?_, fun b p h8 hp hg => ?_, fun b p k h8 hk hp => ?_, fun b p e hg => ?_⟩
  · unfold numG at hg ⊢
    by_cases h : p + n ≤ b.length
    · rw [if_pos h, if_pos (by rw [List.length_append]; omega), List.drop_append_of_le_length hp, List.take_append_of_le_length (by rw [List.length_drop]; omega)]
    · rw [if_neg h] at hg
      exact absurd rfl hg
  · unfold numG at hg
    by_cases h : p + n ≤ b.length
    · rw [if_pos h] at hg
      injection hg with h1 h2
      omega
    · rw [if_neg h] at hg
      exact absurd hg (by simp)
  · unfold numG at hg
    by_cases h : p + n ≤ b.length
    · rw [if_pos h] at hg
      exact absurd hg (by simp)
    · omega
  · unfold numG
    rw [List.length_drop, List.drop_drop, show 8 * k + (p - 8 * k) = p by omega]
    by_cases h : p + n ≤ b.length
    · rw [if_pos h, if_pos (by omega)]
      simp only [back]
      rw [show p - 8 * k + n = p + n - 8 * k by omega]
    · rw [if_neg h, if_neg (by omega)]
      rfl
  · unfold numG at hg
    split at hg <;> cases hg
theorem fine_bind {α β : Type} {g : G α} {f : α → G β} {K L : Nat} (hg : Fine g K) (hf : ∀ a, Fine (f a) L) : Fine (bindG g f) (K + L) := by
  refine ⟨fun b c p h8 hp hm => ?_, fun b p a q h8 hp hm => ?_, fun b p h8 hp hm => ?_, fun b p k h8 hk hp => ?_, fun b p e hm => ?_⟩
  · cases h : g b p with
    | miss => exact absurd (bindG_miss f h) hm
    | bad e => rw [bindG_bad f h, bindG_bad f (by rw [hg.more b c p h8 hp (by rw [h]; simp), h])]
    | ok a q =>
      have h' := hg.more b c p h8 hp (by rw [h]; simp)
      rw [h] at h'
      rw [bindG_ok f h] at hm ⊢
      rw [bindG_ok f h']
      exact (hf a).more b c q h8 (hg.le b p a q h8 hp h).2.1 hm
  · cases h : g b p with
    | miss => rw [bindG_miss f h] at hm; exact absurd hm (by simp)
    | bad e => rw [bindG_bad f h] at hm; exact absurd hm (by simp)
    | ok a' q' =>
      rw [bindG_ok f h] at hm
      have h1 := hg.le b p a' q' h8 hp h
      have h2 := (hf a').le b q' a q h8 h1.2.1 hm
      omega
  · cases h : g b p with
    | miss => have := hg.lack b p h8 hp h; omega
    | bad e => rw [bindG_bad f h] at hm; exact absurd hm (by simp)
    | ok a' q' =>
      rw [bindG_ok f h] at hm
      have h1 := hg.le b p a' q' h8 hp h
      have h2 := (hf a').lack b q' h8 h1.2.1 hm
      omega
  · have hs := hg.shift b p k h8 hk hp
    cases h : g b p with
    | miss => rw [h] at hs; rw [bindG_miss f h, bindG_miss f hs]; rfl
    | bad e => rw [h] at hs; rw [bindG_bad f h, bindG_bad f hs]; rfl
    | ok a q =>
      rw [h] at hs
      have h1 := hg.le b p a q h8 hp h
      rw [bindG_ok f h, bindG_ok f hs]
      exact (hf a).shift b q k h8 (by omega) h1.2.1
  · cases h : g b p with
    | miss => rw [bindG_miss f h] at hm; cases hm
    | bad e' => rw [bindG_bad f h] at hm; injection hm with hm; exact hm ▸ hg.errs b p e' h
    | ok a q => rw [bindG_ok f h] at hm; exact (hf a).errs b q e hm

theorem go_more (l : List Int) (z : List Int) : ∀ (f n : Nat) (c : Int) (bits : List Int), go l f n c bits ≠ .short → go l f n c (bits ++ z) = go l f n c bits
  | 0, _, _, _, _ => rfl
  | f + 1, n, c, bits, h => by
    rw [go_succ] at h
    rw [go_succ, go_succ]
    by_cases h1 : mostOf l 15 < (n : Int)
    · rw [if_pos h1, if_pos h1]
    · rw [if_neg h1] at h ⊢
      rw [if_neg h1]
      cases bits with
      | nil => exact absurd rfl h
      | cons b rest =>
        simp only [List.cons_append]
        by_cases h2 : 2 * c + b - fc l n < cnt l (n : Int)
        · rw [if_pos h2, if_pos h2]
        · simp only [if_neg h2] at h ⊢
          exact go_more l z f (n + 1) _ rest h
theorem go_sym_le (l : List Int) : ∀ (f n : Nat) (c : Int) (bits : List Int) (s : Int) (k : Nat), go l f n c bits = .sym s k → n ≤ k ∧ k + 1 ≤ n + bits.length ∧ k ≤ 15
  | 0, _, _, _, _, _, h => by simp [go] at h
  | f + 1, n, c, bits, s, k, h => by
    have hL := most_le l 15
    rw [go_succ] at h
    by_cases h1 : mostOf l 15 < (n : Int)
    · rw [if_pos h1] at h; cases h
    · rw [if_neg h1] at h
      cases bits with
      | nil => cases h
      | cons b rest =>
        simp only at h
        by_cases h2 : 2 * c + b - fc l n < cnt l (n : Int)
        · rw [if_pos h2] at h
          injection h with h3 h4
          rw [List.length_cons]
          omega
        · rw [if_neg h2] at h
          have := go_sym_le l f (n + 1) _ rest s k h
          rw [List.length_cons]
          omega
theorem go_short_le (l : List Int) : ∀ (f n : Nat) (c : Int) (bits : List Int), go l f n c bits = .short → n + bits.length ≤ 15
  | 0, _, _, _, h => by simp [go] at h
  | f + 1, n, c, bits, h => by
    have hL := most_le l 15
    rw [go_succ] at h
    by_cases h1 : mostOf l 15 < (n : Int)
    · rw [if_pos h1] at h; cases h
    · rw [if_neg h1] at h
      cases bits with
      | nil => rw [List.length_nil]; omega
      | cons b rest =>
        simp only at h
        by_cases h2 : 2 * c + b - fc l n < cnt l (n : Int)
        · rw [if_pos h2] at h; cases h
        · rw [if_neg h2] at h
          have := go_short_le l f (n + 1) _ rest h
          rw [List.length_cons]
          omega
theorem told_le {l bits : List Int} {s : Int} {k : Nat} (h : told l bits = .sym s k) : 1 ≤ k ∧ k ≤ bits.length ∧ k ≤ 15 := by
  have := go_sym_le l 16 1 0 bits s k h
  omega
theorem symG_eq (l b : List Int) (p : Nat) : symG l b p = match told l (b.drop p) with
  | .sym s n => .ok s (p + n)
  | .short => .miss
  | .form => .bad 11 := rfl
theorem fine_sym (l : List Int) : Fine (symG l) 15 := by
  refine ⟨fun b c p h8 hp hg => ?_, fun b p a q h8 hp hg => ?_, fun b p h8 hp hg => ?_, fun b p k h8 hk hp => ?_, fun b p e hg => ?_⟩
  · have hne : told l (b.drop p) ≠ .short := by
      intro h
      rw [symG_eq, h] at hg
      exact hg rfl
    rw [symG_eq, symG_eq, List.drop_append_of_le_length hp, told, go_more l c 16 1 0 _ hne]
    rfl
  · rw [symG_eq] at hg
    cases h : told l (b.drop p) with
    | sym s n =>
      rw [h] at hg
      injection hg with h1 h2
      have := told_le h
      rw [List.length_drop] at this
      omega
    | short => rw [h] at hg; cases hg
    | form => rw [h] at hg; cases hg
  · rw [symG_eq] at hg
    cases h : told l (b.drop p) with
    | sym s n => rw [h] at hg; cases hg
    | short =>
      have := go_short_le l 16 1 0 _ h
      rw [List.length_drop] at this
      omega
    | form => rw [h] at hg; cases hg
  · rw [symG_eq, symG_eq, List.drop_drop, show 8 * k + (p - 8 * k) = p by omega]
    cases h : told l (b.drop p) with
    | sym s n =>
      simp only [back]
      rw [show p - 8 * k + n = p + n - 8 * k by omega]
    | short => rfl
    | form => rfl
  · rw [symG_eq] at hg
    cases h : told l (b.drop p) with
    | sym s n => rw [h] at hg; cases hg
    | short => rw [h] at hg; cases hg
    | form => rw [h] at hg; injection hg with hg; omega

/-- One run of equal lengths: of which, and how many. -/
def runG (l acc : List Int) : G (Int × Int) := bindG (symG l) fun s =>
  if s = 16 then bindG (refG (decide (acc.length = 0)) 11) fun _ => bindG (numG 2) fun v => pureG (acc[acc.length - 1]?.getD 0, v + 3)
  else if s = 17 then bindG (numG 3) fun v => pureG (0, v + 3)
  else if s = 18 then bindG (numG 7) fun v => pureG (0, v + 11)
  else pureG (s, 1)
def rowG (l : List Int) (many : Nat) : Nat → List Int → G (List Int)
  | 0, acc => pureG acc
  | f + 1, acc => if many ≤ acc.length then pureG acc else bindG (runG l acc) fun r => bindG (refG (decide ((many : Int) - acc.length < r.2)) 11) fun _ => rowG l many f (acc ++ List.replicate r.2.toNat r.1)
def turnsL : List Int := [16, 17, 18, 0, 8, 7, 9, 6, 10, 5, 11, 4, 12, 3, 13, 2, 14, 1, 15]
/-- The lengths of lengths: n more, from the i-th on. -/
def hdrG : Nat → Nat → List Int → G (List Int)
  | 0, _, acc => pureG acc
  | n + 1, i, acc => bindG (numG 3) fun v => hdrG n (i + 1) (acc.set (turnsL.getD i 0).toNat v)
def dynG : G (List Int × List Int) := bindG (numG 5) fun a => bindG (numG 5) fun d => bindG (numG 4) fun c => bindG (refG (decide (286 < a + 257) || decide (30 < d + 1)) 11) fun _ =>
  bindG (hdrG (min (c + 4).toNat 19) 0 (List.replicate 19 0)) fun t => bindG (refG (!mayB t) 11) fun _ => bindG (rowG t (a + d + 258).toNat 320 []) fun l =>
  bindG (refG (!mayB (l.take (a + 257).toNat) || !mayB (l.drop (a + 257).toNat)) 11) fun _ => pureG (l.take (a + 257).toNat, l.drop (a + 257).toNat)
def fixL : List Int := List.replicate 144 8 ++ List.replicate 112 9 ++ List.replicate 24 7 ++ List.replicate 8 8
def fixD : List Int := List.replicate 32 5
theorem fine_if {α : Type} {c : Prop} [Decidable c] {g h : G α} {K : Nat} (hg : Fine g K) (hh : Fine h K) : Fine (if c then g else h) K := by
  split
  · exact hg
  · exact hh
theorem fine_run (l acc : List Int) : Fine (runG l acc) 22 := by
  unfold runG
  refine Fine.mono (fine_bind (fine_sym l) (L := 7) fun s => ?_) (by omega)
  exact fine_if (Fine.mono (fine_bind (fine_ref _ _ (by decide)) fun _ => fine_bind (fine_num 2) fun v => fine_pure _) (by omega)) (fine_if (Fine.mono (fine_bind (fine_num 3) fun v => fine_pure _) (by omega)) (fine_if (Fine.mono (fine_bind (fine_num 7) fun v => fine_pure _) (by omega)) ((fine_pure _).mono (by omega))))
theorem fine_row (l : List Int) (many : Nat) : ∀ f acc, Fine (rowG l many f acc) (22 * f)
  | 0, acc => (fine_pure acc).mono (by omega)
  | f + 1, acc => by
    unfold rowG
    exact fine_if ((fine_pure acc).mono (by omega)) (Fine.mono (fine_bind (fine_run l acc) fun r => fine_bind (fine_ref _ _ (by decide)) fun _ => fine_row l many f _) (by omega))
theorem fine_hdr : ∀ n i acc, Fine (hdrG n i acc) (3 * n)
  | 0, _, acc => (fine_pure acc).mono (by omega)
  | n + 1, i, acc => by
    unfold hdrG
    exact Fine.mono (fine_bind (fine_num 3) fun v => fine_hdr n (i + 1) _) (by omega)
theorem fine_dyn : Fine dynG 7111 := by
  unfold dynG
  refine Fine.mono (fine_bind (fine_num 5) fun a => fine_bind (fine_num 5) fun d => fine_bind (fine_num 4) fun c => fine_bind (fine_ref _ _ (by decide)) fun _ => fine_bind (K := 57) ((fine_hdr _ _ _).mono (by omega)) fun t => fine_bind (fine_ref _ _ (by decide)) fun _ => fine_bind (fine_row t _ 320 []) fun l => fine_bind (fine_ref _ _ (by decide)) fun _ => fine_pure _) (by omega)

/-- How far a text was read: what comes next (0: a block, 1: bytes, 2: symbols, 3: nothing), whether it is the last block, how many bytes are left, the codes' lengths, and what was told. -/
structure St where
  ph : Int
  last : Bool
  left : Nat
  ls : List Int
  ds : List Int
  out : List Int
def St.closed (s : St) : St := { s with ph := if s.last then 3 else 0, ls := [], ds := [] }
def openG (most : Int) (s : St) : G St := bindG (numG 1) fun a => bindG (numG 2) fun k =>
  if k = 0 then bindG alignG fun _ => bindG (numG 16) fun n => bindG (numG 16) fun m => bindG (refG (decide (n + m ≠ 65535)) 11) fun _ => bindG (refG (decide (most < s.out.length + n)) 12) fun _ =>
    pureG { s with ph := 1, last := decide (a = 1), left := n.toNat, ls := [], ds := [] }
  else if k = 1 then pureG { s with ph := 2, last := decide (a = 1), left := 0, ls := fixL, ds := fixD }
  else if k = 2 then bindG dynG fun l => pureG { s with ph := 2, last := decide (a = 1), left := 0, ls := l.1, ds := l.2 }
  else bindG (refG true 11) fun _ => pureG s
def byteG (s : St) : G St := if s.left = 0 then pureG s.closed else bindG (numG 8) fun v =>
  pureG (if s.left = 1 then St.closed { s with left := 0, out := s.out ++ [v] } else { s with left := s.left - 1, out := s.out ++ [v] })
/-- A match, behind its length's symbol: how many bytes, from how far. -/
def matchG (s : Int) (ds : List Int) (n : Nat) (most : Int) : G (Int × Int) := bindG (refG (decide (28 < s)) 11) fun _ => bindG (numG (lmore s).toNat) fun k => bindG (symG ds) fun d => bindG (refG (decide (29 < d)) 11) fun _ =>
  bindG (numG (dmore d).toNat) fun j => bindG (refG (decide ((n : Int) < dists.getD d.toNat 0 + j)) 11) fun _ => bindG (refG (decide (most < n + (lens.getD s.toNat 0 + k))) 12) fun _ => pureG (lens.getD s.toNat 0 + k, dists.getD d.toNat 0 + j)
def codeG (most : Int) (s : St) : G St := bindG (symG s.ls) fun x =>
  if x < 256 then bindG (refG (decide (most < s.out.length + 1)) 12) fun _ => pureG { s with out := s.out ++ [x] }
  else if x = 256 then pureG s.closed
  else bindG (matchG (x - 257) s.ds s.out.length most) fun m => pureG { s with out := rep s.out m.1.toNat m.2.toNat }
def stepG (most : Int) (s : St) : G St := if s.ph = 0 then openG most s else if s.ph = 1 then byteG s else codeG most s
theorem fine_open (most : Int) (s : St) : Fine (openG most s) 7200 := by
  unfold openG
  refine Fine.mono (fine_bind (fine_num 1) fun a => fine_bind (fine_num 2) (L := 7111) fun k => ?_) (by omega)
  refine fine_if (Fine.mono (fine_bind fine_align fun _ => fine_bind (fine_num 16) fun n => fine_bind (fine_num 16) fun m => fine_bind (fine_ref _ _ (by decide)) fun _ => fine_bind (fine_ref _ _ (by decide)) fun _ => fine_pure _) (by omega)) (fine_if ((fine_pure _).mono (by omega)) (fine_if (Fine.mono (fine_bind fine_dyn fun _ => fine_pure _) (by omega)) (Fine.mono (fine_bind (fine_ref _ _ (by decide)) fun _ => fine_pure _) (by omega))))
theorem fine_byte (s : St) : Fine (byteG s) 8 := by
  unfold byteG
  exact fine_if ((fine_pure _).mono (by omega)) (Fine.mono (fine_bind (fine_num 8) fun v => fine_pure _) (by omega))
theorem lmore_le (s : Int) (h : s ≤ 28) : (lmore s).toNat ≤ 5 := by unfold lmore; split <;> omega
theorem dmore_le (s : Int) (h : s ≤ 29) : (dmore s).toNat ≤ 13 := by unfold dmore; split <;> omega
theorem fine_ref_bind {β : Type} {c : Prop} [Decidable c] {why : Int} {f : Unit → G β} {K : Nat} (hw : why = 11 ∨ why = 12) (hf : ¬ c → Fine (f ()) K) : Fine (bindG (refG (decide c) why) f) K := by
  by_cases h : c
  · have : bindG (refG (decide c) why) f = bindG (refG true why) fun _ => (fun _ _ => .miss) := by
      funext b p
      rw [decide_eq_true h]
      rfl
    have e : ∀ b p, bindG (refG (decide c) why) f b p = .bad why := fun b p => by rw [this]; rfl
    exact ⟨fun b c' p _ _ _ => by rw [e, e], fun b p a q _ _ hg => (by rw [e] at hg; cases hg), fun b p _ _ hg => (by rw [e] at hg; cases hg), fun b p k _ _ _ => (by rw [e, e]; rfl), fun b p e' hg => by rw [e] at hg; injection hg with hg; omega⟩
  · have e : bindG (refG (decide c) why) f = f () := by
      funext b p
      rw [decide_eq_false h]
      rfl
    rw [e]
    exact hf h
theorem fine_match (s : Int) (ds : List Int) (n : Nat) (most : Int) : Fine (matchG s ds n most) 33 := by
  unfold matchG
  refine fine_ref_bind (by decide) fun h1 => ?_
  refine Fine.mono (fine_bind (K := 5) ((fine_num _).mono (lmore_le s (by omega))) fun k => fine_bind (fine_sym ds) (L := 13) fun d => ?_) (by omega)
  refine fine_ref_bind (by decide) fun h2 => ?_
  exact Fine.mono (fine_bind (K := 13) ((fine_num _).mono (dmore_le d (by omega))) fun j => fine_bind (fine_ref _ _ (by decide)) fun _ => fine_bind (fine_ref _ _ (by decide)) fun _ => fine_pure _) (by omega)
theorem fine_code (most : Int) (s : St) : Fine (codeG most s) 48 := by
  unfold codeG
  refine Fine.mono (fine_bind (fine_sym s.ls) (L := 33) fun x => ?_) (by omega)
  exact fine_if (Fine.mono (fine_bind (fine_ref _ _ (by decide)) fun _ => fine_pure _) (by omega)) (fine_if ((fine_pure _).mono (by omega)) (Fine.mono (fine_bind (fine_match _ _ _ _) fun _ => fine_pure _) (by omega)))
theorem fine_step (most : Int) (s : St) : Fine (stepG most s) 7200 := by
  unfold stepG
  exact fine_if (fine_open most s) (fine_if ((fine_byte s).mono (by omega)) ((fine_code most s).mono (by omega)))
end Go.Proofs.YthflefdchgpbdaaDoor.Inf

namespace Go.Proofs.YthflefdchgpbdaaDoor.Inf
open Go.RowKit Go.Proofs.YthflefdchgpbdaaDoor.Kit Go.Proofs.YthflefdchgpbdaaDoor.Bits Go.Proofs.YthflefdchgpbdaaDoor.Huf Go.Proofs.YthflefdchgpbdaaDoor.Df

theorem bindG_inv {α β : Type} {g : G α} {f : α → G β} {b : List Int} {p r : Nat} {c : β} (h : bindG g f b p = .ok c r) : ∃ a q, g b p = .ok a q ∧ f a b q = .ok c r := by
  cases hg : g b p with
  | miss => rw [bindG_miss f hg] at h; cases h
  | bad e => rw [bindG_bad f hg] at h; cases h
  | ok a q => rw [bindG_ok f hg] at h; exact ⟨a, q, rfl, h⟩
theorem refG_inv {is : Bool} {why : Int} {b : List Int} {p q : Nat} {u : Unit} (h : refG is why b p = .ok u q) : is = false ∧ q = p := by
  cases is
  · rw [refG_no] at h; injection h with _ h2; exact ⟨rfl, h2.symm⟩
  · rw [refG_yes] at h; cases h
theorem numG_inv {n : Nat} {b : List Int} {p q : Nat} {v : Int} (hb : Bit b) (h : numG n b p = .ok v q) : q = p + n ∧ q ≤ b.length ∧ 0 ≤ v ∧ v < 2 ^ n ∧ v = val ((b.drop p).take n) := by
  unfold numG at h
  by_cases hl : p + n ≤ b.length
  · rw [if_pos hl] at h
    injection h with h1 h2
    have hv := val_bd ((hb.drop p).take n)
    rw [List.length_take, List.length_drop, Nat.min_eq_left (by omega)] at hv
    exact ⟨h2.symm, by omega, by omega, by omega, h1.symm⟩
  · rw [if_neg hl] at h; cases h
theorem symG_inv {l b : List Int} {p q : Nat} {s : Int} (h : symG l b p = .ok s q) : ∃ n, told l (b.drop p) = .sym s n ∧ q = p + n ∧ 1 ≤ n ∧ n ≤ 15 := by
  rw [symG_eq] at h
  cases ht : told l (b.drop p) with
  | sym s' n =>
    rw [ht] at h
    injection h with h1 h2
    have := told_le ht
    exact ⟨n, by rw [h1], h2.symm, by omega, by omega⟩
  | short => rw [ht] at h; cases h
  | form => rw [ht] at h; cases h
theorem told_lt {l bits : List Int} {s : Int} {n : Nat} (h : mayB l = true) (ho : Octets l) (hb : Bit bits) (ht : told l bits = .sym s n) : 0 ≤ s ∧ s < l.length := by
  have := told_right h ho bits hb
  rw [ht] at this
  obtain ⟨j, rfl, hm, _⟩ := this
  have := hm.1
  omega
theorem Octets.append {a b : List Int} (ha : Octets a) (hb : Octets b) : Octets (a ++ b) := fun x hx => (List.mem_append.1 hx).elim (ha x) (hb x)
theorem rep_octets {xs : List Int} (h : Octets xs) (n d : Nat) : Octets (rep xs n d) := by
  induction n with
  | zero => exact h
  | succ n ih =>
    rw [rep]
    exact Octets.append ih (fun x hx => by rw [List.mem_singleton.1 hx]; exact ih.at_ _)
theorem rep_begin (xs : List Int) (n d : Nat) : xs <+: rep xs n d := by
  induction n with
  | zero => exact List.prefix_refl _
  | succ n ih => rw [rep]; exact ih.trans (List.prefix_append _ _)

theorem Octets.replicate {v : Int} (hv : 0 ≤ v ∧ v ≤ 255) (n : Nat) : Octets (List.replicate n v) := fun x hx => by rw [(List.mem_replicate.1 hx).2]; exact hv
theorem run_ok {l acc b : List Int} {p q : Nat} {r : Int × Int} (hb : Bit b) (hm : mayB l = true) (ho : Octets l) (hl : l.length ≤ 19) (ha : Octets acc) (h : runG l acc b p = .ok r q) : 0 ≤ r.1 ∧ r.1 ≤ 255 ∧ 1 ≤ r.2 ∧ r.2 ≤ 138 := by
  unfold runG at h
  obtain ⟨s, q1, h1, h⟩ := bindG_inv h
  obtain ⟨n, ht, _⟩ := symG_inv h1
  have hs := told_lt hm ho (hb.drop p) ht
  by_cases c1 : s = 16
  · rw [if_pos c1] at h
    obtain ⟨_, q2, _, h⟩ := bindG_inv h
    obtain ⟨v, q3, h3, h⟩ := bindG_inv h
    have := numG_inv hb h3
    injection h with h4
    subst h4
    have := ha.at_ (acc.length - 1)
    simp only
    omega
  rw [if_neg c1] at h
  by_cases c2 : s = 17
  · rw [if_pos c2] at h
    obtain ⟨v, q3, h3, h⟩ := bindG_inv h
    have := numG_inv hb h3
    injection h with h4
    subst h4
    simp only
    omega
  rw [if_neg c2] at h
  by_cases c3 : s = 18
  · rw [if_pos c3] at h
    obtain ⟨v, q3, h3, h⟩ := bindG_inv h
    have := numG_inv hb h3
    injection h with h4
    subst h4
    simp only
    omega
  · rw [if_neg c3] at h
    injection h with h4
    subst h4
    simp only
    omega
theorem row_ok {l b : List Int} {many : Nat} (hb : Bit b) (hm : mayB l = true) (ho : Octets l) (hl : l.length ≤ 19) : ∀ (f : Nat) {acc ys : List Int} {p q : Nat}, Octets acc → acc.length ≤ many → many ≤ acc.length + f → rowG l many f acc b p = .ok ys q → Octets ys ∧ ys.length = many
  | 0, acc, ys, p, q, ha, h1, h2, h => by
    injection h with h3
    subst h3
    exact ⟨ha, by omega⟩
  | f + 1, acc, ys, p, q, ha, h1, h2, h => by
    unfold rowG at h
    by_cases c : many ≤ acc.length
    · rw [if_pos c] at h
      injection h with h3
      subst h3
      exact ⟨ha, by omega⟩
    · rw [if_neg c] at h
      obtain ⟨r, q1, h3, h⟩ := bindG_inv h
      have hr := run_ok hb hm ho hl ha h3
      obtain ⟨_, q2, h4, h⟩ := bindG_inv h
      have h5 := of_decide_eq_false (refG_inv h4).1
      refine row_ok hb hm ho hl f (Octets.append ha (Octets.replicate ⟨hr.1, hr.2.1⟩ _)) ?_ ?_ h
      · rw [List.length_append, List.length_replicate]; omega
      · rw [List.length_append, List.length_replicate]; omega
theorem hdr_ok {b : List Int} (hb : Bit b) : ∀ (n i : Nat) {acc t : List Int} {p q : Nat}, Octets acc → acc.length = 19 → hdrG n i acc b p = .ok t q → Octets t ∧ t.length = 19
  | 0, i, acc, t, p, q, ha, h1, h => by
    injection h with h3
    subst h3
    exact ⟨ha, h1⟩
  | n + 1, i, acc, t, p, q, ha, h1, h => by
    unfold hdrG at h
    obtain ⟨v, q1, h3, h⟩ := bindG_inv h
    have hv := numG_inv hb h3
    refine hdr_ok hb n (i + 1) (fun x hx => ?_) (by rw [List.length_set]; exact h1) h
    rcases List.mem_or_eq_of_mem_set hx with hx | rfl
    · exact ha x hx
    · omega
theorem dyn_ok {b : List Int} {p q : Nat} {r : List Int × List Int} (hb : Bit b) (h : dynG b p = .ok r q) : mayB r.1 = true ∧ Octets r.1 ∧ r.1.length ≤ 286 ∧ mayB r.2 = true ∧ Octets r.2 ∧ r.2.length ≤ 30 ∧ 1 ≤ r.2.length := by
  unfold dynG at h
  obtain ⟨a, q1, h1, h⟩ := bindG_inv h
  obtain ⟨d, q2, h2, h⟩ := bindG_inv h
  obtain ⟨c, q3, h3, h⟩ := bindG_inv h
  obtain ⟨_, q4, h4, h⟩ := bindG_inv h
  obtain ⟨t, q5, h5, h⟩ := bindG_inv h
  obtain ⟨_, q6, h6, h⟩ := bindG_inv h
  obtain ⟨l, q7, h7, h⟩ := bindG_inv h
  obtain ⟨_, q8, h8, h⟩ := bindG_inv h
  have k1 := numG_inv hb h1
  have k2 := numG_inv hb h2
  have k4 := (refG_inv h4).1
  have k6 := (refG_inv h6).1
  have k8 := (refG_inv h8).1
  rw [Bool.or_eq_false_iff, decide_eq_false_iff_not, decide_eq_false_iff_not] at k4
  rw [Bool.or_eq_false_iff, Bool.not_eq_false', Bool.not_eq_false'] at k8
  rw [Bool.not_eq_false'] at k6
  have kt := hdr_ok hb _ _ (Octets.replicate (by omega) 19) (List.length_replicate ..) h5
  have kl := row_ok hb k6 kt.1 (by omega) 320 (fun _ h => absurd h (by simp)) (by simp) (by simp; omega) h7
  injection h with h9
  subst h9
  refine ⟨k8.1, kl.1.head _, ?_, k8.2, kl.1.tail _, ?_, ?_⟩
  · rw [List.length_take]; omega
  · rw [List.length_drop, kl.2]; omega
  · rw [List.length_drop, kl.2]; omega
theorem fix_ok : mayB fixL = true ∧ Octets fixL ∧ fixL.length = 288 ∧ mayB fixD = true ∧ Octets fixD ∧ fixD.length = 32 := by
  refine ⟨by decide +kernel, ?_, by simp only [fixL, List.length_append, List.length_replicate], by decide +kernel, Octets.replicate (by omega) 32, by simp only [fixD, List.length_replicate]⟩
  exact Octets.append (Octets.append (Octets.append (Octets.replicate (by omega) _) (Octets.replicate (by omega) _)) (Octets.replicate (by omega) _)) (Octets.replicate (by omega) _)

/-- Where it stands, all is as it may be. -/
structure SOk (most : Int) (s : St) (p : Nat) : Prop where
  ph : s.ph = 0 ∨ s.ph = 1 ∨ s.ph = 2 ∨ s.ph = 3
  len : (s.out.length : Int) ≤ most
  oct : Octets s.out
  left : s.ph = 1 → ((s.out.length + s.left : Nat) : Int) ≤ most ∧ s.left ≤ 65535 ∧ p % 8 = 0
  codes : s.ph = 2 → mayB s.ls = true ∧ Octets s.ls ∧ mayB s.ds = true ∧ Octets s.ds
  lists : s.ls.length ≤ 288 ∧ s.ds.length ≤ 32
  none : s.ph ≠ 2 → s.ls = [] ∧ s.ds = []
theorem SOk.closed {most : Int} {s : St} {p : Nat} (q : Nat) (h : SOk most s p) : SOk most s.closed q := by
  have hp : s.closed.ph = 0 ∨ s.closed.ph = 3 := by
    show (if s.last then (3 : Int) else 0) = 0 ∨ (if s.last then (3 : Int) else 0) = 3
    split <;> omega
  exact ⟨by omega, h.len, h.oct, fun e => by omega, fun e => by omega, ⟨by show ([] : List Int).length ≤ 288; simp, by show ([] : List Int).length ≤ 32; simp⟩, fun _ => ⟨rfl, rfl⟩⟩
/-- How much there is to do at most. -/
def todo (n : Nat) (s : St) (p : Nat) : Nat := 2 * (n - p) + if s.ph = 1 then 1 else 0
/-- A step leaves all as it may be, tells more, or the same, and leaves less to do. -/
structure Stepped (most : Int) (b : List Int) (s s' : St) (p q : Nat) : Prop where
  ok : SOk most s' q
  out : s.out <+: s'.out
  le : p ≤ q ∧ q ≤ b.length
  less : todo b.length s' q < todo b.length s p
theorem open_ok {most : Int} {s s' : St} {b : List Int} {p q : Nat} (hb : Bit b) (h8 : b.length % 8 = 0) (hp : p ≤ b.length) (hs : SOk most s p) (h : openG most s b p = .ok s' q) : Stepped most b s s' p q := by
  have hle := (fine_open most s).le b p s' q h8 hp h
  have hless : p + 3 ≤ q → todo b.length s' q < todo b.length s p := by
    intro h3
    unfold todo
    split <;> split <;> omega
  unfold openG at h
  obtain ⟨a, q1, h1, h⟩ := bindG_inv h
  obtain ⟨k, q2, h2, h⟩ := bindG_inv h
  have k1 := numG_inv hb h1
  have k2 := numG_inv hb h2
  by_cases c0 : k = 0
  · rw [if_pos c0] at h
    obtain ⟨_, q3, h3, h⟩ := bindG_inv h
    obtain ⟨n, q4, h4, h⟩ := bindG_inv h
    obtain ⟨m, q5, h5, h⟩ := bindG_inv h
    obtain ⟨_, q6, h6, h⟩ := bindG_inv h
    obtain ⟨_, q7, h7, h⟩ := bindG_inv h
    injection h3 with h31 h32
    have k4 := numG_inv hb h4
    have k5 := numG_inv hb h5
    have k6 := refG_inv h6
    have k7 := refG_inv h7
    have k8 := of_decide_eq_false k7.1
    injection h with h91 h92
    subst h91
    refine ⟨⟨.inr (.inl rfl), hs.len, hs.oct, fun _ => ⟨?_, ?_, ?_⟩, fun e => absurd e (by simp), ⟨by simp, by simp⟩, fun _ => ⟨rfl, rfl⟩⟩, List.prefix_refl _, ⟨hle.1, hle.2.1⟩, hless (by omega)⟩
    · simp only; omega
    · simp only; omega
    · omega
  rw [if_neg c0] at h
  by_cases c1 : k = 1
  · rw [if_pos c1] at h
    injection h with h91 h92
    subst h91
    refine ⟨⟨.inr (.inr (.inl rfl)), hs.len, hs.oct, fun e => absurd e (by simp), fun _ => ⟨fix_ok.1, fix_ok.2.1, fix_ok.2.2.2.1, fix_ok.2.2.2.2.1⟩, ⟨by rw [fix_ok.2.2.1]; omega, by rw [fix_ok.2.2.2.2.2]; omega⟩, fun e => absurd rfl e⟩, List.prefix_refl _, ⟨hle.1, hle.2.1⟩, hless (by omega)⟩
  rw [if_neg c1] at h
  by_cases c2 : k = 2
  · rw [if_pos c2] at h
    obtain ⟨l, q3, h3, h⟩ := bindG_inv h
    have k3 := dyn_ok hb h3
    have k4 := fine_dyn.le b q2 l q3 h8 (by omega) h3
    injection h with h91 h92
    subst h91
    refine ⟨⟨.inr (.inr (.inl rfl)), hs.len, hs.oct, fun e => absurd e (by simp), fun _ => ⟨k3.1, k3.2.1, k3.2.2.2.1, k3.2.2.2.2.1⟩, ⟨by have := k3.2.2.1; simp only; omega, by have := k3.2.2.2.2.2.1; simp only; omega⟩, fun e => absurd rfl e⟩, List.prefix_refl _, ⟨hle.1, hle.2.1⟩, hless (by omega)⟩
  · rw [if_neg c2] at h
    obtain ⟨_, _, h3, h⟩ := bindG_inv h
    exact absurd (refG_inv h3).1 (by simp)
theorem byte_ok {most : Int} {s s' : St} {b : List Int} {p q : Nat} (hb : Bit b) (h8 : b.length % 8 = 0) (hp : p ≤ b.length) (hs : SOk most s p) (h1 : s.ph = 1) (h : byteG s b p = .ok s' q) : Stepped most b s s' p q := by
  have hle := (fine_byte s).le b p s' q h8 hp h
  have hl := hs.left h1
  unfold byteG at h
  by_cases c0 : s.left = 0
  · rw [if_pos c0] at h
    injection h with h91 h92
    subst h91 h92
    refine ⟨hs.closed _, List.prefix_refl _, ⟨hle.1, hle.2.1⟩, ?_⟩
    unfold todo
    rw [if_pos h1, if_neg]
    · omega
    · show ¬ (if s.last then (3 : Int) else 0) = 1
      split <;> omega
  · rw [if_neg c0] at h
    obtain ⟨v, q1, h2, h⟩ := bindG_inv h
    have k2 := numG_inv hb h2
    injection h with h91 h92
    have hlen : (s.out ++ [v]).length = s.out.length + 1 := by simp
    have hov : Octets (s.out ++ [v]) := Octets.append hs.oct (fun x hx => by rw [List.mem_singleton.1 hx]; omega)
    have hst : SOk most { s with left := s.left - 1, out := s.out ++ [v] } q := by
      refine ⟨hs.ph, by simp only; rw [hlen]; omega, hov, fun _ => ⟨?_, ?_, ?_⟩, fun e => by simp only at e; omega, hs.lists, fun _ => hs.none (by omega)⟩
      · simp only; rw [hlen]; omega
      · simp only; omega
      · omega
    by_cases c1 : s.left = 1
    · rw [if_pos c1] at h91
      subst h91
      have hst2 : SOk most { s with left := 0, out := s.out ++ [v] } q := by
        rw [c1] at hst
        exact hst
      refine ⟨hst2.closed _, ⟨[v], rfl⟩, ⟨hle.1, hle.2.1⟩, ?_⟩
      unfold todo
      rw [if_pos h1]
      split <;> omega
    · rw [if_neg c1] at h91
      subst h91
      refine ⟨hst, ⟨[v], rfl⟩, ⟨hle.1, hle.2.1⟩, ?_⟩
      show 2 * (b.length - q) + (if s.ph = 1 then 1 else 0) < 2 * (b.length - p) + (if s.ph = 1 then 1 else 0)
      rw [if_pos h1]
      omega
theorem match_ok {s : Int} {ds b : List Int} {n : Nat} {most : Int} {p q : Nat} {m : Int × Int} (hb : Bit b) (hm : mayB ds = true) (ho : Octets ds) (hs : 0 ≤ s) (h : matchG s ds n most b p = .ok m q) : s ≤ 28 ∧ 3 ≤ m.1 ∧ m.1 ≤ 300 ∧ 1 ≤ m.2 ∧ m.2 ≤ n ∧ n + m.1 ≤ most := by
  unfold matchG at h
  obtain ⟨_, q1, h1, h⟩ := bindG_inv h
  obtain ⟨k, q2, h2, h⟩ := bindG_inv h
  obtain ⟨d, q3, h3, h⟩ := bindG_inv h
  obtain ⟨_, q4, h4, h⟩ := bindG_inv h
  obtain ⟨j, q5, h5, h⟩ := bindG_inv h
  obtain ⟨_, q6, h6, h⟩ := bindG_inv h
  obtain ⟨_, q7, h7, h⟩ := bindG_inv h
  have k1 := of_decide_eq_false (refG_inv h1).1
  have k2 := numG_inv hb h2
  obtain ⟨t, ht, _⟩ := symG_inv h3
  have k3 := told_lt hm ho (hb.drop _) ht
  have k4 := of_decide_eq_false (refG_inv h4).1
  have k5 := numG_inv hb h5
  have k6 := of_decide_eq_false (refG_inv h6).1
  have k7 := of_decide_eq_false (refG_inv h7).1
  have l1 := lens_bd s.toNat (by omega)
  have l2 := dists_bd d.toNat (by omega)
  have l3 : (2 : Int) ^ (lmore s).toNat ≤ 2 ^ 5 := p2_le (lmore_le s (by omega))
  injection h with h9
  subst h9
  simp only
  omega
theorem code_ok {most : Int} {s s' : St} {b : List Int} {p q : Nat} (hb : Bit b) (h8 : b.length % 8 = 0) (hp : p ≤ b.length) (hs : SOk most s p) (h1 : s.ph = 2) (h : codeG most s b p = .ok s' q) : Stepped most b s s' p q := by
  have hle := (fine_code most s).le b p s' q h8 hp h
  obtain ⟨hm1, ho1, hm2, ho2⟩ := hs.codes h1
  unfold codeG at h
  obtain ⟨x, q1, h2, h⟩ := bindG_inv h
  obtain ⟨n, ht, hq1, hn1, _⟩ := symG_inv h2
  have hx := told_lt hm1 ho1 (hb.drop p) ht
  have hless : ∀ t : St, t.ph ≠ 1 → p + 1 ≤ q → todo b.length t q < todo b.length s p := by
    intro t h3 h4
    unfold todo
    rw [if_neg h3, if_neg (by omega)]
    omega
  by_cases c0 : x < 256
  · rw [if_pos c0] at h
    obtain ⟨_, q2, h3, h⟩ := bindG_inv h
    have k3 := refG_inv h3
    have k4 := of_decide_eq_false k3.1
    injection h with h91 h92
    subst h91
    refine ⟨⟨hs.ph, by simp only; rw [List.length_append, List.length_singleton]; omega, Octets.append hs.oct (fun y hy => by rw [List.mem_singleton.1 hy]; omega), fun e => by simp only at e; omega, fun _ => ⟨hm1, ho1, hm2, ho2⟩, hs.lists, fun e => absurd h1 e⟩, ⟨[x], rfl⟩, ⟨hle.1, hle.2.1⟩, hless _ (by simp only; omega) (by omega)⟩
  rw [if_neg c0] at h
  by_cases c1 : x = 256
  · rw [if_pos c1] at h
    injection h with h91 h92
    subst h91
    refine ⟨hs.closed _, List.prefix_refl _, ⟨hle.1, hle.2.1⟩, hless _ ?_ (by omega)⟩
    show ¬ (if s.last then (3 : Int) else 0) = 1
    split <;> omega
  · rw [if_neg c1] at h
    obtain ⟨m, q2, h3, h⟩ := bindG_inv h
    have k3 := match_ok hb hm2 ho2 (by omega) h3
    have k4 := (fine_match (x - 257) s.ds s.out.length most).le b q1 m q2 h8 (by have := (fine_sym s.ls).le b p x q1 h8 hp h2; omega) h3
    injection h with h91 h92
    subst h91
    refine ⟨⟨hs.ph, by simp only; rw [rep_length]; omega, rep_octets hs.oct _ _, fun e => by simp only at e; omega, fun _ => ⟨hm1, ho1, hm2, ho2⟩, hs.lists, fun e => absurd h1 e⟩, rep_begin _ _ _, ⟨hle.1, hle.2.1⟩, hless _ (by simp only; omega) (by omega)⟩
theorem step_ok {most : Int} {s s' : St} {b : List Int} {p q : Nat} (hb : Bit b) (h8 : b.length % 8 = 0) (hp : p ≤ b.length) (hs : SOk most s p) (h3 : s.ph ≠ 3) (h : stepG most s b p = .ok s' q) : Stepped most b s s' p q := by
  unfold stepG at h
  rcases hs.ph with e | e | e | e
  · rw [if_pos e] at h; exact open_ok hb h8 hp hs h
  · rw [if_neg (by omega), if_pos e] at h; exact byte_ok hb h8 hp hs e h
  · rw [if_neg (by omega), if_neg (by omega)] at h; exact code_ok hb h8 hp hs e h
  · exact absurd e h3
end Go.Proofs.YthflefdchgpbdaaDoor.Inf

namespace Go.Proofs.YthflefdchgpbdaaDoor.Inf
open Go.RowKit Go.Proofs.YthflefdchgpbdaaDoor.Kit Go.Proofs.YthflefdchgpbdaaDoor.Bits Go.Proofs.YthflefdchgpbdaaDoor.Huf Go.Proofs.YthflefdchgpbdaaDoor.Df

/-- From one place another one is reached, step by step. -/
inductive Reach (most : Int) (b : List Int) (s : St) (p : Nat) : St → Nat → Prop where
  | refl : Reach most b s p s p
  | step {s1 s2 : St} {p1 p2 : Nat} : Reach most b s p s1 p1 → s1.ph ≠ 3 → stepG most s1 b p1 = .ok s2 p2 → Reach most b s p s2 p2
/-- There it stops: at the end (0, or 3: there is more), where bits are missing (2), or where it is wrong. -/
def Ends (most : Int) (b : List Int) (s : St) (p : Nat) (e : Int) : Prop :=
  (s.ph = 3 ∧ e = if (p + 7) / 8 * 8 < b.length then 3 else 0) ∨ (s.ph ≠ 3 ∧ ((stepG most s b p = .miss ∧ e = 2) ∨ stepG most s b p = .bad e))

theorem Reach.trans {most : Int} {b : List Int} {s t u : St} {p q r : Nat} (h : Reach most b s p t q) (g : Reach most b t q u r) : Reach most b s p u r := by
  induction g with
  | refl => exact h
  | step _ h3 hs ih => exact .step ih h3 hs
/-- Of two places that are reached from one, one is reached from the other. -/
theorem Reach.line {most : Int} {b : List Int} {s t u : St} {p q r : Nat} (h : Reach most b s p t q) (g : Reach most b s p u r) : Reach most b t q u r ∨ Reach most b u r t q := by
  induction g with
  | refl => exact .inr h
  | step g0 h3 hs ih =>
    rcases ih with ih | ih
    · exact .inl (.step ih h3 hs)
    · have key : ∀ {x y : St} {m n : Nat}, Reach most b x m y n → (x = y ∧ m = n) ∨ ∃ z k, x.ph ≠ 3 ∧ stepG most x b m = .ok z k ∧ Reach most b z k y n := by
        intro x y m n hr
        induction hr with
        | refl => exact .inl ⟨rfl, rfl⟩
        | step _ k3 ks ihr =>
          rcases ihr with ⟨rfl, rfl⟩ | ⟨z, k, h1, h2, h4⟩
          · exact .inr ⟨_, _, k3, ks, .refl⟩
          · exact .inr ⟨z, k, h1, h2, .step h4 k3 ks⟩
      rcases key ih with ⟨rfl, rfl⟩ | ⟨z, k, h1, h2, h4⟩
      · exact .inl (.step (.refl) h3 hs)
      · rw [hs] at h2
        injection h2 with e1 e2
        subst e1 e2
        exact .inr h4
theorem Ends.stuck {most : Int} {b : List Int} {s t : St} {p q : Nat} {e : Int} (h : Ends most b s p e) (g : Reach most b s p t q) : s = t ∧ p = q := by
  induction g with
  | refl => exact ⟨rfl, rfl⟩
  | step _ h3 hs ih =>
    obtain ⟨rfl, rfl⟩ := ih
    rcases h with ⟨h, _⟩ | ⟨_, ⟨h, _⟩ | h⟩
    · exact absurd h h3
    · rw [hs] at h; cases h
    · rw [hs] at h; cases h
theorem Ends.one {most : Int} {b : List Int} {s : St} {p : Nat} {e f : Int} (h : Ends most b s p e) (g : Ends most b s p f) : e = f := by
  rcases h with ⟨h, rfl⟩ | ⟨h, ⟨h1, rfl⟩ | h1⟩ <;> rcases g with ⟨g, rfl⟩ | ⟨g, ⟨g1, rfl⟩ | g1⟩
  · rfl
  · exact absurd h g
  · exact absurd h g
  · exact absurd g h
  · rfl
  · rw [h1] at g1; cases g1
  · exact absurd g h
  · rw [h1] at g1; cases g1
  · rw [h1] at g1; injection g1
/-- It stops at one place only. -/
theorem ends_one {most : Int} {b : List Int} {s t u : St} {p q r : Nat} {e f : Int} (h : Reach most b s p t q) (he : Ends most b t q e) (g : Reach most b s p u r) (hf : Ends most b u r f) : t = u ∧ q = r ∧ e = f := by
  rcases h.line g with k | k
  · obtain ⟨rfl, rfl⟩ := he.stuck k
    exact ⟨rfl, rfl, he.one hf⟩
  · obtain ⟨rfl, rfl⟩ := hf.stuck k
    exact ⟨rfl, rfl, he.one hf⟩
theorem Reach.ok {most : Int} {b : List Int} {s t : St} {p q : Nat} (hb : Bit b) (h8 : b.length % 8 = 0) (hp : p ≤ b.length) (hs : SOk most s p) (h : Reach most b s p t q) : SOk most t q ∧ s.out <+: t.out ∧ p ≤ q ∧ q ≤ b.length ∧ todo b.length t q ≤ todo b.length s p := by
  induction h with
  | refl => exact ⟨hs, List.prefix_refl _, by omega, hp, by omega⟩
  | step _ h3 hk ih =>
    obtain ⟨i1, i2, i3, i4, i5⟩ := ih
    have k := step_ok hb h8 i4 i1 h3 hk
    have := k.le
    have := k.less
    exact ⟨k.ok, i2.trans k.out, by omega, by omega, by omega⟩
theorem Reach.more {most : Int} {b : List Int} {s t : St} {p q : Nat} (c : List Int) (hb : Bit b) (h8 : b.length % 8 = 0) (hp : p ≤ b.length) (hs : SOk most s p) (h : Reach most b s p t q) : Reach most (b ++ c) s p t q := by
  induction h with
  | refl => exact .refl
  | step h0 h3 hk ih =>
    have k := (h0.ok hb h8 hp hs).2.2.2.1
    exact .step ih h3 (by rw [(fine_step _ _).more b c _ h8 k (by rw [hk]; simp), hk])
theorem Reach.shift {most : Int} {b : List Int} {s t : St} {p q k : Nat} (hb : Bit b) (h8 : b.length % 8 = 0) (hk : 8 * k ≤ p) (hp : p ≤ b.length) (hs : SOk most s p) (h : Reach most (b.drop (8 * k)) s (p - 8 * k) t q) : Reach most b s p t (q + 8 * k) := by
  have gen : ∀ {x : St} {n : Nat}, Reach most (b.drop (8 * k)) s (p - 8 * k) x n → Reach most b s p x (n + 8 * k) := by
    intro x n hr
    have hp' : ∀ m, m = p - 8 * k → Reach most b s p s (m + 8 * k) := by
      intro m hm
      rw [show m + 8 * k = p by omega]
      exact .refl
    induction hr with
    | refl => exact hp' _ rfl
    | step h0 h3 hk2 ih =>
      have ih' := ih
      have i4 := (ih'.ok hb h8 hp hs).2.2.2.1
      rename_i s1 s2 p1 p2
      have sh := (fine_step most s1).shift b (p1 + 8 * k) k h8 (by omega) i4
      rw [Nat.add_sub_cancel, hk2] at sh
      cases hst : stepG most s1 b (p1 + 8 * k) with
      | miss => rw [hst] at sh; cases sh
      | bad e => rw [hst] at sh; cases sh
      | ok a r =>
        rw [hst] at sh
        injection sh with e1 e2
        have hle := (fine_step most s1).le b _ _ _ h8 i4 hst
        subst e1
        refine .step ih' h3 ?_
        rw [hst, show r = p2 + 8 * k by omega]
  exact gen h
theorem Ends.shift {most : Int} {b : List Int} {s : St} {p k : Nat} {e : Int} (h8 : b.length % 8 = 0) (hp : p + 8 * k ≤ b.length) (h : Ends most (b.drop (8 * k)) s p e) : Ends most b s (p + 8 * k) e := by
  have sh := (fine_step most s).shift b (p + 8 * k) k h8 (by omega) hp
  rw [Nat.add_sub_cancel] at sh
  rcases h with ⟨h, rfl⟩ | ⟨h, ⟨h1, rfl⟩ | h1⟩
  · refine .inl ⟨h, ?_⟩
    rw [List.length_drop]
    by_cases c : (p + 7) / 8 * 8 < b.length - 8 * k
    · rw [if_pos c, if_pos (by omega)]
    · rw [if_neg c, if_neg (by omega)]
  · rw [h1] at sh
    refine .inr ⟨h, .inl ⟨?_, rfl⟩⟩
    cases hst : stepG most s b (p + 8 * k) with
    | miss => rfl
    | bad e => rw [hst] at sh; cases sh
    | ok a r => rw [hst] at sh; cases sh
  · rw [h1] at sh
    refine .inr ⟨h, .inr ?_⟩
    cases hst : stepG most s b (p + 8 * k) with
    | miss => rw [hst] at sh; cases sh
    | bad e' => rw [hst] at sh; injection sh with sh; rw [sh]
    | ok a r => rw [hst] at sh; cases sh
theorem Ends.errs {most : Int} {b : List Int} {s : St} {p : Nat} {e : Int} (h : Ends most b s p e) : e = 0 ∨ e = 2 ∨ e = 3 ∨ e = 11 ∨ e = 12 := by
  rcases h with ⟨h, rfl⟩ | ⟨h, ⟨h1, rfl⟩ | h1⟩
  · split <;> omega
  · omega
  · have := (fine_step most s).errs b p e h1
    omega
theorem Ends.more {most : Int} {b : List Int} {s : St} {p : Nat} {e : Int} (c : List Int) (h8 : b.length % 8 = 0) (hp : p ≤ b.length) (h : Ends most b s p e) (he : e ≠ 0) (he2 : e ≠ 2) : Ends most (b ++ c) s p e := by
  rcases h with ⟨h, rfl⟩ | ⟨h, ⟨h1, rfl⟩ | h1⟩
  · by_cases hc : (p + 7) / 8 * 8 < b.length
    · rw [if_pos hc]
      exact .inl ⟨h, by rw [List.length_append, if_pos (by omega)]⟩
    · rw [if_neg hc] at he
      exact absurd rfl he
  · exact absurd rfl he2
  · exact .inr ⟨h, .inr (by rw [(fine_step _ _).more b c p h8 hp (by rw [h1]; simp), h1])⟩

/-- The begin. -/
def St.new : St := ⟨0, false, 0, [], [], []⟩
theorem new_ok (most : Int) (hm : 0 ≤ most) : SOk most St.new 0 := ⟨.inl rfl, by simpa [St.new] using hm, fun _ h => absurd h (by simp [St.new]), fun e => absurd e (by simp [St.new]), fun e => absurd e (by simp [St.new]), ⟨by simp [St.new], by simp [St.new]⟩, fun _ => ⟨rfl, rfl⟩⟩
/-- So far it is read: bytes b came, it stands at s, behind p bits, and e is what is to be told. -/
structure Stands (most : Int) (b : List Int) (s : St) (p : Nat) (e : Int) : Prop where
  reach : Reach most (bitsOf b) St.new 0 s p
  ends : Ends most (bitsOf b) s p e
theorem Stands.one {most : Int} {b : List Int} {s t : St} {p q : Nat} {e f : Int} (h : Stands most b s p e) (g : Stands most b t q f) : s = t ∧ p = q ∧ e = f := ends_one h.reach h.ends g.reach g.ends
/-- How many bytes are behind for good, and how many bits of the next one. -/
def doneP (s : St) (p : Nat) : Nat := if s.ph = 3 then (p + 7) / 8 * 8 else p
theorem bits8 (b : List Int) : (bitsOf b).length % 8 = 0 := by rw [bitsOf_length]; omega
theorem bits_drop : ∀ (b : List Int) (k : Nat), bitsOf (b.drop k) = (bitsOf b).drop (8 * k)
  | b, 0 => by simp
  | [], k + 1 => by simp [bitsOf]
  | x :: b, k + 1 => by
    have e : bitsOf (x :: b) = bitsOf [x] ++ bitsOf b := by rw [← bitsOf_append]; rfl
    have hl : (bitsOf [x]).length = 8 := by rw [bitsOf_length]; rfl
    rw [List.drop_succ_cons, bits_drop b k, e, List.drop_append, List.drop_of_length_le (l := bitsOf [x]) (by omega), List.nil_append, hl, show 8 * (k + 1) - 8 = 8 * k by omega]
theorem Stands.le {most : Int} {b : List Int} {s : St} {p : Nat} {e : Int} (hm : 0 ≤ most) (h : Stands most b s p e) : SOk most s p ∧ p ≤ 8 * b.length ∧ doneP s p ≤ 8 * b.length := by
  have k := h.reach.ok (bitsOf_bit b) (bits8 b) (Nat.zero_le _) (new_ok most hm)
  rw [bitsOf_length] at k
  refine ⟨k.1, k.2.2.2.1, ?_⟩
  unfold doneP
  split <;> omega
/-- A further piece. -/
theorem Stands.next {most : Int} {b c : List Int} {s t : St} {p q : Nat} {e f : Int} (hm : 0 ≤ most) (h : Stands most b s p e) (he : e = 0 ∨ e = 2)
    (hr : Reach most (bitsOf (b.drop (doneP s p / 8) ++ c)) s (doneP s p % 8) t q) (hf : Ends most (bitsOf (b.drop (doneP s p / 8) ++ c)) t q f) :
    ∃ r, Stands most (b ++ c) t r f ∧ doneP t r = doneP t q + 8 * (doneP s p / 8) := by
  obtain ⟨ho, hp, hd⟩ := h.le hm
  have hmore := h.reach.more (bitsOf c) (bitsOf_bit b) (bits8 b) (Nat.zero_le _) (new_ok most hm)
  rw [← bitsOf_append] at hmore
  have hdrop : bitsOf (b.drop (doneP s p / 8) ++ c) = (bitsOf (b ++ c)).drop (8 * (doneP s p / 8)) := by
    rw [← bits_drop, List.drop_append_of_le_length (by omega)]
  have hL : (bitsOf (b ++ c)).length = 8 * b.length + 8 * c.length := by rw [bitsOf_length, List.length_append]; omega
  rw [hdrop] at hr hf
  by_cases h3 : s.ph = 3
  · have hst : ∀ {x : St} {m n : Nat} {B : List Int}, Reach most B s m x n → x = s ∧ n = m := by
      intro x m n B hr
      induction hr with
      | refl => exact ⟨rfl, rfl⟩
      | step _ k3 _ ih => exact absurd (by rw [ih.1]; exact h3) k3
    obtain ⟨rfl, rfl⟩ := hst hr
    have hd3 : doneP t p = (p + 7) / 8 * 8 := by unfold doneP; rw [if_pos h3]
    have hd0 : doneP t p % 8 = 0 := by omega
    refine ⟨p, ⟨hmore, ?_⟩, ?_⟩
    · rcases hf with ⟨_, rfl⟩ | ⟨k3, _⟩
      · refine .inl ⟨h3, ?_⟩
        rw [List.length_drop, hL, hd0]
        by_cases c1 : (0 + 7) / 8 * 8 < 8 * b.length + 8 * c.length - 8 * (doneP t p / 8)
        · rw [if_pos c1, if_pos (by omega)]
        · rw [if_neg c1, if_neg (by omega)]
      · exact absurd h3 k3
    · have : doneP t (doneP t p % 8) = 0 := by rw [hd0]; unfold doneP; rw [if_pos h3]
      omega
  · have hd3 : doneP s p = p := by unfold doneP; rw [if_neg h3]
    rw [hd3] at hr hf ⊢
    have e1 : p % 8 = p - 8 * (p / 8) := by omega
    rw [e1] at hr
    have hr2 := hr.shift (bitsOf_bit _) (bits8 _) (by omega) (by omega) ho
    have hq : q + 8 * (p / 8) ≤ (bitsOf (b ++ c)).length := (hr2.ok (bitsOf_bit _) (bits8 _) (by omega) ho).2.2.2.1
    refine ⟨q + 8 * (p / 8), ⟨hmore.trans hr2, hf.shift (bits8 _) hq⟩, ?_⟩
    unfold doneP
    split <;> omega
/-- What is wrong stays wrong. -/
theorem Stands.stays {most : Int} {b : List Int} {s : St} {p : Nat} {e : Int} (c : List Int) (hm : 0 ≤ most) (h : Stands most b s p e) (he : e ≠ 0) (he2 : e ≠ 2) : Stands most (b ++ c) s p e := by
  have h1 := h.reach.more (bitsOf c) (bitsOf_bit b) (bits8 b) (Nat.zero_le _) (new_ok most hm)
  have h2 := h.ends.more (bitsOf c) (bits8 b) (by rw [bitsOf_length]; exact (h.le hm).2.1) he he2
  rw [← bitsOf_append] at h1 h2
  exact ⟨h1, h2⟩
/-- What was told of a begin is a begin of what is told. -/
theorem Stands.begin {most : Int} {b c : List Int} {s t : St} {p q : Nat} {e f : Int} (hm : 0 ≤ most) (h : Stands most b s p e) (g : Stands most (b ++ c) t q f) : s.out <+: t.out := by
  have h1 := h.reach.more (bitsOf c) (bitsOf_bit b) (bits8 b) (Nat.zero_le _) (new_ok most hm)
  rw [← bitsOf_append] at h1
  have h2 := h1.ok (bitsOf_bit _) (bits8 _) (Nat.zero_le _) (new_ok most hm)
  rcases h1.line g.reach with k | k
  · exact (k.ok (bitsOf_bit _) (bits8 _) h2.2.2.2.1 h2.1).2.1
  · obtain ⟨rfl, _⟩ := g.ends.stuck k
    exact List.prefix_refl _
/-- It stops somewhere. -/
theorem stops {most : Int} {b : List Int} (hb : Bit b) (h8 : b.length % 8 = 0) : ∀ (n : Nat) {s : St} {p : Nat}, todo b.length s p < n → p ≤ b.length → SOk most s p → ∃ t q e, Reach most b s p t q ∧ Ends most b t q e
  | 0, _, _, h, _, _ => absurd h (by omega)
  | n + 1, s, p, h, hp, hs => by
    by_cases h3 : s.ph = 3
    · exact ⟨s, p, _, .refl, .inl ⟨h3, rfl⟩⟩
    · cases hk : stepG most s b p with
      | miss => exact ⟨s, p, 2, .refl, .inr ⟨h3, .inl ⟨hk, rfl⟩⟩⟩
      | bad e => exact ⟨s, p, e, .refl, .inr ⟨h3, .inr hk⟩⟩
      | ok s' q =>
        have k := step_ok hb h8 hp hs h3 hk
        obtain ⟨t, r, e, h1, h2⟩ := stops hb h8 n (s := s') (p := q) (by have := k.less; omega) k.le.2 k.ok
        exact ⟨t, r, e, Reach.trans (.step (.refl) h3 hk) h1, h2⟩
theorem stands_some (most : Int) (hm : 0 ≤ most) (b : List Int) : ∃ s p e, Stands most b s p e := by
  obtain ⟨t, q, e, h1, h2⟩ := stops (most := most) (bitsOf_bit b) (bits8 b) _ (Nat.lt_succ_self _) (Nat.zero_le _) (new_ok most hm)
  exact ⟨t, q, e, h1, h2⟩
/-- What is kept, where bits are missing, are few bytes. -/
theorem Stands.few {most : Int} {b : List Int} {s : St} {p : Nat} {e : Int} (hm : 0 ≤ most) (h : Stands most b s p e) (he : e = 0 ∨ e = 2) : b.length - doneP s p / 8 ≤ 901 := by
  obtain ⟨_, hp, _⟩ := h.le hm
  rcases h.ends with ⟨h3, h4⟩ | ⟨h3, ⟨h1, _⟩ | h1⟩
  · have hd3 : doneP s p = (p + 7) / 8 * 8 := by unfold doneP; rw [if_pos h3]
    rw [bitsOf_length] at h4
    split at h4 <;> omega
  · have hd3 : doneP s p = p := by unfold doneP; rw [if_neg h3]
    have := (fine_step most s).lack _ p (bits8 b) (by rw [bitsOf_length]; exact hp) h1
    rw [bitsOf_length] at this
    omega
  · have := (fine_step most s).errs _ _ _ h1
    omega
/-- n bytes of a stored block, one after the other. -/
theorem reach_bytes {most : Int} {bs : List Int} (hob : Octets bs) : ∀ (n : Nat) {s : St} {j : Nat}, s.ph = 1 → n < s.left → j + n ≤ bs.length → Reach most (bitsOf bs) s (8 * j) { s with left := s.left - n, out := s.out ++ (bs.drop j).take n } (8 * (j + n))
  | 0, s, j, h1, hn, hj => by
    simp only [List.take_zero, List.append_nil]
    exact .refl
  | n + 1, s, j, h1, hn, hj => by
    have ih := reach_bytes (most := most) hob n (s := s) (j := j) h1 (by omega) (by omega)
    have hb : val (((bitsOf bs).drop (8 * (j + n))).take 8) = bs[j + n] := by
      rw [← bits_drop, List.drop_eq_getElem_cons (by omega)]
      have e : bitsOf (bs[j + n] :: bs.drop (j + n + 1)) = bitsOf [bs[j + n]] ++ bitsOf (bs.drop (j + n + 1)) := by rw [← bitsOf_append]; rfl
      have hl : (bitsOf [bs[j + n]]).length = 8 := by rw [bitsOf_length]; rfl
      rw [e, List.take_append_of_le_length (by omega), List.take_of_length_le (by omega)]
      have ho1 := hob bs[j + n] (List.getElem_mem _)
      have : bitsOf [bs[j + n]] = num bs[j + n] 8 := by simp [bitsOf]
      rw [this, val_num]
      omega
    refine .step ih (by simp only; omega) ?_
    unfold stepG
    rw [if_neg (by simp only; omega), if_pos (by simpa using h1)]
    unfold byteG
    rw [if_neg (by simp only; omega)]
    have hk : numG 8 (bitsOf bs) (8 * (j + n)) = .ok bs[j + n] (8 * (j + n) + 8) := by
      unfold numG
      rw [if_pos (by rw [bitsOf_length]; omega), hb]
    rw [bindG_ok _ hk, if_neg (by simp only; omega)]
    simp only [pureG]
    rw [show 8 * (j + n) + 8 = 8 * (j + (n + 1)) by omega, List.append_assoc, show s.left - n - 1 = s.left - (n + 1) by omega]
    have ht : (bs.drop j).take (n + 1) = (bs.drop j).take n ++ [bs[j + n]] := by
      rw [List.take_add_one, List.getElem?_drop, List.getElem?_eq_getElem (by omega)]
      rfl
    rw [ht]
end Go.Proofs.YthflefdchgpbdaaDoor.Inf

namespace Go.Proofs.YthflefdchgpbdaaDoor.Inf
open Go.RowKit Go.Proofs.YthflefdchgpbdaaDoor.Kit Go.Proofs.YthflefdchgpbdaaDoor.Bits Go.Proofs.YthflefdchgpbdaaDoor.Huf Go.Proofs.YthflefdchgpbdaaDoor.Df

/-- Where the document stands: the place, what was told, the error. -/
structure DS where
  p : Nat
  out : List Int
  e : Int
def numD (n : Nat) (b : List Int) (d : DS) : Int × DS := if d.e ≠ 0 then (0, d) else if b.length < d.p + n then (0, { d with e := 2 }) else (val ((b.drop d.p).take n), { d with p := d.p + n })
def symD (l : List Int) (b : List Int) (d : DS) : Int × DS := if d.e ≠ 0 then (0, d) else match told l (b.drop d.p) with
  | .sym s n => (s, { d with p := d.p + n })
  | .short => (0, { d with e := 2 })
  | .form => (0, { d with e := 11 })
def failD (is : Bool) (e : Int) (d : DS) : DS := if is = true ∧ d.e = 0 then { d with e := e } else d
/-- What is wrong. -/
def Err {α : Type} (e : Int) (r : Res α) : Prop := (r = .miss ∧ e = 2) ∨ r = .bad e
theorem Err.bind {α β : Type} {e : Int} {g : G α} {b : List Int} {p : Nat} (f : α → G β) (h : Err e (g b p)) : Err e (bindG g f b p) := by
  rcases h with ⟨h, rfl⟩ | h
  · exact .inl ⟨bindG_miss f h, rfl⟩
  · exact .inr (bindG_bad f h)
/-- It goes on, or stops. -/
def Goes {α : Type} (b : List Int) (d : DS) (r : Res α) (x : α) (d' : DS) : Prop := (d'.e = 0 ∧ r = .ok x d'.p ∧ d'.out = d.out ∧ d'.p ≤ b.length) ∨ (d'.e ≠ 0 ∧ Err d'.e r ∧ d'.out = d.out ∧ d'.p ≤ b.length)
theorem num_goes {n : Nat} {b : List Int} {d d' : DS} {x : Int} (h : numD n b d = (x, d')) (he : d.e = 0) (hp : d.p ≤ b.length) : Goes b d (numG n b d.p) x d' := by
  unfold numD at h
  rw [if_neg (by omega)] at h
  by_cases c : b.length < d.p + n
  · rw [if_pos c] at h
    injection h with h1 h2
    subst h2
    exact .inr ⟨by simp, .inl ⟨by unfold numG; rw [if_neg (by omega)], rfl⟩, rfl, hp⟩
  · rw [if_neg c] at h
    injection h with h1 h2
    subst h2 h1
    exact .inl ⟨he, by unfold numG; rw [if_pos (by omega)], rfl, by simp only; omega⟩
theorem num_err {n : Nat} {b : List Int} {d d' : DS} {x : Int} (h : numD n b d = (x, d')) (he : d.e ≠ 0) : x = 0 ∧ d' = d := by
  unfold numD at h
  rw [if_pos he] at h
  injection h with h1 h2
  exact ⟨h1.symm, h2.symm⟩
theorem sym_goes {l b : List Int} {d d' : DS} {x : Int} (h : symD l b d = (x, d')) (he : d.e = 0) (hp : d.p ≤ b.length) : Goes b d (symG l b d.p) x d' := by
  unfold symD at h
  rw [if_neg (by omega)] at h
  rw [symG_eq]
  cases ht : told l (b.drop d.p) with
  | sym s n =>
    rw [ht] at h
    injection h with h1 h2
    subst h2 h1
    have := told_le ht
    rw [List.length_drop] at this
    exact .inl ⟨he, rfl, rfl, by simp only; omega⟩
  | short =>
    rw [ht] at h
    injection h with h1 h2
    subst h2
    exact .inr ⟨by simp, .inl ⟨rfl, rfl⟩, rfl, hp⟩
  | form =>
    rw [ht] at h
    injection h with h1 h2
    subst h2
    exact .inr ⟨by simp, .inr rfl, rfl, hp⟩
theorem sym_err {l b : List Int} {d d' : DS} {x : Int} (h : symD l b d = (x, d')) (he : d.e ≠ 0) : x = 0 ∧ d' = d := by
  unfold symD at h
  rw [if_pos he] at h
  injection h with h1 h2
  exact ⟨h1.symm, h2.symm⟩
theorem fail_err {is : Bool} {e : Int} {d d' : DS} (h : failD is e d = d') (he : d.e ≠ 0) : d' = d := by
  unfold failD at h
  rw [if_neg (fun c => he c.2)] at h
  exact h.symm
theorem fail_goes {is : Bool} {e : Int} {d d' : DS} (b : List Int) (h : failD is e d = d') (he : d.e = 0) (hp : d.p ≤ b.length) (h0 : e ≠ 0) : Goes b d (refG is e b d.p) () d' := by
  unfold failD at h
  cases is
  · rw [if_neg (fun c => by cases c.1)] at h
    subst h
    exact .inl ⟨he, rfl, rfl, hp⟩
  · rw [if_pos ⟨rfl, he⟩] at h
    subst h
    exact .inr ⟨h0, .inr rfl, rfl, hp⟩
/-- What goes on, and then goes on, or stops. -/
theorem Goes.bind {α β : Type} {b : List Int} {d d1 d2 : DS} {g : G α} {f : α → G β} {x : α} {y : β} (h : Goes b d (g b d.p) x d1) (h1 : d1.e = 0 → Goes b d1 (f x b d1.p) y d2) (h2 : d1.e ≠ 0 → d2 = d1) : Goes b d (bindG g f b d.p) y d2 := by
  rcases h with ⟨e, hr, ho, hp⟩ | ⟨e, hr, ho, hp⟩
  · rw [bindG_ok f hr]
    rcases h1 e with ⟨e', hr', ho', hp'⟩ | ⟨e', hr', ho', hp'⟩
    · exact .inl ⟨e', hr', by rw [ho', ho], hp'⟩
    · exact .inr ⟨e', hr', by rw [ho', ho], hp'⟩
  · rw [h2 e]
    exact .inr ⟨e, hr.bind f, ho, hp⟩
theorem Goes.ok {α : Type} {b : List Int} {d d' : DS} {r : Res α} {x : α} (h : Goes b d r x d') (he : d'.e = 0) : r = .ok x d'.p ∧ d'.out = d.out ∧ d'.p ≤ b.length := by
  rcases h with ⟨_, h⟩ | ⟨e, _⟩
  · exact h
  · exact absurd he e
theorem Goes.no {α : Type} {b : List Int} {d d' : DS} {r : Res α} {x : α} (h : Goes b d r x d') (he : d'.e ≠ 0) : Err d'.e r ∧ d'.out = d.out ∧ d'.p ≤ b.length := by
  rcases h with ⟨e, _⟩ | ⟨_, h⟩
  · exact absurd e he
  · exact h
theorem told_take {l bits : List Int} : told l (bits.take 15) = told l bits := by
  by_cases h : told l (bits.take 15) = .short
  · have := go_short_le l 16 1 0 _ h
    rw [List.take_of_length_le]
    rw [List.length_take] at this
    omega
  · have e : bits.take 15 ++ bits.drop 15 = bits := List.take_append_drop 15 bits
    have := go_more l (bits.drop 15) 16 1 0 _ h
    rw [e] at this
    exact this.symm

/-- The head of a stored block: how many bytes. -/
def headG (most : Int) (n0 : Nat) : G Int := bindG alignG fun _ => bindG (numG 16) fun n => bindG (numG 16) fun m => bindG (refG (decide (n + m ≠ 65535)) 11) fun _ => bindG (refG (decide (most < n0 + n)) 12) fun _ => pureG n
theorem head_goes {most : Int} {b : List Int} {d d1 d2 d3 d4 d5 : DS} {n m : Int} (h8 : b.length % 8 = 0) (he : d.e = 0) (hp : d.p ≤ b.length) (h1 : { d with p := (d.p + 7) / 8 * 8 } = d1) (h2 : numD 16 b d1 = (n, d2)) (h3 : numD 16 b d2 = (m, d3))
    (h4 : failD (decide (n + m ≠ 65535)) 11 d3 = d4) (h5 : failD (decide (most - d.out.length < n)) 12 d4 = d5) : Goes b d (headG most d.out.length b d.p) n d5 := by
  subst h1
  have e0 : ∀ x : Int, decide (most - (d.out.length : Int) < x) = decide (most < (d.out.length : Int) + x) := fun x => decide_eq_decide.2 (by omega)
  rw [e0] at h5
  unfold headG
  refine Goes.bind (x := ()) (d1 := { d with p := (d.p + 7) / 8 * 8 }) (.inl ⟨he, rfl, rfl, by simp only; omega⟩) (fun _ => ?_) (fun e => absurd he e)
  refine Goes.bind (num_goes h2 he (by simp only; omega)) (fun c2 => ?_) (fun e => ?_)
  · have hp2 := ((num_goes h2 he (by simp only; omega)).ok c2).2.2
    refine Goes.bind (num_goes h3 c2 hp2) (fun c3 => ?_) (fun e => ?_)
    · have hp3 := ((num_goes h3 c2 hp2).ok c3).2.2
      refine Goes.bind (fail_goes b h4 c3 hp3 (by decide)) (fun c4 => ?_) (fun e => ?_)
      · have hp4 := ((fail_goes b h4 c3 hp3 (by decide)).ok c4).2.2
        refine Goes.bind (fail_goes b h5 c4 hp4 (by decide)) (fun c5 => ?_) (fun e => rfl)
        exact .inl ⟨c5, rfl, rfl, ((fail_goes b h5 c4 hp4 (by decide)).ok c5).2.2⟩
      · exact fail_err h5 e
    · rw [fail_err h4 e] at h5
      exact fail_err h5 e
  · rw [(num_err h3 e).2] at h4
    rw [fail_err h4 e] at h5
    exact fail_err h5 e
theorem Goes.refl {b : List Int} {d : DS} {α : Type} (x : α) (he : d.e = 0) (hp : d.p ≤ b.length) : Goes b d (pureG x b d.p) x d := .inl ⟨he, rfl, rfl, hp⟩
theorem Goes.le {α : Type} {b : List Int} {d d' : DS} {r : Res α} {x : α} (h : Goes b d r x d') : d'.p ≤ b.length ∧ d'.out = d.out := by
  rcases h with ⟨_, _, ho, hp⟩ | ⟨_, _, ho, hp⟩ <;> exact ⟨hp, ho⟩
/-- A match, as the document reads it. -/
theorem match_goes {ds b : List Int} {most : Int} {n0 : Nat} {d d1 d2 d3 d4 d5 d6 d7 : DS} {x k dd j : Int} (he : d.e = 0) (hp : d.p ≤ b.length)
    (h1 : failD (decide (28 < x)) 11 d = d1) (h2 : numD (lmore x).toNat b d1 = (k, d2)) (h3 : symD ds b d2 = (dd, d3)) (h4 : failD (decide (29 < dd)) 11 d3 = d4) (h5 : numD (dmore dd).toNat b d4 = (j, d5))
    (h6 : failD (decide ((n0 : Int) < dists.getD dd.toNat 0 + j)) 11 d5 = d6) (h7 : failD (decide (most - n0 < lens.getD x.toNat 0 + k)) 12 d6 = d7) :
    Goes b d (matchG x ds n0 most b d.p) (lens.getD x.toNat 0 + k, dists.getD dd.toNat 0 + j) d7 := by
  have e0 : ∀ y : Int, decide (most - (n0 : Int) < y) = decide (most < (n0 : Int) + y) := fun y => decide_eq_decide.2 (by omega)
  rw [e0] at h7
  unfold matchG
  have g1 := fail_goes b h1 he hp (by decide)
  refine Goes.bind g1 (fun c1 => ?_) (fun e => ?_)
  · have g2 := num_goes h2 c1 g1.le.1
    refine Goes.bind g2 (fun c2 => ?_) (fun e => ?_)
    · have g3 := sym_goes h3 c2 g2.le.1
      refine Goes.bind g3 (fun c3 => ?_) (fun e => ?_)
      · have g4 := fail_goes b h4 c3 g3.le.1 (by decide)
        refine Goes.bind g4 (fun c4 => ?_) (fun e => ?_)
        · have g5 := num_goes h5 c4 g4.le.1
          refine Goes.bind g5 (fun c5 => ?_) (fun e => ?_)
          · have g6 := fail_goes b h6 c5 g5.le.1 (by decide)
            refine Goes.bind g6 (fun c6 => ?_) (fun e => ?_)
            · have g7 := fail_goes b h7 c6 g6.le.1 (by decide)
              exact Goes.bind g7 (fun c7 => Goes.refl _ c7 g7.le.1) (fun e => rfl)
            · exact fail_err h7 e
          · rw [fail_err h6 e] at h7
            exact fail_err h7 e
        · have e5 := (num_err h5 e).2
          rw [e5] at h6
          rw [fail_err h6 e] at h7
          exact fail_err h7 e
      · rw [fail_err h4 e] at h5
        rw [(num_err h5 e).2] at h6
        rw [fail_err h6 e] at h7
        exact fail_err h7 e
    · rw [(sym_err h3 e).2] at h4
      rw [fail_err h4 e] at h5
      rw [(num_err h5 e).2] at h6
      rw [fail_err h6 e] at h7
      exact fail_err h7 e
  · rw [(num_err h2 e).2] at h3
    rw [(sym_err h3 e).2] at h4
    rw [fail_err h4 e] at h5
    rw [(num_err h5 e).2] at h6
    rw [fail_err h6 e] at h7
    exact fail_err h7 e
/-- One round of a row of lengths. -/
def roundG (l : List Int) (many : Nat) (acc : List Int) : G (Int × Int) := bindG (runG l acc) fun r => bindG (refG (decide ((many : Int) - acc.length < r.2)) 11) fun _ => pureG r
theorem row_round {l acc : List Int} {many f : Nat} {b : List Int} {p : Nat} (h : ¬ many ≤ acc.length) : rowG l many (f + 1) acc b p = bindG (roundG l many acc) (fun r => rowG l many f (acc ++ List.replicate r.2.toNat r.1)) b p := by
  rw [rowG, if_neg h]
  cases h1 : runG l acc b p with
  | miss => rw [bindG_miss _ h1, bindG_miss]; exact bindG_miss _ h1
  | bad e => rw [bindG_bad _ h1, bindG_bad]; exact bindG_bad _ h1
  | ok r q =>
    rw [bindG_ok _ h1]
    by_cases c : (many : Int) - acc.length < r.2
    · have h2 : refG (decide ((many : Int) - acc.length < r.2)) 11 b q = .bad 11 := by rw [decide_eq_true c]; rfl
      rw [bindG_bad _ h2, bindG_bad]
      unfold roundG
      rw [bindG_ok _ h1, bindG_bad _ h2]
    · have h2 : refG (decide ((many : Int) - acc.length < r.2)) 11 b q = .ok () q := by rw [decide_eq_false c]; rfl
      have h3 : roundG l many acc b p = .ok r q := by
        unfold roundG
        rw [bindG_ok _ h1, bindG_ok _ h2]
        rfl
      rw [bindG_ok _ h2, bindG_ok _ h3]
theorem round_plain {l acc b : List Int} {many : Nat} {d d1 d5 : DS} {x : Int} (he : d.e = 0) (hp : d.p ≤ b.length) (h1 : symD l b d = (x, d1)) (h16 : d1.e = 0 → x ≠ 16 ∧ x ≠ 17 ∧ x ≠ 18) (h5 : failD (decide ((many : Int) - acc.length < 1)) 11 d1 = d5) :
    Goes b d (roundG l many acc b d.p) (x, 1) d5 := by
  have g1 := sym_goes h1 he hp
  unfold roundG
  refine Goes.bind (d1 := d1) (x := (x, 1)) ?_ (fun c => ?_) (fun e => fail_err h5 e)
  · refine Goes.bind g1 (fun c1 => ?_) (fun _ => rfl)
    rw [if_neg (h16 c1).1, if_neg (h16 c1).2.1, if_neg (h16 c1).2.2]
    exact Goes.refl _ c1 g1.le.1
  · have g5 := fail_goes b h5 c g1.le.1 (by decide)
    exact Goes.bind g5 (fun c5 => Goes.refl _ c5 g5.le.1) (fun _ => rfl)
theorem round_16 {l acc b : List Int} {many : Nat} {d d1 d2 d3 d5 : DS} {k : Int} (he : d.e = 0) (hp : d.p ≤ b.length) (h1 : symD l b d = (16, d1)) (h2 : failD (decide (acc.length = 0)) 11 d1 = d2) (h3 : numD 2 b d2 = (k, d3)) (h5 : failD (decide ((many : Int) - acc.length < 3 + k)) 11 d3 = d5) :
    Goes b d (roundG l many acc b d.p) (acc[acc.length - 1]?.getD 0, k + 3) d5 := by
  have g1 := sym_goes h1 he hp
  rw [Int.add_comm] at h5
  unfold roundG
  have hd3 : d1.e ≠ 0 → d3 = d1 := fun e => by rw [fail_err h2 e] at h3; exact (num_err h3 e).2
  refine Goes.bind (d1 := d3) (x := (acc[acc.length - 1]?.getD 0, k + 3)) ?_ (fun c => ?_) (fun e => fail_err h5 e)
  · refine Goes.bind g1 (fun c1 => ?_) hd3
    rw [if_pos rfl]
    have g2 := fail_goes b h2 c1 g1.le.1 (by decide)
    refine Goes.bind g2 (fun c2 => ?_) (fun e => (num_err h3 e).2)
    have g3 := num_goes h3 c2 g2.le.1
    exact Goes.bind g3 (fun c3 => Goes.refl _ c3 g3.le.1) (fun _ => rfl)
  · have hle : d3.p ≤ b.length := by
      by_cases e1 : d1.e = 0
      · have g2 := fail_goes b h2 e1 g1.le.1 (by decide)
        by_cases e2 : d2.e = 0
        · exact (num_goes h3 e2 g2.le.1).le.1
        · rw [(num_err h3 e2).2]; exact g2.le.1
      · rw [hd3 e1]; exact g1.le.1
    have g5 := fail_goes b h5 c hle (by decide)
    exact Goes.bind g5 (fun c5 => Goes.refl _ c5 g5.le.1) (fun _ => rfl)
theorem round_17 {l acc b : List Int} {many : Nat} {d d1 d3 d5 : DS} {k : Int} (he : d.e = 0) (hp : d.p ≤ b.length) (h1 : symD l b d = (17, d1)) (h3 : numD 3 b d1 = (k, d3)) (h5 : failD (decide ((many : Int) - acc.length < 3 + k)) 11 d3 = d5) :
    Goes b d (roundG l many acc b d.p) (0, k + 3) d5 := by
  have g1 := sym_goes h1 he hp
  rw [Int.add_comm] at h5
  unfold roundG
  refine Goes.bind (d1 := d3) (x := ((0 : Int), k + 3)) ?_ (fun c => ?_) (fun e => fail_err h5 e)
  · refine Goes.bind g1 (fun c1 => ?_) (fun e => (num_err h3 e).2)
    rw [if_neg (by decide), if_pos rfl]
    have g3 := num_goes h3 c1 g1.le.1
    exact Goes.bind g3 (fun c3 => Goes.refl _ c3 g3.le.1) (fun _ => rfl)
  · have hle : d3.p ≤ b.length := by
      by_cases e1 : d1.e = 0
      · exact (num_goes h3 e1 g1.le.1).le.1
      · rw [(num_err h3 e1).2]; exact g1.le.1
    have g5 := fail_goes b h5 c hle (by decide)
    exact Goes.bind g5 (fun c5 => Goes.refl _ c5 g5.le.1) (fun _ => rfl)
theorem round_18 {l acc b : List Int} {many : Nat} {d d1 d3 d5 : DS} {k : Int} (he : d.e = 0) (hp : d.p ≤ b.length) (h1 : symD l b d = (18, d1)) (h3 : numD 7 b d1 = (k, d3)) (h5 : failD (decide ((many : Int) - acc.length < 11 + k)) 11 d3 = d5) :
    Goes b d (roundG l many acc b d.p) (0, k + 11) d5 := by
  have g1 := sym_goes h1 he hp
  rw [Int.add_comm] at h5
  unfold roundG
  refine Goes.bind (d1 := d3) (x := ((0 : Int), k + 11)) ?_ (fun c => ?_) (fun e => fail_err h5 e)
  · refine Goes.bind g1 (fun c1 => ?_) (fun e => (num_err h3 e).2)
    rw [if_neg (by decide), if_neg (by decide), if_pos rfl]
    have g3 := num_goes h3 c1 g1.le.1
    exact Goes.bind g3 (fun c3 => Goes.refl _ c3 g3.le.1) (fun _ => rfl)
  · have hle : d3.p ≤ b.length := by
      by_cases e1 : d1.e = 0
      · exact (num_goes h3 e1 g1.le.1).le.1
      · rw [(num_err h3 e1).2]; exact g1.le.1
    have g5 := fail_goes b h5 c hle (by decide)
    exact Goes.bind g5 (fun c5 => Goes.refl _ c5 g5.le.1) (fun _ => rfl)
/-- A dynamic block's lengths, as the document reads them. -/
theorem dyn_goes {b t l : List Int} {d d1 d2 d3 d4 d5 d6 d7 d8 : DS} {a x c : Int} (he : d.e = 0) (hp : d.p ≤ b.length)
    (h1 : numD 5 b d = (a, d1)) (h2 : numD 5 b d1 = (x, d2)) (h3 : numD 4 b d2 = (c, d3)) (h4 : failD (decide (286 < a + 257) || decide (30 < x + 1)) 11 d3 = d4)
    (h5 : d4.e = 0 → Goes b d4 (hdrG (min (c + 4).toNat 19) 0 (List.replicate 19 0) b d4.p) t d5) (k5 : d4.e ≠ 0 → d5 = d4) (h6 : failD (!mayB t) 11 d5 = d6)
    (h7 : d6.e = 0 → Goes b d6 (rowG t (a + x + 258).toNat 320 [] b d6.p) l d7) (k7 : d6.e ≠ 0 → d7 = d6) (h8 : failD (!mayB (l.take (a + 257).toNat) || !mayB (l.drop (a + 257).toNat)) 11 d7 = d8) :
    Goes b d (dynG b d.p) (l.take (a + 257).toNat, l.drop (a + 257).toNat) d8 := by
  unfold dynG
  have g1 := num_goes h1 he hp
  have end7 : d6.e ≠ 0 → d8 = d6 := fun e => by rw [k7 e] at h8; exact fail_err h8 e
  have end5 : d5.e ≠ 0 → d8 = d5 := fun e => by
    have := fail_err h6 e
    rw [this] at end7
    exact end7 e
  have end4 : d4.e ≠ 0 → d8 = d4 := fun e => by rw [k5 e] at end5; exact end5 e
  have end3 : d3.e ≠ 0 → d8 = d3 := fun e => by
    have := fail_err h4 e
    rw [this] at end4
    exact end4 e
  have end2 : d2.e ≠ 0 → d8 = d2 := fun e => by
    have := (num_err h3 e).2
    rw [this] at end3
    exact end3 e
  refine Goes.bind g1 (fun c1 => ?_) (fun e => by
    have := (num_err h2 e).2
    rw [this] at end2
    exact end2 e)
  have g2 := num_goes h2 c1 g1.le.1
  refine Goes.bind g2 (fun c2 => ?_) end2
  have g3 := num_goes h3 c2 g2.le.1
  refine Goes.bind g3 (fun c3 => ?_) end3
  have g4 := fail_goes b h4 c3 g3.le.1 (by decide)
  refine Goes.bind g4 (fun c4 => ?_) end4
  have g5 := h5 c4
  refine Goes.bind g5 (fun c5 => ?_) end5
  have g6 := fail_goes b h6 c5 g5.le.1 (by decide)
  refine Goes.bind g6 (fun c6 => ?_) end7
  have g7 := h7 c6
  refine Goes.bind g7 (fun c7 => ?_) (fun e => fail_err h8 e)
  have g8 := fail_goes b h8 c7 g7.le.1 (by decide)
  exact Goes.bind g8 (fun c8 => Goes.refl _ c8 g8.le.1) (fun _ => rfl)
end Go.Proofs.YthflefdchgpbdaaDoor.Inf

namespace Go.Proofs.YthflefdchgpbdaaDoor.Inf
open Go.RowKit Go.Proofs.YthflefdchgpbdaaDoor.Kit Go.Proofs.YthflefdchgpbdaaDoor.Bits Go.Proofs.YthflefdchgpbdaaDoor.Huf Go.Proofs.YthflefdchgpbdaaDoor.Df

theorem ends_of_err {most : Int} {b : List Int} {s : St} {p : Nat} {e : Int} (h3 : s.ph ≠ 3) (h : Err e (stepG most s b p)) : Ends most b s p e := by
  rcases h with ⟨h, rfl⟩ | h
  · exact .inr ⟨h3, .inl ⟨h, rfl⟩⟩
  · exact .inr ⟨h3, .inr h⟩
theorem step0 {most : Int} {s : St} (h : s.ph = 0) : stepG most s = openG most s := by unfold stepG; rw [if_pos h]
theorem step1 {most : Int} {s : St} (h : s.ph = 1) : stepG most s = byteG s := by unfold stepG; rw [if_neg (by omega), if_pos h]
theorem step2 {most : Int} {s : St} (h : s.ph = 2) : stepG most s = codeG most s := by unfold stepG; rw [if_neg (by omega), if_neg (by omega)]
/-- How a block ends for the document. -/
def BlockTo (most : Int) (b : List Int) (s : St) (p : Nat) (last : Bool) (d' : DS) : Prop :=
  ∃ t q, Reach most b s p t q ∧ d'.out = t.out ∧ d'.p ≤ b.length ∧ ((d'.e = 0 ∧ d'.p = q ∧ t.ph = (if last then 3 else 0)) ∨ (d'.e ≠ 0 ∧ Ends most b t q d'.e))
theorem BlockTo.more {most : Int} {b : List Int} {s t : St} {p q : Nat} {last : Bool} {d' : DS} (h : Reach most b s p t q) (g : BlockTo most b t q last d') : BlockTo most b s p last d' := by
  obtain ⟨u, r, h1, h2⟩ := g
  exact ⟨u, r, h.trans h1, h2⟩
theorem BlockTo.wrong {most : Int} {b : List Int} {s : St} {p : Nat} {last : Bool} {d' : DS} (h : Ends most b s p d'.e) (he : d'.e ≠ 0) (ho : d'.out = s.out) (hp : d'.p ≤ b.length) : BlockTo most b s p last d' := ⟨s, p, .refl, ho, hp, .inr ⟨he, h⟩⟩
theorem code_err {most : Int} {b : List Int} {s : St} {d d1 : DS} {x : Int} (h2 : s.ph = 2) (g : Goes b d (symG s.ls b d.p) x d1) (he : d1.e ≠ 0) : Ends most b s d.p d1.e := by
  refine ends_of_err (by omega) ?_
  rw [step2 h2]
  exact (g.no he).1.bind _
theorem code_lit {most : Int} {b : List Int} {s : St} {d d1 d2 : DS} {x : Int} (h2 : s.ph = 2) (g : Goes b d (symG s.ls b d.p) x d1) (c1 : d1.e = 0) (hx : x < 256) (hf : failD (decide (most ≤ s.out.length)) 12 d1 = d2) :
    (d2.e = 0 → d2 = d1 ∧ stepG most s b d.p = .ok { s with out := s.out ++ [x] } d1.p) ∧ (d2.e ≠ 0 → Ends most b s d.p d2.e) ∧ d2.p = d1.p ∧ d2.out = d1.out := by
  have e0 : decide (most ≤ (s.out.length : Int)) = decide (most < (s.out.length : Int) + 1) := decide_eq_decide.2 (by omega)
  rw [e0] at hf
  have g1 := (g.ok c1).1
  have hs : stepG most s b d.p = bindG (refG (decide (most < (s.out.length : Int) + 1)) 12) (fun _ => pureG { s with out := s.out ++ [x] }) b d1.p := by
    rw [step2 h2]
    unfold codeG
    rw [bindG_ok _ g1, if_pos hx]
  unfold failD at hf
  by_cases c : most < (s.out.length : Int) + 1
  · rw [decide_eq_true c, if_pos ⟨rfl, c1⟩] at hf
    rw [decide_eq_true c] at hs
    subst hf
    exact ⟨fun e => absurd e (by simp), fun _ => ends_of_err (by omega) (.inr (by rw [hs]; rfl)), rfl, rfl⟩
  · rw [decide_eq_false c, if_neg (fun h => by cases h.1)] at hf
    rw [decide_eq_false c] at hs
    subst hf
    exact ⟨fun _ => ⟨rfl, by rw [hs]; rfl⟩, fun e => absurd c1 e, rfl, rfl⟩
theorem code_end {most : Int} {b : List Int} {s : St} {d d1 : DS} (h2 : s.ph = 2) (g : Goes b d (symG s.ls b d.p) 256 d1) (c1 : d1.e = 0) : stepG most s b d.p = .ok s.closed d1.p := by
  rw [step2 h2]
  unfold codeG
  rw [bindG_ok _ (g.ok c1).1, if_neg (by decide), if_pos rfl]
  rfl
theorem code_match {most : Int} {b : List Int} {s : St} {d d1 d7 : DS} {x n far : Int} (h2 : s.ph = 2) (g : Goes b d (symG s.ls b d.p) x d1) (c1 : d1.e = 0) (hx : ¬ x < 256) (hx2 : x ≠ 256) (g7 : Goes b d1 (matchG (x - 257) s.ds s.out.length most b d1.p) (n, far) d7) :
    (d7.e = 0 → stepG most s b d.p = .ok { s with out := rep s.out n.toNat far.toNat } d7.p) ∧ (d7.e ≠ 0 → Ends most b s d.p d7.e) := by
  have hs : stepG most s b d.p = bindG (matchG (x - 257) s.ds s.out.length most) (fun m => pureG { s with out := rep s.out m.1.toNat m.2.toNat }) b d1.p := by
    rw [step2 h2]
    unfold codeG
    rw [bindG_ok _ (g.ok c1).1, if_neg hx, if_neg hx2]
  refine ⟨fun e => ?_, fun e => ends_of_err (by omega) ?_⟩
  · rw [hs, bindG_ok _ (g7.ok e).1]
    rfl
  · rw [hs]
    exact (g7.no e).1.bind _
/-- A byte of a stored block. -/
theorem byte_some {most : Int} {b : List Int} {s : St} {p q m : Nat} {v : Int} (h1 : s.ph = 1) (hl : s.left = m + 1) (hn : numG 8 b p = .ok v q) : stepG most s b p = .ok (if m = 0 then St.closed { s with left := 0, out := s.out ++ [v] } else { s with left := m, out := s.out ++ [v] }) q := by
  rw [step1 h1]
  unfold byteG
  rw [if_neg (by omega), bindG_ok _ hn, hl]
  by_cases c : m = 0
  · rw [if_pos (by omega), if_pos c]
    rfl
  · rw [if_neg (by omega), if_neg c]
    rfl
theorem byte_end {most : Int} {b : List Int} {s : St} {p : Nat} (h1 : s.ph = 1) (hl : s.left = 0) : stepG most s b p = .ok s.closed p := by
  rw [step1 h1]
  unfold byteG
  rw [if_pos hl]
  rfl
theorem byte_err {most : Int} {b : List Int} {s : St} {p : Nat} {e : Int} (h1 : s.ph = 1) (hl : s.left ≠ 0) (hn : Err e (numG 8 b p)) : Ends most b s p e := by
  refine ends_of_err (by omega) ?_
  rw [step1 h1]
  unfold byteG
  rw [if_neg hl]
  exact hn.bind _
/-- What a block begins with: whether it is the last one, and its kind. -/
theorem open_head {most : Int} {b : List Int} {s : St} {d d1 d2 d3 : DS} {a k : Int} (h0 : s.ph = 0) (he : d.e = 0) (hp : d.p ≤ b.length) (h1 : numD 1 b d = (a, d1)) (h2 : numD 2 b d1 = (k, d2)) (h3 : failD (decide (k = 3)) 11 d2 = d3) (hk : d2.e = 0 → 0 ≤ k ∧ k ≤ 3) :
    (d3.e ≠ 0 → Ends most b s d.p d3.e ∧ d3.out = d.out ∧ d3.p ≤ b.length) ∧ (d3.e = 0 → d3.out = d.out ∧ d3.p ≤ b.length ∧ (k = 0 ∨ k = 1 ∨ k = 2) ∧ stepG most s b d.p = (if k = 0 then bindG (headG most s.out.length) (fun n => pureG { s with ph := 1, last := decide (a = 1), left := n.toNat, ls := [], ds := [] }) b d3.p
      else if k = 1 then .ok { s with ph := 2, last := decide (a = 1), left := 0, ls := fixL, ds := fixD } d3.p
      else bindG dynG (fun l => pureG { s with ph := 2, last := decide (a = 1), left := 0, ls := l.1, ds := l.2 }) b d3.p)) := by
  have g1 := num_goes h1 he hp
  have key : d1.e = 0 → d2.e = 0 → stepG most s b d.p = (if k = 0 then bindG alignG fun _ => bindG (numG 16) fun n => bindG (numG 16) fun m => bindG (refG (decide (n + m ≠ 65535)) 11) fun _ => bindG (refG (decide (most < s.out.length + n)) 12) fun _ =>
      pureG { s with ph := 1, last := decide (a = 1), left := n.toNat, ls := [], ds := [] }
      else if k = 1 then pureG { s with ph := 2, last := decide (a = 1), left := 0, ls := fixL, ds := fixD }
      else if k = 2 then bindG dynG fun l => pureG { s with ph := 2, last := decide (a = 1), left := 0, ls := l.1, ds := l.2 }
      else bindG (refG true 11) fun _ => pureG s) b d2.p := by
    intro c1 c2
    rw [step0 h0]
    unfold openG
    rw [bindG_ok _ (g1.ok c1).1, bindG_ok _ ((num_goes h2 c1 g1.le.1).ok c2).1]
  by_cases c1 : d1.e = 0
  · have g2 := num_goes h2 c1 g1.le.1
    by_cases c2 : d2.e = 0
    · have hk := hk c2
      have key := key c1 c2
      have ho : d2.out = d.out := by rw [g2.le.2, g1.le.2]
      by_cases k3 : k = 3
      · subst k3
        have e3 : d3.e = 11 := by
          rw [← h3]
          unfold failD
          rw [if_pos ⟨by decide, c2⟩]
        have e4 : d3.out = d2.out ∧ d3.p = d2.p := by
          rw [← h3]
          unfold failD
          rw [if_pos ⟨by decide, c2⟩]
          exact ⟨rfl, rfl⟩
        rw [if_neg (by decide), if_neg (by decide), if_neg (by decide)] at key
        refine ⟨fun _ => ⟨ends_of_err (by omega) (.inr ?_), by rw [e4.1, ho], by rw [e4.2]; exact g2.le.1⟩, fun e => by omega⟩
        rw [key, e3]
        rfl
      · have e3 : d3 = d2 := by
          rw [← h3]
          unfold failD
          rw [if_neg (fun h => k3 (of_decide_eq_true h.1))]
        subst e3
        refine ⟨fun e => absurd c2 e, fun _ => ⟨ho, g2.le.1, by omega, ?_⟩⟩
        rw [key]
        by_cases k0 : k = 0
        · rw [if_pos k0, if_pos k0]
          have assoc : ∀ {α β γ : Type} (g : G α) (f : α → G β) (h : β → G γ) (p : Nat), bindG g (fun a => bindG (f a) h) b p = bindG (bindG g f) h b p := by
            intro α β γ g f h p
            cases hg : g b p with
            | miss => rw [bindG_miss _ hg, bindG_miss _ (bindG_miss _ hg)]
            | bad e => rw [bindG_bad _ hg, bindG_bad _ (bindG_bad _ hg)]
            | ok x q =>
              rw [bindG_ok _ hg]
              cases hf : f x b q with
              | miss => rw [bindG_miss _ hf, bindG_miss]; rw [bindG_ok _ hg, hf]
              | bad e => rw [bindG_bad _ hf, bindG_bad]; rw [bindG_ok _ hg, hf]
              | ok y r => rw [bindG_ok _ hf]; rw [bindG_ok (q := r) (a := y)]; rw [bindG_ok _ hg, hf]
          unfold headG
          rw [← assoc]
          simp only [alignG, bindG_ok (g := alignG) (q := (d3.p + 7) / 8 * 8) (a := ()) _ rfl]
          rw [← assoc]
          generalize (d3.p + 7) / 8 * 8 = q
          cases hn : numG 16 b q with
          | miss => rw [bindG_miss _ hn, bindG_miss _ hn]
          | bad e => rw [bindG_bad _ hn, bindG_bad _ hn]
          | ok n q2 =>
            rw [bindG_ok _ hn, bindG_ok _ hn, ← assoc]
            cases hm : numG 16 b q2 with
            | miss => rw [bindG_miss _ hm, bindG_miss _ hm]
            | bad e => rw [bindG_bad _ hm, bindG_bad _ hm]
            | ok m q3 =>
              rw [bindG_ok _ hm, bindG_ok _ hm, ← assoc]
              cases hr : refG (decide (n + m ≠ 65535)) 11 b q3 with
              | miss => rw [bindG_miss _ hr, bindG_miss _ hr]
              | bad e => rw [bindG_bad _ hr, bindG_bad _ hr]
              | ok u q4 =>
                rw [bindG_ok _ hr, bindG_ok _ hr, ← assoc]
                rfl
        · rw [if_neg k0, if_neg k0]
          by_cases k1 : k = 1
          · rw [if_pos k1, if_pos k1]
            rfl
          · rw [if_neg k1, if_neg k1, if_pos (by omega)]
    · have e3 := fail_err h3 c2
      subst e3
      refine ⟨fun e => ⟨ends_of_err (by omega) ?_, by rw [g2.le.2, g1.le.2], g2.le.1⟩, fun e => absurd e c2⟩
      rw [step0 h0]
      unfold openG
      rw [bindG_ok _ (g1.ok c1).1]
      exact (g2.no c2).1.bind _
  · have e2 := (num_err h2 c1).2
    subst e2
    have e3 := fail_err h3 c1
    subst e3
    refine ⟨fun e => ⟨ends_of_err (by omega) ?_, g1.le.2, g1.le.1⟩, fun e => absurd e c1⟩
    rw [step0 h0]
    unfold openG
    exact (g1.no c1).1.bind _
end Go.Proofs.YthflefdchgpbdaaDoor.Inf
