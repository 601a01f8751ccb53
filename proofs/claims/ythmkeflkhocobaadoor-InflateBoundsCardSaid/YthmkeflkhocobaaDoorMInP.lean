/-
  Layer 13, inflate: how a packed text is read, thing by thing: plain. No program. No conditions beyond what each theorem names.
-/
import Derived.Test.YthmkeflkhocobaaDoorMInF
namespace Go.Proofs.YthmkeflkhocobaaDoor.Inf
open Go.RowKit Go.Proofs.YthmkeflkhocobaaDoor.Kit Go.Proofs.YthmkeflkhocobaaDoor.Bits Go.Proofs.YthmkeflkhocobaaDoor.Huf Go.Proofs.YthmkeflkhocobaaDoor.Df

/-- What comes of reading: bits are missing, it is wrong, or something is there, up to a place. -/
inductive Res (α : Type) where
  | miss
  | bad (e : Int)
  | ok (a : α) (p : Nat)
abbrev G (α : Type) := List Int → Nat → Res α
def pureG {α : Type} (a : α) : G α := fun _ p => .ok a p
def bindG {α β : Type} (g : G α) (f : α → G β) : G β := fun b p => match g b p with
  | .miss => .miss
  | .bad e => .bad e
  | .ok a q => f a b q
theorem bindG_miss {α β : Type} {g : G α} (f : α → G β) {b : List Int} {p : Nat} (h : g b p = .miss) : bindG g f b p = .miss := by rw [bindG, h]
theorem bindG_bad {α β : Type} {g : G α} (f : α → G β) {b : List Int} {p : Nat} {e : Int} (h : g b p = .bad e) : bindG g f b p = .bad e := by rw [bindG, h]
theorem bindG_ok {α β : Type} {g : G α} (f : α → G β) {b : List Int} {p q : Nat} {a : α} (h : g b p = .ok a q) : bindG g f b p = f a b q := by rw [bindG, h]
def numG (n : Nat) : G Int := fun b p => if p + n ≤ b.length then .ok (val ((b.drop p).take n)) (p + n) else .miss
def symG (l : List Int) : G Int := fun b p => match told l (b.drop p) with
  | .sym s n => .ok s (p + n)
  | .short => .miss
  | .form => .bad 11
def refG (is : Bool) (why : Int) : G Unit := fun _ p => if is then .bad why else .ok () p
def alignG : G Unit := fun _ p => .ok () ((p + 7) / 8 * 8)
theorem refG_no (why : Int) (b : List Int) (p : Nat) : refG false why b p = .ok () p := rfl
theorem refG_yes (why : Int) (b : List Int) (p : Nat) : refG true why b p = .bad why := rfl

/-- The same, from a place that lies 8 k bits lower. -/
def back {α : Type} (k : Nat) : Res α → Res α
  | .miss => .miss
  | .bad e => .bad e
  | .ok a q => .ok a (q - 8 * k)
/-- What is read of bits is read of more bits, too; it takes at most K bits, and lacks fewer; it does not ask where it stands, but for bytes. -/
structure Fine {α : Type} (g : G α) (K : Nat) : Prop where
  more : ∀ b c p, b.length % 8 = 0 → p ≤ b.length → g b p ≠ .miss → g (b ++ c) p = g b p
  le : ∀ b p a q, b.length % 8 = 0 → p ≤ b.length → g b p = .ok a q → p ≤ q ∧ q ≤ b.length ∧ q ≤ p + K
  lack : ∀ b p, b.length % 8 = 0 → p ≤ b.length → g b p = .miss → b.length < p + K
  shift : ∀ b p k, b.length % 8 = 0 → 8 * k ≤ p → p ≤ b.length → g (b.drop (8 * k)) (p - 8 * k) = back k (g b p)
  errs : ∀ b p e, g b p = .bad e → e = 11 ∨ e = 12
theorem Fine.mono {α : Type} {g : G α} {K L : Nat} (h : Fine g K) (hl : K ≤ L) : Fine g L :=
  ⟨h.more, fun b p a q h8 hp hg => by have := h.le b p a q h8 hp hg; omega, fun b p h8 hp hg => by have := h.lack b p h8 hp hg; omega, h.shift, h.errs⟩
theorem fine_pure {α : Type} (a : α) : Fine (pureG a) 0 :=
  ⟨fun _ _ _ _ _ _ => rfl, fun b p a' q h8 hp hg => by
    injection hg with h1 h2
    omega, fun b p h8 hp hg => by simp [pureG] at hg, fun b p k h8 hk hp => rfl, fun b p e hg => by simp [pureG] at hg⟩
theorem fine_ref (is : Bool) (why : Int) (hw : why = 11 ∨ why = 12) : Fine (refG is why) 0 := by
  cases is
  · exact ⟨fun _ _ _ _ _ _ => rfl, fun b p a' q h8 hp hg => by
      injection hg with h1 h2
      omega, fun b p h8 hp hg => by simp [refG] at hg, fun b p k h8 hk hp => rfl, fun b p e hg => by simp [refG] at hg⟩
  · exact ⟨fun _ _ _ _ _ _ => rfl, fun b p a' q h8 hp hg => by simp [refG] at hg, fun b p h8 hp hg => by simp [refG] at hg, fun b p k h8 hk hp => rfl, fun b p e hg => by simp [refG] at hg; omega⟩
theorem fine_align : Fine alignG 7 :=
  ⟨fun _ _ _ _ _ _ => rfl, fun b p a' q h8 hp hg => by
    injection hg with h1 h2
    omega, fun b p h8 hp hg => by simp [alignG] at hg, fun b p k h8 hk hp => by
    have : (p - 8 * k + 7) / 8 * 8 = (p + 7) / 8 * 8 - 8 * k := by omega
    simp only [alignG, back, this], fun b p e hg => by simp [alignG] at hg⟩
theorem fine_num (n : Nat) : Fine (numG n) n := by
  refine ⟨fun b c p h8 hp hg => ?_, fun b p a q h8 hp hg => ?_, fun b p h8 hp hg => ?_, fun b p k h8 hk hp => ?_, fun b p e hg => ?_⟩
  · unfold numG at hg ⊢
    by_cases h : p + n ≤ b.length
    · rw [if_pos h, if_pos (by rw [List.length_append]; omega), List.drop_append_of_le_length hp, List.take_append_of_le_length (by rw [List.length_drop]; omega)]
    · rw [if_neg h] at hg
      exact absurd rfl hg
  · unfold numG at hg
    by_cases h : p + n ≤ b.length
    · rw [if_pos h] at hg
      injection hg with h1 h2
      omega
    · rw [if_neg h] at hg
      exact absurd hg (by simp)
  · unfold numG at hg
    by_cases h : p + n ≤ b.length
    · rw [if_pos h] at hg
      exact absurd hg (by simp)
    · omega
  · unfold numG
    rw [List.length_drop, List.drop_drop, show 8 * k + (p - 8 * k) = p by omega]
    by_cases h : p + n ≤ b.length
    · rw [if_pos h, if_pos (by omega)]
      simp only [back]
      rw [show p - 8 * k + n = p + n - 8 * k by omega]
    · rw [if_neg h, if_neg (by omega)]
      rfl
  · unfold numG at hg
    split at hg <;> cases hg
theorem fine_bind {α β : Type} {g : G α} {f : α → G β} {K L : Nat} (hg : Fine g K) (hf : ∀ a, Fine (f a) L) : Fine (bindG g f) (K + L) := by
  refine ⟨fun b c p h8 hp hm => ?_, fun b p a q h8 hp hm => ?_, fun b p h8 hp hm => ?_, fun b p k h8 hk hp => ?_, fun b p e hm => ?_⟩
  · cases h : g b p with
    | miss => exact absurd (bindG_miss f h) hm
    | bad e => rw [bindG_bad f h, bindG_bad f (by rw [hg.more b c p h8 hp (by rw [h]; simp), h])]
    | ok a q =>
      have h' := hg.more b c p h8 hp (by rw [h]; simp)
      rw [h] at h'
      rw [bindG_ok f h] at hm ⊢
      rw [bindG_ok f h']
      exact (hf a).more b c q h8 (hg.le b p a q h8 hp h).2.1 hm
  · cases h : g b p with
    | miss => rw [bindG_miss f h] at hm; exact absurd hm (by simp)
    | bad e => rw [bindG_bad f h] at hm; exact absurd hm (by simp)
    | ok a' q' =>
      rw [bindG_ok f h] at hm
      have h1 := hg.le b p a' q' h8 hp h
      have h2 := (hf a').le b q' a q h8 h1.2.1 hm
      omega
  · cases h : g b p with
    | miss => have := hg.lack b p h8 hp h; omega
    | bad e => rw [bindG_bad f h] at hm; exact absurd hm (by simp)
    | ok a' q' =>
      rw [bindG_ok f h] at hm
      have h1 := hg.le b p a' q' h8 hp h
      have h2 := (hf a').lack b q' h8 h1.2.1 hm
      omega
  · have hs := hg.shift b p k h8 hk hp
    cases h : g b p with
    | miss => rw [h] at hs; rw [bindG_miss f h, bindG_miss f hs]; rfl
    | bad e => rw [h] at hs; rw [bindG_bad f h, bindG_bad f hs]; rfl
    | ok a q =>
      rw [h] at hs
      have h1 := hg.le b p a q h8 hp h
      rw [bindG_ok f h, bindG_ok f hs]
      exact (hf a).shift b q k h8 (by omega) h1.2.1
  · cases h : g b p with
    | miss => rw [bindG_miss f h] at hm; cases hm
    | bad e' => rw [bindG_bad f h] at hm; injection hm with hm; exact hm ▸ hg.errs b p e' h
    | ok a q => rw [bindG_ok f h] at hm; exact (hf a).errs b q e hm

theorem go_more (l : List Int) (z : List Int) : ∀ (f n : Nat) (c : Int) (bits : List Int), go l f n c bits ≠ .short → go l f n c (bits ++ z) = go l f n c bits
  | 0, _, _, _, _ => rfl
  | f + 1, n, c, bits, h => by
    rw [go_succ] at h
    rw [go_succ, go_succ]
    by_cases h1 : mostOf l 15 < (n : Int)
    · rw [if_pos h1, if_pos h1]
    · rw [if_neg h1] at h ⊢
      rw [if_neg h1]
      cases bits with
      | nil => exact absurd rfl h
      | cons b rest =>
        simp only [List.cons_append]
        by_cases h2 : 2 * c + b - fc l n < cnt l (n : Int)
        · rw [if_pos h2, if_pos h2]
        · simp only [if_neg h2] at h ⊢
          exact go_more l z f (n + 1) _ rest h
theorem go_sym_le (l : List Int) : ∀ (f n : Nat) (c : Int) (bits : List Int) (s : Int) (k : Nat), go l f n c bits = .sym s k → n ≤ k ∧ k + 1 ≤ n + bits.length ∧ k ≤ 15
  | 0, _, _, _, _, _, h => by simp [go] at h
  | f + 1, n, c, bits, s, k, h => by
    have hL := most_le l 15
    rw [go_succ] at h
    by_cases h1 : mostOf l 15 < (n : Int)
    · rw [if_pos h1] at h; cases h
    · rw [if_neg h1] at h
      cases bits with
      | nil => cases h
      | cons b rest =>
        simp only at h
        by_cases h2 : 2 * c + b - fc l n < cnt l (n : Int)
        · rw [if_pos h2] at h
          injection h with h3 h4
          rw [List.length_cons]
          omega
        · rw [if_neg h2] at h
          have := go_sym_le l f (n + 1) _ rest s k h
          rw [List.length_cons]
          omega
theorem go_short_le (l : List Int) : ∀ (f n : Nat) (c : Int) (bits : List Int), go l f n c bits = .short → n + bits.length ≤ 15
  | 0, _, _, _, h => by simp [go] at h
  | f + 1, n, c, bits, h => by
    have hL := most_le l 15
    rw [go_succ] at h
    by_cases h1 : mostOf l 15 < (n : Int)
    · rw [if_pos h1] at h; cases h
    · rw [if_neg h1] at h
      cases bits with
      | nil => rw [List.length_nil]; omega
      | cons b rest =>
        simp only at h
        by_cases h2 : 2 * c + b - fc l n < cnt l (n : Int)
        · rw [if_pos h2] at h; cases h
        · rw [if_neg h2] at h
          have := go_short_le l f (n + 1) _ rest h
          rw [List.length_cons]
          omega
theorem told_le {l bits : List Int} {s : Int} {k : Nat} (h : told l bits = .sym s k) : 1 ≤ k ∧ k ≤ bits.length ∧ k ≤ 15 := by
  have := go_sym_le l 16 1 0 bits s k h
  omega
theorem symG_eq (l b : List Int) (p : Nat) : symG l b p = match told l (b.drop p) with
  | .sym s n => .ok s (p + n)
  | .short => .miss
  | .form => .bad 11 := rfl
theorem fine_sym (l : List Int) : Fine (symG l) 15 := by
  refine ⟨fun b c p h8 hp hg => ?_, fun b p a q h8 hp hg => ?_, fun b p h8 hp hg => ?_, fun b p k h8 hk hp => ?_, fun b p e hg => ?_⟩
  · have hne : told l (b.drop p) ≠ .short := by
      intro h
      rw [symG_eq, h] at hg
      exact hg rfl
    rw [symG_eq, symG_eq, List.drop_append_of_le_length hp, told, go_more l c 16 1 0 _ hne]
    rfl
  · rw [symG_eq] at hg
    cases h : told l (b.drop p) with
    | sym s n =>
      rw [h] at hg
      injection hg with h1 h2
      have := told_le h
      rw [List.length_drop] at this
      omega
    | short => rw [h] at hg; cases hg
    | form => rw [h] at hg; cases hg
  · rw [symG_eq] at hg
    cases h : told l (b.drop p) with
    | sym s n => rw [h] at hg; cases hg
    | short =>
      have := go_short_le l 16 1 0 _ h
      rw [List.length_drop] at this
      omega
    | form => rw [h] at hg; cases hg
  · rw [symG_eq, symG_eq, List.drop_drop, show 8 * k + (p - 8 * k) = p by omega]
    cases h : told l (b.drop p) with
    | sym s n =>
      simp only [back]
      rw [show p - 8 * k + n = p + n - 8 * k by omega]
    | short => rfl
    | form => rfl
  · rw [symG_eq] at hg
    cases h : told l (b.drop p) with
    | sym s n => rw [h] at hg; cases hg
    | short => rw [h] at hg; cases hg
    | form => rw [h] at hg; injection hg with hg; omega

/-- One run of equal lengths: of which, and how many. -/
def runG (l acc : List Int) : G (Int × Int) := bindG (symG l) fun s =>
  if s = 16 then bindG (refG (decide (acc.length = 0)) 11) fun _ => bindG (numG 2) fun v => pureG (acc[acc.length - 1]?.getD 0, v + 3)
  else if s = 17 then bindG (numG 3) fun v => pureG (0, v + 3)
  else if s = 18 then bindG (numG 7) fun v => pureG (0, v + 11)
  else pureG (s, 1)
def rowG (l : List Int) (many : Nat) : Nat → List Int → G (List Int)
  | 0, acc => pureG acc
  | f + 1, acc => if many ≤ acc.length then pureG acc else bindG (runG l acc) fun r => bindG (refG (decide ((many : Int) - acc.length < r.2)) 11) fun _ => rowG l many f (acc ++ List.replicate r.2.toNat r.1)
def turnsL : List Int := [16, 17, 18, 0, 8, 7, 9, 6, 10, 5, 11, 4, 12, 3, 13, 2, 14, 1, 15]
/-- The lengths of lengths: n more, from the i-th on. -/
def hdrG : Nat → Nat → List Int → G (List Int)
  | 0, _, acc => pureG acc
  | n + 1, i, acc => bindG (numG 3) fun v => hdrG n (i + 1) (acc.set (turnsL.getD i 0).toNat v)
def dynG : G (List Int × List Int) := bindG (numG 5) fun a => bindG (numG 5) fun d => bindG (numG 4) fun c => bindG (refG (decide (286 < a + 257) || decide (30 < d + 1)) 11) fun _ =>
  bindG (hdrG (min (c + 4).toNat 19) 0 (List.replicate 19 0)) fun t => bindG (refG (!mayB t) 11) fun _ => bindG (rowG t (a + d + 258).toNat 320 []) fun l =>
  bindG (refG (!mayB (l.take (a + 257).toNat) || !mayB (l.drop (a + 257).toNat)) 11) fun _ => pureG (l.take (a + 257).toNat, l.drop (a + 257).toNat)
def fixL : List Int := List.replicate 144 8 ++ List.replicate 112 9 ++ List.replicate 24 7 ++ List.replicate 8 8
def fixD : List Int := List.replicate 32 5
theorem fine_if {α : Type} {c : Prop} [Decidable c] {g h : G α} {K : Nat} (hg : Fine g K) (hh : Fine h K) : Fine (if c then g else h) K := by
  split
  · exact hg
  · exact hh
theorem fine_run (l acc : List Int) : Fine (runG l acc) 22 := by
  unfold runG
  refine Fine.mono (fine_bind (fine_sym l) (L := 7) fun s => ?_) (by omega)
  exact fine_if (Fine.mono (fine_bind (fine_ref _ _ (by decide)) fun _ => fine_bind (fine_num 2) fun v => fine_pure _) (by omega)) (fine_if (Fine.mono (fine_bind (fine_num 3) fun v => fine_pure _) (by omega)) (fine_if (Fine.mono (fine_bind (fine_num 7) fun v => fine_pure _) (by omega)) ((fine_pure _).mono (by omega))))
theorem fine_row (l : List Int) (many : Nat) : ∀ f acc, Fine (rowG l many f acc) (22 * f)
  | 0, acc => (fine_pure acc).mono (by omega)
  | f + 1, acc => by
    unfold rowG
    exact fine_if ((fine_pure acc).mono (by omega)) (Fine.mono (fine_bind (fine_run l acc) fun r => fine_bind (fine_ref _ _ (by decide)) fun _ => fine_row l many f _) (by omega))
theorem fine_hdr : ∀ n i acc, Fine (hdrG n i acc) (3 * n)
  | 0, _, acc => (fine_pure acc).mono (by omega)
  | n + 1, i, acc => by
    unfold hdrG
    exact Fine.mono (fine_bind (fine_num 3) fun v => fine_hdr n (i + 1) _) (by omega)
theorem fine_dyn : Fine dynG 7111 := by
  unfold dynG
  refine Fine.mono (fine_bind (fine_num 5) fun a => fine_bind (fine_num 5) fun d => fine_bind (fine_num 4) fun c => fine_bind (fine_ref _ _ (by decide)) fun _ => fine_bind (K := 57) ((fine_hdr _ _ _).mono (by omega)) fun t => fine_bind (fine_ref _ _ (by decide)) fun _ => fine_bind (fine_row t _ 320 []) fun l => fine_bind (fine_ref _ _ (by decide)) fun _ => fine_pure _) (by omega)

/-- How far a text was read: what comes next (0: a block, 1: bytes, 2: symbols, 3: nothing), whether it is the last block, how many bytes are left, the codes' lengths, and what was told. -/
structure St where
  ph : Int
  last : Bool
  left : Nat
  ls : List Int
  ds : List Int
  out : List Int
def St.closed (s : St) : St := { s with ph := if s.last then 3 else 0, ls := [], ds := [] }
def openG (most : Int) (s : St) : G St := bindG (numG 1) fun a => bindG (numG 2) fun k =>
  if k = 0 then bindG alignG fun _ => bindG (numG 16) fun n => bindG (numG 16) fun m => bindG (refG (decide (n + m ≠ 65535)) 11) fun _ => bindG (refG (decide (most < s.out.length + n)) 12) fun _ =>
    pureG { s with ph := 1, last := decide (a = 1), left := n.toNat, ls := [], ds := [] }
  else if k = 1 then pureG { s with ph := 2, last := decide (a = 1), left := 0, ls := fixL, ds := fixD }
  else if k = 2 then bindG dynG fun l => pureG { s with ph := 2, last := decide (a = 1), left := 0, ls := l.1, ds := l.2 }
  else bindG (refG true 11) fun _ => pureG s
def byteG (s : St) : G St := if s.left = 0 then pureG s.closed else bindG (numG 8) fun v =>
  pureG (if s.left = 1 then St.closed { s with left := 0, out := s.out ++ [v] } else { s with left := s.left - 1, out := s.out ++ [v] })
/-- A match, behind its length's symbol: how many bytes, from how far. -/
def matchG (s : Int) (ds : List Int) (n : Nat) (most : Int) : G (Int × Int) := bindG (refG (decide (28 < s)) 11) fun _ => bindG (numG (lmore s).toNat) fun k => bindG (symG ds) fun d => bindG (refG (decide (29 < d)) 11) fun _ =>
  bindG (numG (dmore d).toNat) fun j => bindG (refG (decide ((n : Int) < dists.getD d.toNat 0 + j)) 11) fun _ => bindG (refG (decide (most < n + (lens.getD s.toNat 0 + k))) 12) fun _ => pureG (lens.getD s.toNat 0 + k, dists.getD d.toNat 0 + j)
def codeG (most : Int) (s : St) : G St := bindG (symG s.ls) fun x =>
  if x < 256 then bindG (refG (decide (most < s.out.length + 1)) 12) fun _ => pureG { s with out := s.out ++ [x] }
  else if x = 256 then pureG s.closed
  else bindG (matchG (x - 257) s.ds s.out.length most) fun m => pureG { s with out := rep s.out m.1.toNat m.2.toNat }
def stepG (most : Int) (s : St) : G St := if s.ph = 0 then openG most s else if s.ph = 1 then byteG s else codeG most s
theorem fine_open (most : Int) (s : St) : Fine (openG most s) 7200 := by
  unfold openG
  refine Fine.mono (fine_bind (fine_num 1) fun a => fine_bind (fine_num 2) (L := 7111) fun k => ?_) (by omega)
  refine fine_if (Fine.mono (fine_bind fine_align fun _ => fine_bind (fine_num 16) fun n => fine_bind (fine_num 16) fun m => fine_bind (fine_ref _ _ (by decide)) fun _ => fine_bind (fine_ref _ _ (by decide)) fun _ => fine_pure _) (by omega)) (fine_if ((fine_pure _).mono (by omega)) (fine_if (Fine.mono (fine_bind fine_dyn fun _ => fine_pure _) (by omega)) (Fine.mono (fine_bind (fine_ref _ _ (by decide)) fun _ => fine_pure _) (by omega))))
theorem fine_byte (s : St) : Fine (byteG s) 8 := by
  unfold byteG
  exact fine_if ((fine_pure _).mono (by omega)) (Fine.mono (fine_bind (fine_num 8) fun v => fine_pure _) (by omega))
theorem lmore_le (s : Int) (h : s ≤ 28) : (lmore s).toNat ≤ 5 := by unfold lmore; split <;> omega
theorem dmore_le (s : Int) (h : s ≤ 29) : (dmore s).toNat ≤ 13 := by unfold dmore; split <;> omega
theorem fine_ref_bind {β : Type} {c : Prop} [Decidable c] {why : Int} {f : Unit → G β} {K : Nat} (hw : why = 11 ∨ why = 12) (hf : ¬ c → Fine (f ()) K) : Fine (bindG (refG (decide c) why) f) K := by
  by_cases h : c
  · have : bindG (refG (decide c) why) f = bindG (refG true why) fun _ => (fun _ _ => .miss) := by
      funext b p
      rw [decide_eq_true h]
      rfl
    have e : ∀ b p, bindG (refG (decide c) why) f b p = .bad why := fun b p => by rw [this]; rfl
    exact ⟨fun b c' p _ _ _ => by rw [e, e], fun b p a q _ _ hg => (by rw [e] at hg; cases hg), fun b p _ _ hg => (by rw [e] at hg; cases hg), fun b p k _ _ _ => (by rw [e, e]; rfl), fun b p e' hg => by rw [e] at hg; injection hg with hg; omega⟩
  · have e : bindG (refG (decide c) why) f = f () := by
      funext b p
      rw [decide_eq_false h]
      rfl
    rw [e]
    exact hf h
theorem fine_match (s : Int) (ds : List Int) (n : Nat) (most : Int) : Fine (matchG s ds n most) 33 := by
  unfold matchG
  refine fine_ref_bind (by decide) fun h1 => ?_
  refine Fine.mono (fine_bind (K := 5) ((fine_num _).mono (lmore_le s (by omega))) fun k => fine_bind (fine_sym ds) (L := 13) fun d => ?_) (by omega)
  refine fine_ref_bind (by decide) fun h2 => ?_
  exact Fine.mono (fine_bind (K := 13) ((fine_num _).mono (dmore_le d (by omega))) fun j => fine_bind (fine_ref _ _ (by decide)) fun _ => fine_bind (fine_ref _ _ (by decide)) fun _ => fine_pure _) (by omega)
theorem fine_code (most : Int) (s : St) : Fine (codeG most s) 48 := by
  unfold codeG
  refine Fine.mono (fine_bind (fine_sym s.ls) (L := 33) fun x => ?_) (by omega)
  exact fine_if (Fine.mono (fine_bind (fine_ref _ _ (by decide)) fun _ => fine_pure _) (by omega)) (fine_if ((fine_pure _).mono (by omega)) (Fine.mono (fine_bind (fine_match _ _ _ _) fun _ => fine_pure _) (by omega)))
theorem fine_step (most : Int) (s : St) : Fine (stepG most s) 7200 := by
  unfold stepG
  exact fine_if (fine_open most s) (fine_if ((fine_byte s).mono (by omega)) ((fine_code most s).mono (by omega)))
end Go.Proofs.YthmkeflkhocobaaDoor.Inf
