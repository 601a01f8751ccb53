/-
  Layer 11, lz: the text of tokens: both functions, one answer. Conditions: as each theorem names.
-/
import Derived.Test.YthicgcgohpakgaaLzM
namespace Go.Proofs.Ythicgcgohpakgaa.Lz
open Go.ChangeShapes Go.WideShapes Go.ChangeAt Go.RowKit Go.Proofs.Ythicgcgohpakgaa.Kit

structure Tok where
  a : Int
  l : Int
  d : Int

/-- The slice at A holds the tokens ts; its memory lies below block B. -/
def HoldsT (w : World) (B : Nat) (A : Option Addr) (ts : List Tok) : Prop :=
  0 < ts.length → ∃ b off : Nat, A = some ⟨b, off, none⟩ ∧ b < B ∧ ∀ (j : Nat) (t : Tok), ts[j]? = some t →
    w.cell? ⟨b, off + j * 3, none⟩ = some (.int .u8 t.a) ∧ w.cell? ⟨b, off + j * 3 + 1, none⟩ = some (.int .i64 t.l) ∧ w.cell? ⟨b, off + j * 3 + 2, none⟩ = some (.int .i64 t.d)

theorem HoldsT.below {w w' : World} {B : Nat} {A : Option Addr} {ts : List Tok} (h : HoldsT w B A ts) (hb : Below B w w') : HoldsT w' B A ts := by
  intro hx
  obtain ⟨b, off, e, hB, hc⟩ := h hx
  exact ⟨b, off, e, hB, fun j t hj => by
    obtain ⟨h0, h1, h2⟩ := hc j t hj
    exact ⟨(hb.cell (p := ⟨b, _, none⟩) hB).trans h0, (hb.cell (p := ⟨b, _, none⟩) hB).trans h1, (hb.cell (p := ⟨b, _, none⟩) hB).trans h2⟩⟩

def TokOk (t : Tok) : Prop := (0 ≤ t.a ∧ t.a ≤ 255) ∧ (-9223372036854775808 ≤ t.l ∧ t.l ≤ 9223372036854775807) ∧ (-9223372036854775808 ≤ t.d ∧ t.d ≤ 9223372036854775807)

/-- k bytes more, each the one that stands d back. -/
def cp (b : List Int) (d : Nat) : Nat → List Int
  | 0 => b
  | k + 1 => cp b d k ++ [(cp b d k)[(cp b d k).length - d]?.getD 0]

theorem cp_length (b : List Int) (d k : Nat) : (cp b d k).length = b.length + k := by
  induction k with
  | zero => rfl
  | succ k ih => simp [cp, ih]; omega

def step (b : List Int) (t : Tok) : List Int := if t.l = 0 then b ++ [t.a] else cp b t.d.toNat t.l.toNat

/-- The text of tokens behind b; the error's number. -/
def expand (most : Int) : List Tok → List Int → List Int × Int
  | [], b => (b, 0)
  | t :: ts, b => if mayB t.a t.l t.d = false then ([], 3) else if (b.length : Int) < t.d then ([], 5) else if most < b.length + (if t.l < 1 then 1 else t.l) then ([], 12) else expand most ts (step b t)

/-- What a caller of Expand is told. -/
def Expands (R : List Int × Int) (w : World) (e : Ending) (w' : World) : Prop :=
  ∃ (A : Option Addr) (c : Nat), e = .returned (.tuple #[.slice A R.1.length c, .int .i64 R.2]) ∧ R.1.length ≤ c ∧ c ≤ maxLen ∧ Holds w' w'.heap.size .u8 A R.1 ∧ Below w.heap.size w w'

theorem Expands.of_own {w w' : World} {e : Ending} {v : Value} {b : List Int} {n : Int} {B : Nat} {t : TypeId} (he : e = .returned (.tuple #[v, .int .i64 n])) (own : Own w' B t .u8 v b) (hb : Below w.heap.size w w') : Expands (b, n) w e w' := by
  obtain ⟨A', c', rfl, hl, hm, hr'⟩ := own.opened
  exact ⟨A', c', he, hl, hm, hr', hb⟩

theorem elem8 : IntElem Try.prog 24 5 .u8 1 := ⟨Try.underlying24, by kernel_rfl, by omega⟩

set_option maxHeartbeats 1600000 in
theorem expand_any (A : Option Addr) (ts : List Tok) (c : Nat) (most : Int) (w : World) (hn : ts.length ≤ 4000) (ho : ∀ t ∈ ts, TokOk t) (hr : HoldsT w w.heap.size A ts) :
    Calls Try.prog 8 #[.slice A ts.length c, .int .i64 most] w (Expands (expand most ts []) w) := by
  obtain ⟨R, hR⟩ : ∃ R, expand most ts [] = R := ⟨_, rfl⟩
  rw [hR]
  have HR := Lib.hid hR
  clear hR
  go_enter Try.func8, Try.ntmps8
  go_wp2
  go_loopw [6, 11] (fun v s wr => ∃ (i : Nat) (b : List Int), i ≤ ts.length ∧ s = .int .i64 i ∧ Own wr w.heap.size 5 .u8 v b ∧ b.length ≤ 258 * i ∧ Hid (expand most (ts.drop i) b = R) ∧ Below w.heap.size w wr) (fun _ s _ => ts.length - (intOf s).toNat)
  case atStart => exact ⟨0, [], Nat.zero_le _, rfl, Own.nil _ _ _ _, by simp, by simpa using HR, Below.refl _ _⟩
  case round =>
    obtain ⟨i, b, hi, rfl, own, hbl, HE, hb⟩ := hrel
    by_cases hlt : i < ts.length
    · have hd : ts.drop i = ts[i] :: ts.drop (i + 1) := List.drop_eq_getElem_cons hlt
      obtain ⟨bb, off, rfl, hB, hc⟩ := (hr.below hb) (by omega)
      have hci := hc i ts[i] (List.getElem?_eq_getElem hlt)
      have hto := ho ts[i] (List.getElem_mem hlt)
      generalize ts[i] = t at *
      obtain ⟨a, l, d⟩ := t
      obtain ⟨h0, h1, h2⟩ := hci
      obtain ⟨ha, hl, hd1⟩ := hto
      simp only at h0 h1 h2 ha hl hd1
      have he := HE.out
      rw [hd, expand] at he
      clear HE hd hc
      have HE := Lib.hid he
      clear he
      obtain ⟨M, hM⟩ : ∃ M, mayB a l d = M := ⟨_, rfl⟩
      have hmc := may_any a l d (wr.alloc (.cells #[.int .u8 a, .int .i64 l, .int .i64 d] 32))
      rw [hM] at hmc
      have hfacts : M = true → (l = 0 ∧ d = 0) ∨ (l ≠ 0 ∧ a = 0 ∧ 3 ≤ l ∧ l ≤ 258 ∧ 1 ≤ d ∧ d ≤ 32768) := by
        intro h; rw [h] at hM; unfold mayB at hM; split at hM
        · rename_i h0; exact .inl ⟨h0, by simpa using hM⟩
        · rename_i h0; have := of_decide_eq_true hM; exact .inr ⟨h0, this⟩
      have HM := Lib.hid hM
      have Hmc := Lib.hid hmc
      have blk1 := Block.new wr 32 #[.int .u8 a, .int .i64 l, .int .i64 d]
      have hsz := hb.size
      have own1 := own.alloc (.cells #[.int .u8 a, .int .i64 l, .int .i64 d] 32)
      have hb1 := hb.alloc hb.size (.cells #[.int .u8 a, .int .i64 l, .int .i64 d] 32)
      clear hM hmc
      cases M with
      | false =>
        have he := HE.out
        rw [if_pos HM.out] at he
        obtain rfl : R = ([], 3) := he.symm
        clear he HE HR hfacts
        go_wp2_with (go_at_call 10; refine Hmc.out.mono ?_; rintro e w2 ⟨rfl, hb2⟩)
        go_ret2
        exact ⟨none, 0, rfl, Nat.le_refl _, Nat.zero_le _, Holds.nil, hb1.trans (hb2.mono (by simp; omega))⟩
      | true =>
        have hf := hfacts rfl
        clear hfacts
        by_cases hdl : (b.length : Int) < d
        · have he := HE.out
          rw [if_neg (by rw [HM.out]; decide), if_pos hdl] at he
          obtain rfl : R = ([], 5) := he.symm
          obtain ⟨A1, c1, rfl, _, _, _⟩ := own.opened
          clear he HE HR hf
          go_wp2_with (go_at_call 10; refine Hmc.out.mono ?_; rintro e w2 ⟨rfl, hb2⟩; have blk2 := blk1.below hb2 (by simp); have q0 := blk2.cell 0; have q1 := blk2.cell 1; have q2 := blk2.cell 2; simp at q0 q1 q2)
          go_ret2
          exact ⟨none, 0, rfl, Nat.le_refl _, Nat.zero_le _, Holds.nil, hb1.trans (hb2.mono (by simp; omega))⟩
        · obtain ⟨p, hp⟩ : ∃ p, (if l < 1 then (1 : Int) else l) = p := ⟨_, rfl⟩
          have hpb : 1 ≤ p ∧ p ≤ 258 := by rw [← hp]; split <;> omega
          have he := HE.out
          rw [if_neg (by rw [HM.out]; decide), if_neg hdl, hp] at he
          obtain ⟨A1, c1, rfl, _, _, _⟩ := own.opened
          by_cases hcap : most < b.length + p
          · rw [if_pos hcap] at he
            obtain rfl : R = ([], 12) := he.symm
            clear he HE HR hf
            go_wp2_with (go_at_call 10; refine Hmc.out.mono ?_; rintro e w2 ⟨rfl, hb2⟩; have blk2 := blk1.below hb2 (by simp); have q0 := blk2.cell 0; have q1 := blk2.cell 1; have q2 := blk2.cell 2; simp at q0 q1 q2)
            go_ret2
            exact ⟨none, 0, rfl, Nat.le_refl _, Nat.zero_le _, Holds.nil, hb1.trans (hb2.mono (by simp; omega))⟩
          · rw [if_neg hcap] at he
            clear HE
            have hd := Lib.hid (List.drop_eq_getElem_cons hlt)
            rcases hf with ⟨rfl, rfl⟩ | ⟨hl0, rfl, hl3, hl258, hd1', hd2'⟩
            · have hst : step b ⟨a, 0, 0⟩ = b ++ [a] := by unfold step; rw [if_pos rfl]
              rw [hst] at he
              have HE := Lib.hid he
              clear he hst
              go_wp2_with (first
                | (go_at_call 10; refine Hmc.out.mono ?_; rintro e w2 ⟨rfl, hb2⟩; have blk2 := blk1.below hb2 (by simp); have q0 := blk2.cell 0; have q1 := blk2.cell 1; have q2 := blk2.cell 2; simp at q0 q1 q2; have own2 := own1.below (by simpa using hb2); have hb12 := hb1.trans (hb2.mono (by simp; omega)); have hs12 := hb12.size)
                | (have _t := own2; at_builtin; refine wpList_append_one _ rfl _ _ _ rfl elem8 own2 rfl rfl (by omega) (by omega) ?_; clear _t; intro v3 w3 own3 hg3 hb3; have blk3 := (blk2.alloc _).grown hg3 (own2.ne_block blk2 (by decide)); have r1 := blk3.cell 1; simp at r1))
              refine wp_loop_rounds 1 ?_
              rw [rounds_succ]
              go_wp2_with fail
              go_roundw
              case rel => exact ⟨i + 1, _, by omega, by go_num, own3, by simp; omega, HE, hb12.trans hb3⟩
              case measure => simp [intOf]; omega
            · obtain ⟨L, rfl⟩ := Int.eq_ofNat_of_zero_le (show 0 ≤ l by omega)
              obtain ⟨D, rfl⟩ := Int.eq_ofNat_of_zero_le (show 0 ≤ d by omega)
              have hst : step b ⟨0, (L : Int), (D : Int)⟩ = cp b D L := by unfold step; rw [if_neg (by omega)]; rfl
              rw [hst] at he
              have HE := Lib.hid he
              have hpl : p = (L : Int) := by rw [← hp, if_neg (by omega)]
              have hL0 : ((L : Int) == 0) = false := by rw [beq_eq_false_iff_ne]; omega
              clear he hst hp
              subst hpl
              have hL1 : ¬ (L : Int) < 1 := by omega
              have hd22 : decide (b.length < D) = false := by rw [decide_eq_false_iff_not]; omega
              have hd30 : decide (most < (b.length : Int) + (L : Int)) = false := by rw [decide_eq_false_iff_not]; omega
              go_wp2_with (go_at_call 10; refine Hmc.out.mono ?_; rintro e w2 ⟨rfl, hb2⟩; have blk2 := blk1.below hb2 (by simp); have q0 := blk2.cell 0; have q1 := blk2.cell 1; have q2 := blk2.cell 2; simp at q0 q1 q2; have own2 := own1.below (by simpa using hb2); have hb12 := hb1.trans (hb2.mono (by simp; omega)); have hs12 := hb12.size)
              go_loopw [6, 41] (fun v s wk => ∃ k : Nat, k ≤ L ∧ s = .int .i64 k ∧ Own wk w.heap.size 5 .u8 v (cp b D k) ∧ Block wk wr.heap.size 32 #[.int .u8 0, .int .i64 L, .int .i64 D] ∧ Below w.heap.size w wk) (fun _ s _ => L - (intOf s).toNat)
              case atStart => exact ⟨0, Nat.zero_le _, rfl, own2, blk2, hb12⟩
              case round =>
                obtain ⟨k, hk, rfl, own3, blk3, hb3⟩ := hrel
                have hlen := cp_length b D k
                have hnext : cp b D (k + 1) = cp b D k ++ [(cp b D k)[(cp b D k).length - D]?.getD 0] := rfl
                by_cases hkL : k < L
                · have hs3 := hb3.size
                  obtain ⟨g, cap, hv, hgB, hgs, hnc, hcm⟩ := own3.form (by omega)
                  subst hv
                  have hz := own3.cellAt rfl (i := (cp b D k).length - D) (by omega)
                  have r2 := blk3.cell 2
                  simp at r2
                  generalize (cp b D k)[(cp b D k).length - D]?.getD 0 = z at *
                  generalize cp b D k = q at *
                  have hq : b.length ≤ q.length ∧ q.length ≤ b.length + 258 := by omega
                  have Hnext := Lib.hid hnext
                  clear hnext hlen
                  go_wp2_with (at_builtin; refine wpList_append_one _ rfl _ _ _ rfl elem8 own3 rfl rfl (by omega) (by omega) ?_; intro v4 w4 own4 hg4 hb4; have blk4 := (blk3.alloc _).grown hg4 (own3.ne_block blk3 (by decide)))
                  go_roundw
                  case rel => exact ⟨k + 1, by omega, by go_num, by rw [Hnext.out]; exact own4, blk4, hb3.trans hb4⟩
                  case measure => simp [intOf]; omega
                · obtain rfl : k = L := by omega
                  go_wp2_with fail
                  go_roundw
                  case rel => exact ⟨i + 1, _, by omega, by go_num, own3, by omega, HE, hb3⟩
                  case measure => simp [intOf]; omega
    · have he := HE.out
      rw [List.drop_eq_nil_of_le (by omega), expand] at he
      clear HE
      subst he
      go_wp2_with fail
      go_ret2
      exact .of_own rfl own hb

theorem Expands.empty {w w' : World} {n : Int} (hb : Below w.heap.size w w') (hB : w.heap.size ≤ w'.heap.size) (w2 : World) (e : Ending) (he : e = .returned (.tuple #[.slice (some ⟨w'.heap.size, 0, none⟩) 0 0, .int .i64 n])) (hw : w2 = w'.alloc (.cells #[] 5)) : Expands ([], n) w e w2 := by
  subst hw
  exact .of_own he (Own.empty w' 5 .u8 (Nat.le_refl _)) (hb.alloc hB _)

set_option maxHeartbeats 3200000 in
theorem rexpand_any (A : Option Addr) (ts : List Tok) (c : Nat) (most : Int) (w : World) (hn : ts.length ≤ 4000) (ho : ∀ t ∈ ts, TokOk t) (hr : HoldsT w w.heap.size A ts) :
    Calls Try.prog 9 #[.slice A ts.length c, .int .i64 most] w (Expands (expand most ts []) w) := by
  obtain ⟨R, hR⟩ : ∃ R, expand most ts [] = R := ⟨_, rfl⟩
  rw [hR]
  have HR := Lib.hid hR
  clear hR
  have own0 := Own.empty (B := w.heap.size) w 5 .u8 (Nat.le_refl _)
  have hb0 : Below w.heap.size w (w.alloc (.cells #[] 5)) := (Below.refl _ _).alloc (Nat.le_refl _) _
  go_enter Try.func9, Try.ntmps9
  go_wp2
  go_loopw [6, 15] (fun v s wr => ∃ (i : Nat) (b : List Int), i ≤ ts.length ∧ s = .int .i64 i ∧ Own wr w.heap.size 5 .u8 v b ∧ b.length ≤ 258 * i ∧ Hid (expand most (ts.drop i) b = R) ∧ Below w.heap.size w wr) (fun _ s _ => ts.length - (intOf s).toNat)
  case atStart => exact ⟨0, [], Nat.zero_le _, rfl, own0, by simp, by simpa using HR, hb0⟩
  case round =>
    obtain ⟨i, b, hi, rfl, own, hbl, HE, hb⟩ := hrel
    by_cases hlt : i < ts.length
    · have hd : ts.drop i = ts[i] :: ts.drop (i + 1) := List.drop_eq_getElem_cons hlt
      obtain ⟨bb, off, rfl, hB, hc⟩ := (hr.below hb) (by omega)
      have hci := hc i ts[i] (List.getElem?_eq_getElem hlt)
      have hto := ho ts[i] (List.getElem_mem hlt)
      generalize ts[i] = t at *
      obtain ⟨a, l, d⟩ := t
      obtain ⟨h0, h1, h2⟩ := hci
      obtain ⟨ha, hl, hd1⟩ := hto
      simp only at h0 h1 h2 ha hl hd1
      have he := HE.out
      rw [hd, expand] at he
      clear HE hd hc
      have HE := Lib.hid he
      clear he
      obtain ⟨M, hM⟩ : ∃ M, mayB a l d = M := ⟨_, rfl⟩
      have hmc := rmay_any a l d (wr.alloc (.cells #[.int .u8 a, .int .i64 l, .int .i64 d] 32))
      rw [hM] at hmc
      have hfacts : M = true → (l = 0 ∧ d = 0) ∨ (l ≠ 0 ∧ a = 0 ∧ 3 ≤ l ∧ l ≤ 258 ∧ 1 ≤ d ∧ d ≤ 32768) := by
        intro h; rw [h] at hM; unfold mayB at hM; split at hM
        · rename_i h0; exact .inl ⟨h0, by simpa using hM⟩
        · rename_i h0; have := of_decide_eq_true hM; exact .inr ⟨h0, this⟩
      have HM := Lib.hid hM
      have Hmc := Lib.hid hmc
      have blk1 := Block.new wr 32 #[.int .u8 a, .int .i64 l, .int .i64 d]
      have hsz := hb.size
      have own1 := own.alloc (.cells #[.int .u8 a, .int .i64 l, .int .i64 d] 32)
      have hb1 := hb.alloc hb.size (.cells #[.int .u8 a, .int .i64 l, .int .i64 d] 32)
      clear hM hmc
      cases M with
      | false =>
        have he := HE.out
        rw [if_pos HM.out] at he
        obtain rfl : R = ([], 3) := he.symm
        clear he HE HR hfacts
        go_wp2_with (go_at_call 11; refine Hmc.out.mono ?_; rintro e w2 ⟨rfl, hb2⟩; have blk2 := blk1.below hb2 (by simp); have q0 := blk2.cell 0; have q1 := blk2.cell 1; have q2 := blk2.cell 2; simp at q0 q1 q2; have hb12 := hb1.trans (hb2.mono (by simp; omega)))
        go_ret2
        exact .empty hb12 hb12.size _ _ rfl rfl
      | true =>
        have hf := hfacts rfl
        clear hfacts
        by_cases hdl : (b.length : Int) < d
        · have he := HE.out
          rw [if_neg (by rw [HM.out]; decide), if_pos hdl] at he
          obtain rfl : R = ([], 5) := he.symm
          obtain ⟨A1, c1, rfl, _, _, _⟩ := own.opened
          clear he HE HR hf
          go_wp2_with (go_at_call 11; refine Hmc.out.mono ?_; rintro e w2 ⟨rfl, hb2⟩; have blk2 := blk1.below hb2 (by simp); have q0 := blk2.cell 0; have q1 := blk2.cell 1; have q2 := blk2.cell 2; simp at q0 q1 q2; have hb12 := hb1.trans (hb2.mono (by simp; omega)))
          go_ret2
          exact .empty hb12 hb12.size _ _ rfl rfl
        · have he := HE.out
          rw [if_neg (by rw [HM.out]; decide), if_neg hdl] at he
          obtain ⟨A1, c1, rfl, _, _, _⟩ := own.opened
          clear HE
          rcases hf with ⟨rfl, rfl⟩ | ⟨hl0, rfl, hl3, hl258, hd1', hd2'⟩
          · have hst : step b ⟨a, 0, 0⟩ = b ++ [a] := by unfold step; rw [if_pos rfl]
            rw [hst, if_pos (show (0 : Int) < 1 by omega)] at he
            by_cases hcap : most ≤ b.length
            · rw [if_pos (by omega)] at he
              obtain rfl : R = ([], 12) := he.symm
              clear he hst HR
              go_wp2_with (go_at_call 11; refine Hmc.out.mono ?_; rintro e w2 ⟨rfl, hb2⟩; have blk2 := blk1.below hb2 (by simp); have q0 := blk2.cell 0; have q1 := blk2.cell 1; have q2 := blk2.cell 2; simp at q0 q1 q2; have own2 := own1.below (by simpa using hb2); have hb12 := hb1.trans (hb2.mono (by simp; omega)); have hs12 := hb12.size)
              refine wp_loop_rounds 1 ?_
              rw [rounds_succ]
              go_wp2_with fail
              go_ret2
              exact .empty hb12 hb12.size _ _ rfl rfl
            · rw [if_neg (by omega)] at he
              have HE := Lib.hid he
              clear he hst
              go_wp2_with (go_at_call 11; refine Hmc.out.mono ?_; rintro e w2 ⟨rfl, hb2⟩; have blk2 := blk1.below hb2 (by simp); have q0 := blk2.cell 0; have q1 := blk2.cell 1; have q2 := blk2.cell 2; simp at q0 q1 q2; have own2 := own1.below (by simpa using hb2); have hb12 := hb1.trans (hb2.mono (by simp; omega)); have hs12 := hb12.size)
              refine wp_loop_rounds 2 ?_
              rw [rounds_succ]
              go_wp2_with (have _t := own2; at_builtin; refine wpList_append_one _ rfl _ _ _ rfl elem8 own2 rfl rfl (by omega) (by omega) ?_; clear _t; intro v3 w3 own3 hg3 hb3; have blk3 := (blk2.alloc _).grown hg3 (own2.ne_block blk2 (by decide)); have r1 := blk3.cell 1; simp at r1)
              rw [rounds_succ]
              go_wp2_with fail
              go_roundw
              case rel => exact ⟨i + 1, _, by omega, by go_num, own3, by simp; omega, HE, hb12.trans hb3⟩
              case measure => simp [intOf]; omega
          · obtain ⟨L, rfl⟩ := Int.eq_ofNat_of_zero_le (show 0 ≤ l by omega)
            obtain ⟨D, rfl⟩ := Int.eq_ofNat_of_zero_le (show 0 ≤ d by omega)
            have hst : step b ⟨0, (L : Int), (D : Int)⟩ = cp b D L := by unfold step; rw [if_neg (by omega)]; rfl
            rw [hst, if_neg (show ¬ (L : Int) < 1 by omega)] at he
            have HE := Lib.hid he
            have hL0 : ((L : Int) == 0) = false := by rw [beq_eq_false_iff_ne]; omega
            have hd22 : decide (b.length < D) = false := by rw [decide_eq_false_iff_not]; omega
            clear he hst
            go_wp2_with (go_at_call 11; refine Hmc.out.mono ?_; rintro e w2 ⟨rfl, hb2⟩; have blk2 := blk1.below hb2 (by simp); have q0 := blk2.cell 0; have q1 := blk2.cell 1; have q2 := blk2.cell 2; simp at q0 q1 q2; have own2 := own1.below (by simpa using hb2); have hb12 := hb1.trans (hb2.mono (by simp; omega)); have hs12 := hb12.size)
            go_loopw [6, 10] (fun v s wk => ∃ k : Nat, k ≤ L ∧ s = .int .i64 k ∧ Own wk w.heap.size 5 .u8 v (cp b D k) ∧ Block wk wr.heap.size 32 #[.int .u8 0, .int .i64 L, .int .i64 D] ∧ Below w.heap.size w wk ∧ (k = 0 ∨ (b.length : Int) + k ≤ most)) (fun _ s _ => L - (intOf s).toNat)
            case atStart => exact ⟨0, Nat.zero_le _, rfl, own2, blk2, hb12, .inl rfl⟩
            case round =>
              obtain ⟨k, hk, rfl, own3, blk3, hb3, hkm⟩ := hrel
              have hlen := cp_length b D k
              have hnext : cp b D (k + 1) = cp b D k ++ [(cp b D k)[(cp b D k).length - D]?.getD 0] := rfl
              have hkm' := Lib.hid hkm
              have hs3 := hb3.size
              clear hkm
              by_cases hkL : k < L
              · obtain ⟨g, cap, hv, hgB, hgs, hnc, hcm⟩ := own3.form (by omega)
                subst hv
                have hz := own3.cellAt rfl (i := (cp b D k).length - D) (by omega)
                have r1 := blk3.cell 1
                have r2 := blk3.cell 2
                simp at r1 r2
                generalize (cp b D k)[(cp b D k).length - D]?.getD 0 = z at *
                generalize cp b D k = q at *
                have hq : b.length ≤ q.length ∧ q.length ≤ b.length + 258 := by omega
                have Hnext := Lib.hid hnext
                have Hlen := Lib.hid hlen
                clear hnext hlen
                by_cases hcap : most ≤ q.length
                · have he := HE.out
                  have hl2 := Hlen.out
                  rw [if_pos (by omega)] at he
                  obtain rfl : R = ([], 12) := he.symm
                  clear he HE HR hl2
                  go_wp2_with fail
                  go_ret2
                  exact .empty hb3 hb3.size _ _ rfl rfl
                · go_wp2_with (at_builtin; refine wpList_append_one _ rfl _ _ _ rfl elem8 own3 rfl rfl (by omega) (by omega) ?_; intro v4 w4 own4 hg4 hb4; have blk4 := (blk3.alloc _).grown hg4 (own3.ne_block blk3 (by decide)))
                  go_roundw
                  case rel => exact ⟨k + 1, by omega, by go_num, by rw [Hnext.out]; exact own4, blk4, hb3.trans hb4, .inr (by have := Hlen.out; omega)⟩
                  case measure => simp [intOf]; omega
              · obtain rfl : k = L := by omega
                have he := HE.out
                have hk0 := hkm'.out
                rw [if_neg (by omega)] at he
                have HE2 := Lib.hid he
                have hq : (cp b D k).length ≤ b.length + 258 := by omega
                clear he hlen hk0 hnext
                go_wp2_with fail
                go_roundw
                case rel => exact ⟨i + 1, _, by omega, by go_num, own3, by omega, HE2, hb3⟩
                case measure => simp [intOf]; omega
    · have he := HE.out
      rw [List.drop_eq_nil_of_le (by omega), expand] at he
      clear HE
      subst he
      go_wp2_with fail
      go_ret2
      exact .of_own rfl own hb
end Go.Proofs.Ythicgcgohpakgaa.Lz
