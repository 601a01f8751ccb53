/-
  Layer 13, inflate: a reading, up to where it stops: the program's contract. Conditions: the table of turns holds what the program's text lays; and as each theorem names.
-/
import Derived.Test.YthflefdchgpbdaaDoorMInL
import Derived.Test.YthflefdchgpbdaaDoorMInM
namespace Go.Proofs.YthflefdchgpbdaaDoor.Inf
open Go.ChangeShapes Go.WideShapes Go.ChangeAt Go.RowKit Go.Proofs.YthflefdchgpbdaaDoor.Kit Go.Proofs.YthflefdchgpbdaaDoor.Bits Go.Proofs.YthflefdchgpbdaaDoor.Huf Go.Proofs.YthflefdchgpbdaaDoor.Df

/-- Nothing of an inflater at work has turned. -/
theorem laid_box {g x : Nat} {w : World} {t : TypeId} {cs : Array Value} (hL : Laid g turnsL w) (b : Block w x t cs) (h1 : cs[1]? ≠ some (.int .i64 (turnsL.getD 1 0))) : ¬ g = x := fun e => by
  subst e
  have h := hL 1 (by decide)
  rw [b.cell 1] at h
  exact h1 h
theorem InAt.away {S : Nat → Prop} {w w' : World} {X : Cx} {st : St} {vs vd : Value} {A : Option Addr} {c p : Nat} {u1 u2 : Value} (h : InAt w X st vs vd A c p u1 u2) (t : TurnsIn S w w') (hS : ∀ b ty cs, Block w b ty cs → S b → ty = 3 ∨ ty = 24 ∨ ty = 48) : InAt w' X st vs vd A c p u1 u2 := by
  have hu : ∀ {B1 : Nat} {o : Value} {xs : List Int}, Own w B1 5 .u8 o xs → Own w' B1 5 .u8 o xs := fun ho => ho.out t (fun b hb he => by
    rcases ho.2 with ⟨e, _⟩ | ⟨g', cap, cur, e, _, hh, _⟩
    · rw [e] at hb; cases hb
    · rw [e] at hb
      have : g' = b := Option.some.inj hb
      subst this
      rcases hS g' _ _ hh he with e | e | e <;> exact absurd e (by decide))
  have hb : ∀ {g : Nat} {ty : TypeId} {cs : Array Value}, Block w g ty cs → ty ≠ 3 ∧ ty ≠ 24 ∧ ty ≠ 48 → Block w' g ty cs := fun hb hn => hb.out t (fun he => by
    rcases hS _ _ _ hb he with e | e | e
    · exact hn.1 e
    · exact hn.2.1 e
    · exact hn.2.2 e)
  exact ⟨⟨hb h.ia.blk (by decide), hu h.ia.own, h.ia.most⟩, hu h.os, hu h.od, hb h.hp (by decide), ⟨hb h.rd.blk (by decide), hu h.rd.own, h.rd.le⟩, h.tb.turn t (fun b ty cs k1 k2 => by rcases hS b ty cs k1 k2 with e | e | e <;> subst e <;> exact ⟨by decide, by decide⟩), h.ap, h.cp⟩
/-- What a reading leaves: it stands at t, behind q bits, and tells e0. -/
structure ReadAt (w w' : World) (X : Cx) (st : St) (vs vd : Value) (A : Option Addr) (c p : Nat) (t : St) (q : Nat) (e0 : Int) (vs' vd' : Value) (A' : Option Addr) (c' : Nat) : Prop where
  reach : Reach X.most (bitsOf X.bs) st p t q
  ends : Ends X.most (bitsOf X.bs) t q e0
  ok : SOk X.most t q
  ia : IAt w' X.B X.x (icOf X t vs' vd') t.out A' c'
  os : Own w' X.B 5 .u8 vs' t.ls
  od : Own w' X.B 5 .u8 vd' t.ds
  ap : ∀ b, (Value.slice A' t.out.length c').ownBlock = some b → vs'.ownBlock ≠ some b ∧ vd'.ownBlock ≠ some b
  cp : capV vs' ≤ 288 ∧ capV vd' ≤ 32
  rd : e0 = 0 ∨ e0 = 2 → Rd w' X.B' X.g X.v X.bs (doneP t q)
  turns : TurnsIn (fun b => b = X.g ∨ b = X.x ∨ (Value.slice A st.out.length c).ownBlock = some b) w w'
  new : Newer w (.slice A st.out.length c) (.slice A' t.out.length c') ∧ Newer w vs vs' ∧ Newer w vd vd'
def ReadTo (X : Cx) (st : St) (vs vd : Value) (A : Option Addr) (c p : Nat) (w : World) (e : Ending) (w' : World) : Prop :=
  ∃ t q e0 vs' vd' A' c', e = .returned (.int .i64 (if e0 = 2 then 0 else e0)) ∧ ReadAt w w' X st vs vd A c p t q e0 vs' vd' A' c'
/-- Between two rounds. -/
structure MidR (w w' : World) (X : Cx) (b3 b4 b5 : Nat) (st : St) (vs vd : Value) (A : Option Addr) (c p : Nat) (t : St) (q : Nat) (vs' vd' : Value) (A' : Option Addr) (c' : Nat) (u1 u2 : Value) (bg : Int) : Prop where
  reach : Reach X.most (bitsOf X.bs) st p t q
  ok : SOk X.most t q
  at_ : InAt w' X t vs' vd' A' c' q u1 u2
  r3 : Block w' b3 48 #[.pointer (some ⟨X.g, 0, none⟩)]
  r4 : Block w' b4 24 #[.int .i64 0]
  r5 : Block w' b5 3 #[.int .i64 bg]
  turns : TurnsIn (fun b => b = X.g ∨ b = X.x ∨ (Value.slice A st.out.length c).ownBlock = some b) w w'
  new : Newer w (.slice A st.out.length c) (.slice A' t.out.length c') ∧ Newer w vs vs' ∧ Newer w vd vd'
theorem ty_of {w : World} {X : Cx} {st : St} {vs vd : Value} {A : Option Addr} {c p : Nat} {u1 u2 : Value} (h : InAt w X st vs vd A c p u1 u2) : ∀ b ty cs, Block w b ty cs → (b = X.g ∨ b = X.x ∨ b = X.gp ∨ (Value.slice A st.out.length c).ownBlock = some b) → ty ≠ 48 ∧ ty ≠ 24 ∧ ty ≠ 3 := by
  intro b ty cs h1 h2
  rcases h2 with h2 | h2 | h2 | h2
  · subst h2; have := block_ty h1 h.rd.blk; subst this; decide
  · subst h2; have := block_ty h1 h.ia.blk; subst this; decide
  · subst h2; have := block_ty h1 h.hp; subst this; decide
  · rcases h.ia.own.2 with ⟨e, _⟩ | ⟨g', cap, cur, e, _, hh, _⟩
    · rw [e] at h2; cases h2
    · rw [e] at h2
      have : g' = b := Option.some.inj h2
      subst this
      have := block_ty h1 hh
      subst this
      decide
theorem newer_old {w w1 : World} {v v1 : Value} (h : Newer w v v1) (hs : w.heap.size ≤ w1.heap.size) {b : Nat} (hb : b < w.heap.size) (h1 : v1.ownBlock = some b) : v.ownBlock = some b := by
  rcases h with h | h
  · rw [← h]; exact h1
  · have := h b h1; omega
/-- A round's step: what has turned, seen from the begin. -/
theorem MidR.turn {w w1 w2 : World} {X : Cx} {b3 b4 b5 : Nat} {st : St} {vs vd : Value} {A : Option Addr} {c p : Nat} {t : St} {q : Nat} {vs' vd' : Value} {A' : Option Addr} {c' : Nat} {u1 u2 : Value} {bg : Int} (h : MidR w w1 X b3 b4 b5 st vs vd A c p t q vs' vd' A' c' u1 u2 bg)
    (hgp : w.heap.size ≤ X.gp) (g : TurnsIn (fun b => b = X.g ∨ b = X.x ∨ b = X.gp ∨ (Value.slice A' t.out.length c').ownBlock = some b) w1 w2) : TurnsIn (fun b => b = X.g ∨ b = X.x ∨ (Value.slice A st.out.length c).ownBlock = some b) w w2 :=
  h.turns.then_ g (fun b hb he => by
    rcases he with he | he | he | he
    · exact .inl he
    · exact .inr (.inl he)
    · omega
    · exact .inr (.inr (newer_old h.new.1 h.turns.size hb he)))
theorem MidR.ended {w w1 w2 : World} {X : Cx} {b3 b4 b5 : Nat} {st : St} {vs vd : Value} {A : Option Addr} {c p : Nat} {t : St} {q q2 : Nat} {vs' vd' : Value} {A' : Option Addr} {c' : Nat} {u1 u2 u3 u4 : Value} {bg e0 : Int} (h : MidR w w1 X b3 b4 b5 st vs vd A c p t q vs' vd' A' c' u1 u2 bg) (i : InAt w2 X t vs' vd' A' c' q2 u3 u4)
    (g : TurnsIn (fun b => b = X.g ∨ b = X.x ∨ (Value.slice A st.out.length c).ownBlock = some b) w w2) (he : Ends X.most (bitsOf X.bs) t q e0) (hr : e0 = 0 ∨ e0 = 2 → Rd w2 X.B' X.g X.v X.bs (doneP t q)) : ReadAt w w2 X st vs vd A c p t q e0 vs' vd' A' c' :=
  ⟨h.reach, he, h.ok, i.ia, i.os, i.od, fun b hb => (i.ap b hb).2, i.cp, hr, g, h.new⟩

/-- The place is marked. -/
theorem MidR.mark {w w1 : World} {X : Cx} {b3 b4 b5 : Nat} {st : St} {vs vd : Value} {A : Option Addr} {c p : Nat} {t : St} {q : Nat} {vs' vd' : Value} {A' : Option Addr} {c' : Nat} {u1 u2 : Value} {bg : Int} (h : MidR w w1 X b3 b4 b5 st vs vd A c p t q vs' vd' A' c' u1 u2 bg)
    (h5 : w.heap.size ≤ b5) : MidR w (w1.setCell ⟨b5, 0, none⟩ (.int .i64 (q : Int))) X b3 b4 b5 st vs vd A c p t q vs' vd' A' c' u1 u2 (q : Int) := by
  have tt : TurnsIn (· = b5) w1 (w1.setCell ⟨b5, 0, none⟩ (.int .i64 (q : Int))) := (TurnsIn.refl (· = b5) w1).setCell (p := ⟨b5, 0, none⟩) (.inl rfl) _
  exact ⟨h.reach, h.ok, h.at_.away tt (fun b ty cs k1 k2 => by subst k2; exact .inl (block_ty k1 h.r5)), h.r3.out tt (Block.ne_of h.r3 h.r5 (by decide)), h.r4.out tt (Block.ne_of h.r4 h.r5 (by decide)), h.r5.set_ 0 _, h.turns.then_ tt (fun b hb he => by omega), h.new⟩
/-- The boxes stay. -/
theorem MidR.boxes {w w1 w2 : World} {X : Cx} {b3 b4 b5 : Nat} {st : St} {vs vd : Value} {A : Option Addr} {c p : Nat} {t : St} {q : Nat} {vs' vd' : Value} {A' : Option Addr} {c' : Nat} {u1 u2 : Value} {bg : Int} (h : MidR w w1 X b3 b4 b5 st vs vd A c p t q vs' vd' A' c' u1 u2 bg)
    (g : TurnsIn (fun b => b = X.g ∨ b = X.x ∨ b = X.gp ∨ (Value.slice A' t.out.length c').ownBlock = some b) w1 w2) : Block w2 b3 48 #[.pointer (some ⟨X.g, 0, none⟩)] ∧ Block w2 b4 24 #[.int .i64 0] ∧ Block w2 b5 3 #[.int .i64 bg] := by
  have hty := ty_of h.at_
  exact ⟨h.r3.out g (fun he => (hty _ _ _ h.r3 he).1 rfl), h.r4.out g (fun he => (hty _ _ _ h.r4 he).2.1 rfl), h.r5.out g (fun he => (hty _ _ _ h.r5 he).2.2 rfl)⟩
theorem MidR.next {w w1 w2 : World} {X : Cx} {b3 b4 b5 : Nat} {st : St} {vs vd : Value} {A : Option Addr} {c p : Nat} {t t' : St} {q q' : Nat} {vs' vd' vs2 vd2 : Value} {A' A2 : Option Addr} {c' c2 : Nat} {u1 u2 u3 u4 : Value} {bg : Int} (h : MidR w w1 X b3 b4 b5 st vs vd A c p t q vs' vd' A' c' u1 u2 bg)
    (hgp : w.heap.size ≤ X.gp) (hr : Reach X.most (bitsOf X.bs) t q t' q') (hok : SOk X.most t' q') (i : InAt w2 X t' vs2 vd2 A2 c2 q' u3 u4)
    (g : TurnsIn (fun b => b = X.g ∨ b = X.x ∨ b = X.gp ∨ (Value.slice A' t.out.length c').ownBlock = some b) w1 w2) (n : Newer w1 (.slice A' t.out.length c') (.slice A2 t'.out.length c2) ∧ Newer w1 vs' vs2 ∧ Newer w1 vd' vd2) : MidR w w2 X b3 b4 b5 st vs vd A c p t' q' vs2 vd2 A2 c2 u3 u4 bg := by
  obtain ⟨k3, k4, k5⟩ := h.boxes g
  exact ⟨h.reach.trans hr, hok, i, k3, k4, k5, h.turn hgp g, Newer.trans h.new.1 h.turns.size n.1, Newer.trans h.new.2.1 h.turns.size n.2.1, Newer.trans h.new.2.2 h.turns.size n.2.2⟩
def tookS (t : St) (ys : List Int) (m : Nat) : St := if m = 0 then St.closed { t with left := 0, out := t.out ++ ys } else { t with left := m, out := t.out ++ ys }
theorem tookS_out (t : St) (ys : List Int) (m : Nat) : (tookS t ys m).out = t.out ++ ys := by unfold tookS; split <;> rfl
/-- A copied run, step by step. -/
theorem copy_reach {most : Int} {bs : List Int} (hob : Octets bs) {t : St} {j n : Nat} (h1 : t.ph = 1) (hn : n ≤ t.left) (hj : j + n ≤ bs.length) (h0 : n = 0 → t.left = 0) : Reach most (bitsOf bs) t (8 * j) (tookS t ((bs.drop j).take n) (t.left - n)) (8 * (j + n)) := by
  by_cases hz : n = 0
  · have hl := h0 hz
    subst hz
    unfold tookS
    rw [if_pos (by omega)]
    refine .step .refl (by omega) ?_
    rw [byte_end h1 hl]
    simp only [List.take_zero, List.append_nil, Nat.add_zero]
    rw [← hl]
  · by_cases hlt : n < t.left
    · have := reach_bytes (most := most) hob n (s := t) (j := j) h1 hlt hj
      unfold tookS
      rw [if_neg (by omega)]
      exact this
    · obtain ⟨k, rfl⟩ : ∃ k, n = k + 1 := ⟨n - 1, by omega⟩
      have hr := reach_bytes (most := most) hob k (s := t) (j := j) h1 (by omega) (by omega)
      have hb : numG 8 (bitsOf bs) (8 * (j + k)) = .ok bs[j + k] (8 * (j + (k + 1))) := by
        have hv : val (((bitsOf bs).drop (8 * (j + k))).take 8) = bs[j + k] := by
          rw [← bits_drop, List.drop_eq_getElem_cons (by omega)]
          have e : bitsOf (bs[j + k] :: bs.drop (j + k + 1)) = bitsOf [bs[j + k]] ++ bitsOf (bs.drop (j + k + 1)) := by rw [← bitsOf_append]; rfl
          have hl : (bitsOf [bs[j + k]]).length = 8 := by rw [bitsOf_length]; rfl
          rw [e, List.take_append_of_le_length (by omega), List.take_of_length_le (by omega)]
          have ho1 := hob bs[j + k] (List.getElem_mem _)
          have : bitsOf [bs[j + k]] = num bs[j + k] 8 := by simp [bitsOf]
          rw [this, val_num]
          omega
        unfold numG
        rw [if_pos (by rw [bitsOf_length]; omega), hv, show 8 * (j + k) + 8 = 8 * (j + (k + 1)) by omega]
      have ht : (bs.drop j).take (k + 1) = (bs.drop j).take k ++ [bs[j + k]] := by
        rw [List.take_add_one, List.getElem?_drop, List.getElem?_eq_getElem (by omega)]
        rfl
      refine .step hr (by simp only; omega) ?_
      rw [byte_some (m := 0) (by exact h1) (by show t.left - k = 0 + 1; omega) hb, if_pos rfl]
      unfold tookS
      rw [if_pos (by omega), ht, ← List.append_assoc]
theorem took_less {L : Nat} {t : St} (ys : List Int) {j n : Nat} (h1 : t.ph = 1) (hn : n ≤ t.left) (h0 : n = 0 → t.left = 0) (hl : 8 * (j + n) ≤ L) : todo L (tookS t ys (t.left - n)) (8 * (j + n)) < todo L t (8 * j) := by
  unfold tookS
  by_cases hm : t.left - n = 0
  · rw [if_pos hm]
    unfold todo
    rw [if_pos h1, if_neg (by
      show ¬ (if t.last then (3 : Int) else 0) = 1
      split <;> omega)]
    omega
  · rw [if_neg hm]
    show 2 * (L - 8 * (j + n)) + (if t.ph = 1 then 1 else 0) < 2 * (L - 8 * j) + (if t.ph = 1 then 1 else 0)
    have : n ≠ 0 := fun h => by have := h0 h; omega
    omega
theorem InAt.copied {w w' : World} {X : Cx} {t : St} {vs vd : Value} {A A' : Option Addr} {c c' q q' : Nat} {u1 u2 : Value} {ys : List Int} {m : Nat} (h : InAt w X t vs vd A c q u1 u2) (h1 : t.ph = 1) (tt : TurnsIn (fun b => b = X.g ∨ b = X.x ∨ (Value.slice A t.out.length c).ownBlock = some b) w w') (R : Rd w' X.B' X.g X.v X.bs q')
    (i : IAt w' X.B X.x ((icOf X t vs vd).took m) (t.out ++ ys) A' c') (n : Newer w (.slice A t.out.length c) (.slice A' (t.out ++ ys).length c')) : ∃ vs2 vd2, InAt w' X (tookS t ys m) vs2 vd2 A' c' q' u1 u2 ∧ Newer w vs vs2 ∧ Newer w vd vd2 := by
  have hty : ∀ b ty cs, Block w b ty cs → (b = X.g ∨ b = X.x ∨ (Value.slice A t.out.length c).ownBlock = some b) → ty = 68 ∨ ty = 40 ∨ ty = 5 := by
    intro b ty cs k1 k2
    rcases k2 with k2 | k2 | k2
    · subst k2; exact .inl (block_ty k1 h.rd.blk)
    · subst k2; exact .inr (.inl (block_ty k1 h.ia.blk))
    · rcases h.ia.own.2 with ⟨e, _⟩ | ⟨g', cap, cur, e, _, hh, _⟩
      · rw [e] at k2; cases k2
      · rw [e] at k2
        have : g' = b := Option.some.inj k2
        subst this
        exact .inr (.inr (block_ty k1 hh))
  have hp' := h.hp.out tt (fun he => by rcases hty _ _ _ h.hp he with e | e | e <;> exact absurd e (by decide))
  have keep : ∀ {B1 : Nat} {o : Value} {xs : List Int}, Own w B1 5 .u8 o xs → (∀ b, (Value.slice A t.out.length c).ownBlock = some b → o.ownBlock ≠ some b) → Own w' B1 5 .u8 o xs := fun ho hne => ho.out tt (fun b hb he => by
    rcases he with he | he | he
    · exact ho.ne_block h.rd.blk (by decide) (by rw [hb, he])
    · exact ho.ne_block h.ia.blk (by decide) (by rw [hb, he])
    · exact hne b he hb)
  have apart : ∀ {o : Value} {B1 : Nat} {xs : List Int}, Own w B1 5 .u8 o xs → (∀ b, (Value.slice A t.out.length c).ownBlock = some b → o.ownBlock ≠ some b) → ∀ b, (Value.slice A' (t.out ++ ys).length c').ownBlock = some b → o.ownBlock ≠ some b := by
    intro o B1 xs ho hne b hb hob
    rcases n with n | n
    · rw [n] at hb
      exact hne b hb hob
    · have := n b hb
      have := (ho.lt b hob).2
      omega
  unfold tookS
  unfold Ic.took at i
  by_cases hm : m = 0
  · rw [if_pos hm] at i ⊢
    refine ⟨.slice none 0 0, .slice none 0 0, ⟨i, Own.nil _ _ _ _, Own.nil _ _ _ _, hp', R, fun e => ?_, fun b hb => ⟨apart h.rd.own (fun b hb => (h.ap b hb).1) b hb, by simp [Value.ownBlock], by simp [Value.ownBlock]⟩, by simp [capV]⟩, .inr (fun g hg => by simp [Value.ownBlock] at hg), .inr (fun g hg => by simp [Value.ownBlock] at hg)⟩
    have : (if t.last then (3 : Int) else 0) = 2 := e
    split at this <;> omega
  · rw [if_neg hm] at i ⊢
    exact ⟨vs, vd, ⟨i, keep h.os (fun b hb => (h.ap b hb).2.1), keep h.od (fun b hb => (h.ap b hb).2.2), hp', R, fun e => absurd (show t.ph = 2 from e) (by omega), fun b hb => ⟨apart h.rd.own (fun b hb => (h.ap b hb).1) b hb, apart h.os (fun b hb => (h.ap b hb).2.1) b hb, apart h.od (fun b hb => (h.ap b hb).2.2) b hb⟩, h.cp⟩, Newer.refl _ _, Newer.refl _ _⟩

set_option maxRecDepth 100000 in
set_option maxHeartbeats 12800000 in
theorem read_any (X : Cx) (st : St) (vs vd : Value) (A : Option Addr) (c p : Nat) (w : World) (hgp : X.gp = w.heap.size + 1 + 1 + 1) (ia : IAt w X.B X.x (icOf X st vs vd) st.out A c) (os : Own w X.B 5 .u8 vs st.ls) (od : Own w X.B 5 .u8 vd st.ds) (rd : Rd w X.B' X.g X.v X.bs p)
    (ap : ∀ b, (Value.slice A st.out.length c).ownBlock = some b → X.v.ownBlock ≠ some b ∧ vs.ownBlock ≠ some b ∧ vd.ownBlock ≠ some b) (hcp : capV vs ≤ 288 ∧ capV vd ≤ 32) (hs : SOk X.most st p) (hob : Octets X.bs) (hbl : X.bs.length ≤ 1000000) (hB : X.B ≤ w.heap.size) (hm : X.most ≤ 1000000) (hL : Laid 0 turnsL w) (hGB : 0 < X.B) :
    Calls Tryd.prog 21 #[.pointer (some ⟨X.x, 0, none⟩), .pointer (some ⟨X.g, 0, none⟩)] w (ReadTo X st vs vd A c p w) := by
  obtain ⟨N, hN⟩ : ∃ N, todo (bitsOf X.bs).length st p + 1 = N := ⟨_, rfl⟩
  obtain ⟨w1, hw1⟩ : ∃ w1, (((w.alloc (.cells #[.pointer (some ⟨X.g, 0, none⟩)] 48)).alloc (.cells #[.int .i64 0] 24)).alloc (.cells #[.int .i64 (p : Int)] 3)).alloc (.cells #[.pointer (some ⟨X.g, 0, none⟩), .pointer none, .pointer none] 76) = w1 := ⟨_, rfl⟩
  have t1 : Below w.heap.size w w1 := by
    rw [← hw1]
    exact ((((Below.refl _ w).alloc (Nat.le_refl _) _).alloc (by simp) _).alloc (by simp; omega) _).alloc (by simp; omega) _
  have k3 : Block w1 w.heap.size 48 #[.pointer (some ⟨X.g, 0, none⟩)] := by rw [← hw1]; exact (((Block.new w _ _).alloc _).alloc _).alloc _
  have k4 : Block w1 (w.heap.size + 1) 24 #[.int .i64 0] := by
    rw [← hw1]
    have := Block.new (w.alloc (.cells #[.pointer (some ⟨X.g, 0, none⟩)] 48)) 24 #[.int .i64 0]
    rw [World.size_alloc] at this
    exact (this.alloc _).alloc _
  have k5 : Block w1 (w.heap.size + 1 + 1) 3 #[.int .i64 (p : Int)] := by
    rw [← hw1]
    have := Block.new ((w.alloc (.cells #[.pointer (some ⟨X.g, 0, none⟩)] 48)).alloc (.cells #[.int .i64 0] 24)) 3 #[.int .i64 (p : Int)]
    rw [World.size_alloc, World.size_alloc] at this
    exact this.alloc _
  have kp : Block w1 X.gp 76 #[.pointer (some ⟨X.g, 0, none⟩), .pointer none, .pointer none] := by
    rw [← hw1, hgp]
    have := Block.new (((w.alloc (.cells #[.pointer (some ⟨X.g, 0, none⟩)] 48)).alloc (.cells #[.int .i64 0] 24)).alloc (.cells #[.int .i64 (p : Int)] 3)) 76 #[.pointer (some ⟨X.g, 0, none⟩), .pointer none, .pointer none]
    rw [World.size_alloc, World.size_alloc, World.size_alloc] at this
    exact this
  have i1 : InAt w1 X st vs vd A c p (.pointer none) (.pointer none) := ⟨ia.far (TurnsIn.ofNew (S := fun _ => False) t1) (fun h => h) (fun _ _ h => h), os.below t1, od.below t1, kp, rd.below t1, fun _ => .inl rfl, ap, hcp⟩
  have m1 : MidR w w1 X w.heap.size (w.heap.size + 1) (w.heap.size + 1 + 1) st vs vd A c p st p vs vd A c (.pointer none) (.pointer none) (p : Int) :=
    ⟨.refl, hs, i1, k3, k4, k5, TurnsIn.ofNew t1, Newer.refl _ _, Newer.refl _ _, Newer.refl _ _⟩
  have GAT := Lib.hid (fun W (R : Rd W X.B' X.g X.v X.bs p) => at_any X.B' X.g X.v X.bs p W R)
  have hmf : ∀ (fn : Fn) (first cap : Array Value) (w : World), (Instr.makeFunc fn first cap).run Tryd.prog w = .ok (.func fn first cap) w := fun _ _ _ _ => rfl
  have HW1 := Lib.hid hw1
  have M1 := Lib.hid m1
  have HRD := Lib.hid rd
  have HL0 := Lib.hid hL
  have HGL := Lib.hid (laid_ne hL (by decide) rd)
  have HGLX := Lib.hid (show ¬ 0 = X.x from laid_box hL ia.blk (by intro h; simp [Ic.cells] at h))
  have HGLO := Lib.hid (show ∀ b, (Value.slice A st.out.length c).ownBlock = some b → ¬ 0 = b from fun b hb e => by
    have h1 := (ia.own.lt b hb).1
    rw [← e] at h1
    omega)
  have HGP := Lib.hid hgp
  have HSS := Lib.hid hs
  have hwg : w.heap.size ≤ X.gp := by omega
  have HB := Lib.hid (bitsOf_bit X.bs)
  have HN := Lib.hid hN
  clear t1 k3 k4 k5 kp i1 m1 hw1 ia os od rd ap hs hL hN hgp
  go_enter_defers Tryd.func21, Tryd.ntmps21
  go_upto_region 4 with (first | (go_at_call 22; refine (GAT.out _ ((HRD.out.below (((Below.refl _ w).alloc (Nat.le_refl _) _).alloc (by simp) _)))).mono ?_; rintro e w2 ⟨rfl, hw2⟩; subst hw2))
  rw [HW1.out, ← HGP.out]
  go_loopg [] N (fun k wr => ∃ (t : St) (q : Nat) (vs' vd' : Value) (A' : Option Addr) (c' : Nat) (u1 u2 : Value) (bg : Int), MidR w wr X w.heap.size (w.heap.size + 1) (w.heap.size + 1 + 1) st vs vd A c p t q vs' vd' A' c' u1 u2 bg ∧ todo (bitsOf X.bs).length t q < k)
  case atStart => exact ⟨st, p, vs, vd, A, c, _, _, _, M1.out, by rw [← HN.out]; exact Nat.lt_succ_self _⟩
  case round =>
    obtain ⟨t, q, vs', vd', A', c', u1, u2, bg, M, hk⟩ := hrel
    have x4 : wr.cell? ⟨X.x, 4, none⟩ = some (.int .u8 t.ph) := M.at_.ia.blk.cell 4
    have y3 : wr.cell? ⟨w.heap.size, 0, none⟩ = some (.pointer (some ⟨X.g, 0, none⟩)) := (M.r3.cell 0).trans rfl
    have y5 : wr.cell? ⟨w.heap.size + 1 + 1, 0, none⟩ = some (.int .i64 bg) := (M.r5.cell 0).trans rfl
    have f5 := M.r5.frozen 0
    have GA := Lib.hid (at_any X.B' X.g X.v X.bs q wr M.at_.rd)
    have m5 := M.mark (by omega)
    have x45 : (wr.setCell ⟨w.heap.size + 1 + 1, 0, none⟩ (.int .i64 (q : Int))).cell? ⟨X.x, 4, none⟩ = some (.int .u8 t.ph) := m5.at_.ia.blk.cell 4
    have MH := Lib.hid M
    have M5 := Lib.hid m5
    have hB5 : X.B ≤ (wr.setCell ⟨w.heap.size + 1 + 1, 0, none⟩ (.int .i64 (q : Int))).heap.size := Nat.le_trans hB m5.turns.size
    have HL5 := Lib.hid (laid_far HL0.out (by decide) m5.turns (fun he => by
      rcases he with he | he | he
      · exact HGL.out he
      · exact HGLX.out he
      · exact HGLO.out _ he rfl))
    have HB5 := Lib.hid hB5
    have hq := M.reach.ok (bitsOf_bit X.bs) (bits8 X.bs) (by rw [bitsOf_length]; exact HRD.out.le) HSS.out
    have HQL := Lib.hid hq.2.2.2.1
    clear M m5 hB5 hq
    rcases MH.out.ok.ph with hph | hph | hph | hph
    · have H3 := Lib.hid (show t.ph ≠ 3 by omega)
      have HPH := Lib.hid hph
      rw [hph] at x4 x45
      have GO := Lib.hid (open_any X t vs' vd' A' c' q u1 u2 _ M5.out.at_ M5.out.ok hph hob hbl HB5.out hm HL5.out)
      rw [← step0 hph] at GO
      obtain ⟨z, hz⟩ : ∃ z, stepG X.most t (bitsOf X.bs) q = z := ⟨_, rfl⟩
      rw [hz] at GO
      have HZ := Lib.hid hz
      unfold StepTo at GO
      clear hz hph
      cases z with
      | miss =>
        have HE : Hid (Ends X.most (bitsOf X.bs) t q 2) := Lib.hid (.inr ⟨H3.out, .inl ⟨HZ.out, rfl⟩⟩)
        unfold missingE at GO
        go_wp2_with (first | (go_at_call 22; refine GA.out.mono ?_; rintro e w2 ⟨rfl, hw2⟩; subst hw2))
        refine GO.out.mono ?_
        rintro e w6 ⟨t6, rfl, q6, x1, x2, i6⟩
        obtain ⟨k3, k4, k5⟩ := M5.out.boxes t6
        have T6 := Lib.hid (M5.out.turn hwg t6)
        have I6 := Lib.hid i6
        have K6 := Lib.hid (And.intro k3 (And.intro k4 k5))
        clear t6 i6 k3 k4 k5 GO
        go_wp2_with fail
        refine leaves_cons (f := 30) (args := #[.pointer (some ⟨w.heap.size, 0, none⟩), .pointer (some ⟨w.heap.size + 1 + 1, 0, none⟩), .pointer (some ⟨w.heap.size + 1, 0, none⟩)]) (by simp) (by simp [go_sem]) ?_
        refine (catchR_missing w.heap.size (w.heap.size + 1 + 1) (w.heap.size + 1) X.B' X.g q q6 X.v X.bs [] w6 K6.out.1 K6.out.2.2 I6.out.rd hbl (by rw [← bitsOf_length]; exact HQL.out)).mono ?_
        rintro e u' w9 ⟨rfl, rfl, R9, t9⟩
        have k9 := K6.out.2.1.out t9 (Block.ne_of K6.out.2.1 I6.out.rd.blk (by decide))
        have c0 : w9.cell? ⟨w.heap.size + 1, 0, none⟩ = some (.int .i64 0) := (k9.cell 0).trans rfl
        exact ⟨.int .i64 0, by simp [results, Tryd.results21, go_sem, c0], t, q, 2, vs', vd', A', c', rfl, M5.out.ended (I6.out.read t9 R9) (T6.out.then_ t9 (fun b _ he => .inl he)) HE.out (fun _ => by unfold doneP; rw [if_neg H3.out]; exact R9)⟩
      | bad why =>
        have HE : Hid (Ends X.most (bitsOf X.bs) t q why) := Lib.hid (.inr ⟨H3.out, .inr HZ.out⟩)
        have hwhy := (fine_step X.most t).errs _ _ _ HZ.out
        unfold brokenE at GO
        go_wp2_with (first | (go_at_call 22; refine GA.out.mono ?_; rintro e w2 ⟨rfl, hw2⟩; subst hw2))
        refine GO.out.mono ?_
        rintro e w6 ⟨t6, rfl, q6, x1, x2, i6⟩
        obtain ⟨k3, k4, k5⟩ := M5.out.boxes t6
        have T6 := Lib.hid (M5.out.turn hwg t6)
        have I6 := Lib.hid i6
        have K6 := Lib.hid (And.intro k3 (And.intro k4 k5))
        clear t6 i6 k3 k4 k5 GO
        go_wp2_with fail
        refine leaves_cons (f := 30) (args := #[.pointer (some ⟨w.heap.size, 0, none⟩), .pointer (some ⟨w.heap.size + 1 + 1, 0, none⟩), .pointer (some ⟨w.heap.size + 1, 0, none⟩)]) (by simp) (by simp [go_sem]) ?_
        refine (catchR_broken w.heap.size (w.heap.size + 1 + 1) (w.heap.size + 1) why (.int .i64 0) [] w6 K6.out.2.1).mono ?_
        rintro e u' w9 ⟨rfl, rfl, k9, t9⟩
        have c0 : w9.cell? ⟨w.heap.size + 1, 0, none⟩ = some (.int .i64 why) := (k9.cell 0).trans rfl
        have i9 := I6.out.away t9 (fun b ty cs k1 k2 => by subst k2; exact .inr (.inl (block_ty k1 K6.out.2.1)))
        exact ⟨.int .i64 why, by simp [results, Tryd.results21, go_sem, c0], t, q, why, vs', vd', A', c', by rw [if_neg (by omega)], M5.out.ended i9 (T6.out.then_ t9 (fun b hb he => by omega)) HE.out (fun he => by exfalso; omega)⟩
      | ok t' q' =>
        go_wp2_with (first | (go_at_call 22; refine GA.out.mono ?_; rintro e w2 ⟨rfl, hw2⟩; subst hw2))
        refine GO.out.mono ?_
        rintro e w6 ⟨t6, rfl, vs2, vd2, A2, c2, x1, x2, i6, n6⟩
        have st6 := step_ok HB.out (bits8 X.bs) HQL.out M5.out.ok H3.out HZ.out
        have M6 := Lib.hid (M5.out.next hwg (.step .refl H3.out HZ.out) st6.ok i6 t6 n6)
        have hless := st6.less
        clear t6 i6 n6 GO st6
        go_wp2_with fail
        go_roundg (todo (bitsOf X.bs).length t' q' + 1)
        case measure => omega
        case rel => exact ⟨t', q', vs2, vd2, A2, c2, x1, x2, _, M6.out, Nat.lt_succ_self _⟩
    · have H3 := Lib.hid (show t.ph ≠ 3 by omega)
      have HPH := Lib.hid hph
      rw [hph] at x4 x45
      have hl := M5.out.ok.left hph
      obtain ⟨j, hj⟩ : ∃ j, q = 8 * j := ⟨q / 8, by omega⟩
      have hjl : j ≤ X.bs.length := by have := HQL.out; rw [bitsOf_length] at this; omega
      have HJ := Lib.hid hj
      have R5 : ∀ k, q = k → Rd (wr.setCell ⟨w.heap.size + 1 + 1, 0, none⟩ (.int .i64 (q : Int))) X.B' X.g X.v X.bs k := fun k hk => by rw [← hk]; exact M5.out.at_.rd
      have hva : ∀ b, X.v.ownBlock = some b → (Value.slice A' t.out.length c').ownBlock ≠ some b := fun b hb he => (M5.out.at_.ap b he).1 hb
      by_cases h0 : j = X.bs.length ∧ 0 < t.left
      · have GO := Lib.hid (copy_none X.B X.B' X.x X.gp X.g (icOf X t vs' vd') t.out A' c' X.v u1 u2 X.bs j t.left _ M5.out.at_.ia M5.out.at_.hp (R5 _ hj) hbl rfl h0.1 h0.2 hl.2.1)
        have HZ := Lib.hid (show stepG X.most t (bitsOf X.bs) q = .miss by
          rw [step1 hph]
          unfold byteG
          rw [if_neg (by omega)]
          exact bindG_miss _ (numG_no (by rw [bitsOf_length]; omega)))
        have HE : Hid (Ends X.most (bitsOf X.bs) t q 2) := Lib.hid (.inr ⟨H3.out, .inl ⟨HZ.out, rfl⟩⟩)
        unfold missingE at GO
        clear hph hl hj hjl R5 hva h0
        go_wp2_with (first | (go_at_call 22; refine GA.out.mono ?_; rintro e w2 ⟨rfl, hw2⟩; subst hw2))
        refine GO.out.mono ?_
        rintro e w6 ⟨t6q, rfl⟩
        have t6 := t6q.mono (T := fun b => b = X.g ∨ b = X.x ∨ b = X.gp ∨ (Value.slice A' t.out.length c').ownBlock = some b) (fun _ _ h => h.elim)
        obtain ⟨k3, k4, k5⟩ := M5.out.boxes t6
        have T6 := Lib.hid (M5.out.turn hwg t6)
        obtain ⟨q6, hq6⟩ : ∃ q6, q6 = q := ⟨q, rfl⟩
        have I6 : Hid (InAt w6 X t vs' vd' A' c' q6 u1 u2) := Lib.hid (by rw [hq6]; exact M5.out.at_.quiet t6q)
        have K6 := Lib.hid (And.intro k3 (And.intro k4 k5))
        clear t6q t6 k3 k4 k5 GO hq6
        go_wp2_with fail
        refine leaves_cons (f := 30) (args := #[.pointer (some ⟨w.heap.size, 0, none⟩), .pointer (some ⟨w.heap.size + 1 + 1, 0, none⟩), .pointer (some ⟨w.heap.size + 1, 0, none⟩)]) (by simp) (by simp [go_sem]) ?_
        refine (catchR_missing w.heap.size (w.heap.size + 1 + 1) (w.heap.size + 1) X.B' X.g q q6 X.v X.bs [] w6 K6.out.1 K6.out.2.2 I6.out.rd hbl (by rw [← bitsOf_length]; exact HQL.out)).mono ?_
        rintro e u' w9 ⟨rfl, rfl, R9, t9⟩
        have k9 := K6.out.2.1.out t9 (Block.ne_of K6.out.2.1 I6.out.rd.blk (by decide))
        have c0 : w9.cell? ⟨w.heap.size + 1, 0, none⟩ = some (.int .i64 0) := (k9.cell 0).trans rfl
        exact ⟨.int .i64 0, by simp [results, Tryd.results21, go_sem, c0], t, q, 2, vs', vd', A', c', rfl, M5.out.ended (I6.out.read t9 R9) (T6.out.then_ t9 (fun b _ he => .inl he)) HE.out (fun _ => by unfold doneP; rw [if_neg H3.out]; exact R9)⟩
      · obtain ⟨n, hn⟩ : ∃ n, (if X.bs.length - j < t.left then X.bs.length - j else t.left) = n := ⟨_, rfl⟩
        have hn1 : n ≤ t.left ∧ j + n ≤ X.bs.length ∧ (n = 0 → t.left = 0) := by split at hn <;> omega
        have GO := Lib.hid (copy_some X.B X.B' X.x X.gp X.g (icOf X t vs' vd') t.out A' c' X.v u1 u2 X.bs j t.left n _ HB5.out M5.out.at_.ia M5.out.at_.hp (R5 _ hj) hva hbl rfl hn.symm hn1.2.2 hl.2.1 hl.1)
        unfold CopyTo at GO
        have HR := Lib.hid (copy_reach (most := X.most) hob hph hn1.1 hn1.2.1 hn1.2.2)
        have HPH1 := Lib.hid hph
        have HN1 := Lib.hid hn1
        clear hph hl hjl R5 hva h0 hn hn1 hj
        go_wp2_with (first | (go_at_call 22; refine GA.out.mono ?_; rintro e w2 ⟨rfl, hw2⟩; subst hw2))
        refine GO.out.mono ?_
        rintro e w6 ⟨rfl, t6, R6, A2, c2, i6, n6⟩
        obtain ⟨vs2, vd2, I6, n7, n8⟩ := M5.out.at_.copied HPH1.out t6 R6 i6 n6
        have hrr := HR.out
        rw [← HJ.out] at hrr
        have hok := hrr.ok HB.out (bits8 X.bs) HQL.out M5.out.ok
        have t6' := t6.mono (T := fun b => b = X.g ∨ b = X.x ∨ b = X.gp ∨ (Value.slice A' t.out.length c').ownBlock = some b) (fun b _ h => by
          rcases h with h | h | h
          · exact .inl h
          · exact .inr (.inl h)
          · exact .inr (.inr (.inr h)))
        have M6 := Lib.hid (M5.out.next hwg hrr hok.1 I6 t6' ⟨by rw [tookS_out]; exact n6, n7, n8⟩)
        have hlt : todo (bitsOf X.bs).length (tookS t ((X.bs.drop j).take n) (t.left - n)) (8 * (j + n)) < todo (bitsOf X.bs).length t q := by
          rw [HJ.out]
          exact took_less _ HPH1.out HN1.out.1 HN1.out.2.2 (by rw [bitsOf_length]; have := HN1.out.2.1; omega)
        clear t6 t6' R6 i6 n6 I6 n7 n8 GO hok hrr
        go_wp2_with fail
        go_roundg (todo (bitsOf X.bs).length (tookS t ((X.bs.drop j).take n) (t.left - n)) (8 * (j + n)) + 1)
        case measure => omega
        case rel => exact ⟨_, _, vs2, vd2, A2, c2, u1, u2, _, M6.out, Nat.lt_succ_self _⟩
    · have H3 := Lib.hid (show t.ph ≠ 3 by omega)
      have HPH := Lib.hid hph
      rw [hph] at x4 x45
      have GO := Lib.hid (step_any X t vs' vd' A' c' q u1 u2 _ M5.out.at_ M5.out.ok hph hob hbl HB5.out hm)
      rw [← step2 hph] at GO
      obtain ⟨z, hz⟩ : ∃ z, stepG X.most t (bitsOf X.bs) q = z := ⟨_, rfl⟩
      rw [hz] at GO
      have HZ := Lib.hid hz
      unfold StepTo at GO
      clear hz hph
      cases z with
      | miss =>
        have HE : Hid (Ends X.most (bitsOf X.bs) t q 2) := Lib.hid (.inr ⟨H3.out, .inl ⟨HZ.out, rfl⟩⟩)
        unfold missingE at GO
        go_wp2_with (first | (go_at_call 22; refine GA.out.mono ?_; rintro e w2 ⟨rfl, hw2⟩; subst hw2))
        refine GO.out.mono ?_
        rintro e w6 ⟨t6, rfl, q6, x1, x2, i6⟩
        obtain ⟨k3, k4, k5⟩ := M5.out.boxes t6
        have T6 := Lib.hid (M5.out.turn hwg t6)
        have I6 := Lib.hid i6
        have K6 := Lib.hid (And.intro k3 (And.intro k4 k5))
        clear t6 i6 k3 k4 k5 GO
        go_wp2_with fail
        refine leaves_cons (f := 30) (args := #[.pointer (some ⟨w.heap.size, 0, none⟩), .pointer (some ⟨w.heap.size + 1 + 1, 0, none⟩), .pointer (some ⟨w.heap.size + 1, 0, none⟩)]) (by simp) (by simp [go_sem]) ?_
        refine (catchR_missing w.heap.size (w.heap.size + 1 + 1) (w.heap.size + 1) X.B' X.g q q6 X.v X.bs [] w6 K6.out.1 K6.out.2.2 I6.out.rd hbl (by rw [← bitsOf_length]; exact HQL.out)).mono ?_
        rintro e u' w9 ⟨rfl, rfl, R9, t9⟩
        have k9 := K6.out.2.1.out t9 (Block.ne_of K6.out.2.1 I6.out.rd.blk (by decide))
        have c0 : w9.cell? ⟨w.heap.size + 1, 0, none⟩ = some (.int .i64 0) := (k9.cell 0).trans rfl
        exact ⟨.int .i64 0, by simp [results, Tryd.results21, go_sem, c0], t, q, 2, vs', vd', A', c', rfl, M5.out.ended (I6.out.read t9 R9) (T6.out.then_ t9 (fun b _ he => .inl he)) HE.out (fun _ => by unfold doneP; rw [if_neg H3.out]; exact R9)⟩
      | bad why =>
        have HE : Hid (Ends X.most (bitsOf X.bs) t q why) := Lib.hid (.inr ⟨H3.out, .inr HZ.out⟩)
        have hwhy := (fine_step X.most t).errs _ _ _ HZ.out
        unfold brokenE at GO
        go_wp2_with (first | (go_at_call 22; refine GA.out.mono ?_; rintro e w2 ⟨rfl, hw2⟩; subst hw2))
        refine GO.out.mono ?_
        rintro e w6 ⟨t6, rfl, q6, x1, x2, i6⟩
        obtain ⟨k3, k4, k5⟩ := M5.out.boxes t6
        have T6 := Lib.hid (M5.out.turn hwg t6)
        have I6 := Lib.hid i6
        have K6 := Lib.hid (And.intro k3 (And.intro k4 k5))
        clear t6 i6 k3 k4 k5 GO
        go_wp2_with fail
        refine leaves_cons (f := 30) (args := #[.pointer (some ⟨w.heap.size, 0, none⟩), .pointer (some ⟨w.heap.size + 1 + 1, 0, none⟩), .pointer (some ⟨w.heap.size + 1, 0, none⟩)]) (by simp) (by simp [go_sem]) ?_
        refine (catchR_broken w.heap.size (w.heap.size + 1 + 1) (w.heap.size + 1) why (.int .i64 0) [] w6 K6.out.2.1).mono ?_
        rintro e u' w9 ⟨rfl, rfl, k9, t9⟩
        have c0 : w9.cell? ⟨w.heap.size + 1, 0, none⟩ = some (.int .i64 why) := (k9.cell 0).trans rfl
        have i9 := I6.out.away t9 (fun b ty cs k1 k2 => by subst k2; exact .inr (.inl (block_ty k1 K6.out.2.1)))
        exact ⟨.int .i64 why, by simp [results, Tryd.results21, go_sem, c0], t, q, why, vs', vd', A', c', by rw [if_neg (by omega)], M5.out.ended i9 (T6.out.then_ t9 (fun b hb he => by omega)) HE.out (fun he => by exfalso; omega)⟩
      | ok t' q' =>
        go_wp2_with (first | (go_at_call 22; refine GA.out.mono ?_; rintro e w2 ⟨rfl, hw2⟩; subst hw2))
        refine GO.out.mono ?_
        rintro e w6 ⟨t6, rfl, vs2, vd2, A2, c2, x1, x2, i6, n6⟩
        have st6 := step_ok HB.out (bits8 X.bs) HQL.out M5.out.ok H3.out HZ.out
        have M6 := Lib.hid (M5.out.next hwg (.step .refl H3.out HZ.out) st6.ok i6 t6 n6)
        have hless := st6.less
        clear t6 i6 n6 GO st6
        go_wp2_with fail
        go_roundg (todo (bitsOf X.bs).length t' q' + 1)
        case measure => omega
        case rel => exact ⟨t', q', vs2, vd2, A2, c2, x1, x2, _, M6.out, Nat.lt_succ_self _⟩
    · have HPH := Lib.hid hph
      rw [hph] at x4 x45
      have GL := Lib.hid (ralign_any X.B' X.g X.v X.bs q wr MH.out.at_.rd hbl)
      have GN := Lib.hid (fun W => refuse_no 3 W)
      have GY := Lib.hid (fun W => refuse_yes 3 W)
      unfold brokenE at GY
      clear hph x45 y5 f5
      go_wp2_with fail
      refine GL.out.mono ?_
      rintro e w2 ⟨rfl, R2, t2⟩
      have I2 := Lib.hid (MH.out.at_.read t2 R2)
      have k3 := MH.out.r3.out t2 (Block.ne_of MH.out.r3 MH.out.at_.rd.blk (by decide))
      have k4 := MH.out.r4.out t2 (Block.ne_of MH.out.r4 MH.out.at_.rd.blk (by decide))
      have k5 := MH.out.r5.out t2 (Block.ne_of MH.out.r5 MH.out.at_.rd.blk (by decide))
      have T2 := Lib.hid (MH.out.turns.then_ t2 (fun b _ he => .inl he))
      have y3' : w2.cell? ⟨w.heap.size, 0, none⟩ = some (.pointer (some ⟨X.g, 0, none⟩)) := (k3.cell 0).trans rfl
      have K2 := Lib.hid (And.intro k3 (And.intro k4 k5))
      obtain ⟨q2, hq2⟩ : ∃ q2, (q + 7) / 8 * 8 = q2 := ⟨_, rfl⟩
      rw [hq2] at R2 I2
      have hq2l : q2 ≤ 8 * X.bs.length := R2.le
      have GLE := Lib.hid (left_any X.B' X.g X.v X.bs q2 w2 R2 hbl)
      have HQ2 := Lib.hid hq2
      clear R2 t2 GL k3 k4 k5 hq2 y3
      by_cases hlt : q2 < 8 * X.bs.length
      · have d1 : decide ((0 : Int) < 8 * (X.bs.length : Int) - (q2 : Int)) = true := decide_eq_true (by omega)
        have d2 : decide ((q2 : Int) < 8 * (X.bs.length : Int)) = true := decide_eq_true (by omega)
        have HE : Hid (Ends X.most (bitsOf X.bs) t q 3) := Lib.hid (.inl ⟨HPH.out, by rw [HQ2.out, bitsOf_length, if_pos hlt]⟩)
        clear hlt
        go_wp2_with fail
        refine GLE.out.mono ?_
        rintro e w3 ⟨rfl, b3⟩
        have I6 := Lib.hid (I2.out.below b3)
        have T6 := Lib.hid (T2.out.then_ (TurnsIn.ofNew (S := fun _ => False) b3) (fun _ _ h => h.elim))
        have K6 := Lib.hid (And.intro (K2.out.1.below b3 K2.out.1.lt) (And.intro (K2.out.2.1.below b3 K2.out.2.1.lt) (K2.out.2.2.below b3 K2.out.2.2.lt)))
        clear b3 GLE
        go_wp2_with fail
        refine (GY.out _).mono ?_
        rintro e w6 ⟨rfl, hw6⟩
        subst hw6
        go_wp2_with fail
        refine leaves_cons (f := 30) (args := #[.pointer (some ⟨w.heap.size, 0, none⟩), .pointer (some ⟨w.heap.size + 1 + 1, 0, none⟩), .pointer (some ⟨w.heap.size + 1, 0, none⟩)]) (by simp) (by simp [go_sem]) ?_
        refine (catchR_broken w.heap.size (w.heap.size + 1 + 1) (w.heap.size + 1) 3 (.int .i64 0) [] w6 K6.out.2.1).mono ?_
        rintro e u' w9 ⟨rfl, rfl, k9, t9⟩
        have c0 : w9.cell? ⟨w.heap.size + 1, 0, none⟩ = some (.int .i64 3) := (k9.cell 0).trans rfl
        have i9 := I6.out.away t9 (fun b ty cs k1 k2 => by subst k2; exact .inr (.inl (block_ty k1 K6.out.2.1)))
        exact ⟨.int .i64 3, by simp [results, Tryd.results21, go_sem, c0], t, q, 3, vs', vd', A', c', by rw [if_neg (by omega)], MH.out.ended i9 (T6.out.then_ t9 (fun b hb he => by omega)) HE.out (fun he => by exfalso; omega)⟩
      · have d1 : decide ((0 : Int) < 8 * (X.bs.length : Int) - (q2 : Int)) = false := decide_eq_false (by omega)
        have d2 : decide ((q2 : Int) < 8 * (X.bs.length : Int)) = false := decide_eq_false (by omega)
        have HE : Hid (Ends X.most (bitsOf X.bs) t q 0) := Lib.hid (.inl ⟨HPH.out, by rw [HQ2.out, bitsOf_length, if_neg hlt]⟩)
        clear hlt
        go_wp2_with fail
        refine GLE.out.mono ?_
        rintro e w3 ⟨rfl, b3⟩
        have I6 := Lib.hid (I2.out.below b3)
        have T6 := Lib.hid (T2.out.then_ (TurnsIn.ofNew (S := fun _ => False) b3) (fun _ _ h => h.elim))
        have k4 := K2.out.2.1.below b3 K2.out.2.1.lt
        have y4 : w3.cell? ⟨w.heap.size + 1, 0, none⟩ = some (.int .i64 0) := (k4.cell 0).trans rfl
        have f4 := k4.frozen 0
        have K4 := Lib.hid k4
        clear b3 GLE k4
        go_wp2_with fail
        refine (GN.out _).mono ?_
        rintro e w6 ⟨rfl, hw6⟩
        have hw6' := hw6.symm
        clear hw6
        subst hw6'
        go_wp2_with fail
        refine leaves_cons (f := 30) (args := #[.pointer (some ⟨w.heap.size, 0, none⟩), .pointer (some ⟨w.heap.size + 1 + 1, 0, none⟩), .pointer (some ⟨w.heap.size + 1, 0, none⟩)]) (by simp) (by simp [go_sem]) ?_
        refine (catchR_idle w.heap.size (w.heap.size + 1 + 1) (w.heap.size + 1) _).mono ?_
        rintro e u' w9 ⟨rfl, rfl, hw9⟩
        subst hw9
        have k9 := K4.out.set_ 0 (.int .i64 0)
        have c0 := (k9.cell 0).trans (show _ = some (Value.int .i64 0) from rfl)
        have t9 : TurnsIn (· = w.heap.size + 1) w3 (w3.setCell ⟨w.heap.size + 1, 0, none⟩ (.int .i64 0)) := (TurnsIn.refl (· = w.heap.size + 1) w3).setCell (p := ⟨w.heap.size + 1, 0, none⟩) (.inl rfl) _
        have i9 := I6.out.away t9 (fun b ty cs k1 k2 => by subst k2; exact .inr (.inl (block_ty k1 K4.out)))
        exact ⟨.int .i64 0, by simp [results, Tryd.results21, go_sem, c0], t, q, 0, vs', vd', A', c', rfl, MH.out.ended i9 (T6.out.then_ t9 (fun b hb he => by omega)) HE.out (fun _ => by unfold doneP; rw [if_pos HPH.out, HQ2.out]; exact i9.rd)⟩
end Go.Proofs.YthflefdchgpbdaaDoor.Inf
