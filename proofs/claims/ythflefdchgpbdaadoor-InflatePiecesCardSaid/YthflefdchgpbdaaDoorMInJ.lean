/-
  Layer 13, inflate: what the steps stand on; a match: the program's contract. Conditions: as each theorem names.
-/
import Derived.Test.YthflefdchgpbdaaDoorMInI
namespace Go.Proofs.YthflefdchgpbdaaDoor.Inf
open Go.ChangeShapes Go.WideShapes Go.ChangeAt Go.RowKit Go.Proofs.YthflefdchgpbdaaDoor.Kit Go.Proofs.YthflefdchgpbdaaDoor.Bits Go.Proofs.YthflefdchgpbdaaDoor.Huf Go.Proofs.YthflefdchgpbdaaDoor.Df

/-- What stays while a text is read. -/
structure Cx where
  B : Nat
  B' : Nat
  x : Nat
  gp : Nat
  g : Nat
  most : Int
  vr : Value
  skip : Int
  err : Int
  v : Value
  bs : List Int
def icOf (X : Cx) (st : St) (vs vd : Value) : Ic := ⟨X.most, X.vr, X.skip, st.ph, st.last, st.left, vs, vd, X.err⟩
def capV : Value → Nat
  | .slice _ _ c => c
  | _ => 0
def TabsAt (w : World) (st : St) (u1 u2 : Value) : Prop := st.ph = 2 → u1 = .pointer none ∨ ∃ gt vt gd vd B1 B2, u1 = .pointer (some ⟨gt, 0, none⟩) ∧ u2 = .pointer (some ⟨gd, 0, none⟩) ∧ Tb w B1 gt vt st.ls 15 (syms st.ls 15) ∧ Tb w B2 gd vd st.ds 15 (syms st.ds 15)
/-- An inflater at work. -/
structure InAt (w : World) (X : Cx) (st : St) (vs vd : Value) (A : Option Addr) (c p : Nat) (u1 u2 : Value) : Prop where
  ia : IAt w X.B X.x (icOf X st vs vd) st.out A c
  os : Own w X.B 5 .u8 vs st.ls
  od : Own w X.B 5 .u8 vd st.ds
  hp : Block w X.gp 76 #[.pointer (some ⟨X.g, 0, none⟩), u1, u2]
  rd : Rd w X.B' X.g X.v X.bs p
  tb : TabsAt w st u1 u2
  ap : ∀ b, (Value.slice A st.out.length c).ownBlock = some b → X.v.ownBlock ≠ some b ∧ vs.ownBlock ≠ some b ∧ vd.ownBlock ≠ some b
  cp : capV vs ≤ 288 ∧ capV vd ≤ 32
theorem Tb.turn {S : Nat → Prop} {w w' : World} {B g : Nat} {v : Value} {l ss : List Int} {n : Nat} (h : Tb w B g v l n ss) (t : TurnsIn S w w') (hS : ∀ b ty cs, Block w b ty cs → S b → ty ≠ 108 ∧ ty ≠ 100) : Tb w' B g v l n ss :=
  h.out t (fun hg => (hS g _ _ h.blk hg).1 rfl) (fun b hb he => by
    rcases h.own.2 with ⟨e, _⟩ | ⟨g', cap, cur, e, _, hh, _⟩
    · rw [e] at hb; cases hb
    · rw [e] at hb
      have : g' = b := Option.some.inj hb
      subst this
      exact (hS g' _ _ hh he).2 rfl)
theorem TabsAt.turn {S : Nat → Prop} {w w' : World} {st : St} {u1 u2 : Value} (h : TabsAt w st u1 u2) (t : TurnsIn S w w') (hS : ∀ b ty cs, Block w b ty cs → S b → ty ≠ 108 ∧ ty ≠ 100) : TabsAt w' st u1 u2 := fun e => by
  rcases h e with h | ⟨gt, vt, gd, vd, B1, B2, h1, h2, h3, h4⟩
  · exact .inl h
  · exact .inr ⟨gt, vt, gd, vd, B1, B2, h1, h2, Tb.turn h3 t hS, Tb.turn h4 t hS⟩
theorem block_ty {w : World} {b : Nat} {t u : TypeId} {cs ds : Array Value} (h : Block w b t cs) (h' : Block w b u ds) : t = u := by
  unfold Block at h h'
  rw [h] at h'
  injection h' with h'
  injection h' with _ h2
/-- The reader went on. -/
theorem InAt.read {w w' : World} {X : Cx} {st : St} {vs vd : Value} {A : Option Addr} {c p q : Nat} {u1 u2 : Value} (h : InAt w X st vs vd A c p u1 u2) (t : TurnsIn (· = X.g) w w') (R : Rd w' X.B' X.g X.v X.bs q) : InAt w' X st vs vd A c q u1 u2 := by
  have hb := h.rd.blk
  refine ⟨h.ia.far t (Block.ne_of h.ia.blk hb (by decide)) (fun b hb2 he => h.ia.own.ne_block hb (by decide) (by rw [hb2, he])), h.os.out t (fun b hb2 he => h.os.ne_block hb (by decide) (by rw [hb2, he])), h.od.out t (fun b hb2 he => h.od.ne_block hb (by decide) (by rw [hb2, he])), h.hp.out t (Block.ne_of h.hp hb (by decide)), R, h.tb.turn t (fun b ty cs h1 h2 => ?_), h.ap, h.cp⟩
  subst h2
  have := block_ty h1 hb
  subst this
  exact ⟨by decide, by decide⟩
theorem InAt.below {w w' : World} {X : Cx} {st : St} {vs vd : Value} {A : Option Addr} {c p : Nat} {u1 u2 : Value} (h : InAt w X st vs vd A c p u1 u2) (b : Below w.heap.size w w') : InAt w' X st vs vd A c p u1 u2 :=
  ⟨h.ia.far (TurnsIn.ofNew (S := fun _ => False) b) (fun h => h) (fun _ _ h => h), h.os.below b, h.od.below b, h.hp.below b h.hp.lt, h.rd.below b, h.tb.turn (TurnsIn.ofNew (S := fun _ => False) b) (fun _ _ _ _ h => h.elim), h.ap, h.cp⟩
/-- More was told. -/
theorem InAt.told {w w' : World} {X : Cx} {st : St} {ys : List Int} {vs vd : Value} {A A' : Option Addr} {c c' p : Nat} {u1 u2 : Value} (h : InAt w X st vs vd A c p u1 u2) (t : TurnsIn (fun b => b = X.x ∨ (Value.slice A st.out.length c).ownBlock = some b) w w')
    (i : IAt w' X.B X.x (icOf X st vs vd) ys A' c') (n : Newer w (.slice A st.out.length c) (.slice A' ys.length c')) : InAt w' X { st with out := ys } vs vd A' c' p u1 u2 := by
  have hx := h.ia.blk
  have ty : ∀ b ty cs, Block w b ty cs → (b = X.x ∨ (Value.slice A st.out.length c).ownBlock = some b) → ty = 40 ∨ ty = 5 := by
    intro b ty cs h1 h2
    rcases h2 with h2 | h2
    · subst h2
      exact .inl (block_ty h1 hx)
    · rcases h.ia.own.2 with ⟨e, _⟩ | ⟨g', cap, cur, e, _, hh, _⟩
      · rw [e] at h2; cases h2
      · rw [e] at h2
        have : g' = b := Option.some.inj h2
        subst this
        exact .inr (block_ty h1 hh)
  have keep : ∀ {B1 : Nat} {o : Value} {xs : List Int}, Own w B1 5 .u8 o xs → (∀ b, (Value.slice A st.out.length c).ownBlock = some b → o.ownBlock ≠ some b) → Own w' B1 5 .u8 o xs := fun ho hne => ho.out t (fun b hb he => by
    rcases he with he | he
    · exact ho.ne_block hx (by decide) (by rw [hb, he])
    · exact hne b he hb)
  have apart : ∀ {o : Value} {B1 : Nat} {xs : List Int}, Own w B1 5 .u8 o xs → (∀ b, (Value.slice A st.out.length c).ownBlock = some b → o.ownBlock ≠ some b) → ∀ b, (Value.slice A' ys.length c').ownBlock = some b → o.ownBlock ≠ some b := by
    intro o B1 xs ho hne b hb hob
    rcases n with n | n
    · rw [n] at hb
      exact hne b hb hob
    · have := n b hb
      have := (ho.lt b hob).2
      omega
  refine ⟨i, keep h.os (fun b hb => (h.ap b hb).2.1), keep h.od (fun b hb => (h.ap b hb).2.2), h.hp.out t (fun he => ?_), ⟨h.rd.blk.out t (fun he => ?_), keep h.rd.own (fun b hb => (h.ap b hb).1), h.rd.le⟩, ?_, fun b hb => ⟨apart h.rd.own (fun b hb => (h.ap b hb).1) b hb, apart h.os (fun b hb => (h.ap b hb).2.1) b hb, apart h.od (fun b hb => (h.ap b hb).2.2) b hb⟩, h.cp⟩
  · rcases ty _ _ _ h.hp he with e | e <;> exact absurd e (by decide)
  · rcases ty _ _ _ h.rd.blk he with e | e <;> exact absurd e (by decide)
  · intro e
    rcases h.tb e with h1 | ⟨gt, vt, gd, vd', B1, B2, h1, h2, h3, h4⟩
    · exact .inl h1
    · refine .inr ⟨gt, vt, gd, vd', B1, B2, h1, h2, Tb.turn h3 t (fun b ty' cs k1 k2 => ?_), Tb.turn h4 t (fun b ty' cs k1 k2 => ?_)⟩
      · rcases ty _ _ _ k1 k2 with e | e <;> subst e <;> exact ⟨by decide, by decide⟩
      · rcases ty _ _ _ k1 k2 with e | e <;> subst e <;> exact ⟨by decide, by decide⟩
/-- What a step leaves. -/
def StepTo (X : Cx) (st : St) (vs vd : Value) (A : Option Addr) (c : Nat) (r : Res St) (w : World) (e : Ending) (w' : World) : Prop :=
  TurnsIn (fun b => b = X.g ∨ b = X.x ∨ b = X.gp ∨ (Value.slice A st.out.length c).ownBlock = some b) w w' ∧ match r with
  | .miss => e = missingE ∧ ∃ q u1 u2, InAt w' X st vs vd A c q u1 u2
  | .bad why => e = brokenE why ∧ ∃ q u1 u2, InAt w' X st vs vd A c q u1 u2
  | .ok st' q => e = .returned (.tuple #[]) ∧ ∃ vs' vd' A' c' u1 u2, InAt w' X st' vs' vd' A' c' q u1 u2 ∧ Newer w (.slice A st.out.length c) (.slice A' st'.out.length c') ∧ Newer w vs vs' ∧ Newer w vd vd'
theorem StepTo.miss {X : Cx} {st : St} {vs vd : Value} {A : Option Addr} {c q : Nat} {r : Res St} {w w' : World} {u1 u2 : Value} (h : r = .miss) (t : TurnsIn (fun b => b = X.g ∨ b = X.x ∨ b = X.gp ∨ (Value.slice A st.out.length c).ownBlock = some b) w w') (i : InAt w' X st vs vd A c q u1 u2) : StepTo X st vs vd A c r w (.panicked [{ v := .iface 70 (.agg #[]), recovered := false }]) w' := by
  subst h
  exact ⟨t, rfl, q, u1, u2, i⟩
theorem StepTo.bad {X : Cx} {st : St} {vs vd : Value} {A : Option Addr} {c q : Nat} {r : Res St} {w w' : World} {u1 u2 : Value} {why : Int} (h : r = .bad why) (t : TurnsIn (fun b => b = X.g ∨ b = X.x ∨ b = X.gp ∨ (Value.slice A st.out.length c).ownBlock = some b) w w') (i : InAt w' X st vs vd A c q u1 u2) : StepTo X st vs vd A c r w (.panicked [{ v := .iface 72 (.agg #[.int .i64 why]), recovered := false }]) w' := by
  subst h
  exact ⟨t, rfl, q, u1, u2, i⟩
theorem full_yes (B x : Nat) (k : Ic) (xs : List Int) (A : Option Addr) (c n : Nat) (w : World) (h : IAt w B x k xs A c) (hn : n ≤ 100000) (hk : ((xs.length + n : Nat) : Int) ≤ k.most) :
    Calls Tryd.prog 44 #[.pointer (some ⟨x, 0, none⟩), .int .i64 (n : Int)] w fun e w' => e = .returned (.tuple #[]) ∧ TurnsIn (fun _ => False) w w' := by
  refine (full_any B x k xs A c n w h hn).mono ?_
  rintro e w' ⟨t, h2⟩
  rw [if_pos hk] at h2
  exact ⟨h2, t⟩
theorem full_no (B x : Nat) (k : Ic) (xs : List Int) (A : Option Addr) (c n : Nat) (w : World) (h : IAt w B x k xs A c) (hn : n ≤ 100000) (hk : ¬ ((xs.length + n : Nat) : Int) ≤ k.most) :
    Calls Tryd.prog 44 #[.pointer (some ⟨x, 0, none⟩), .int .i64 (n : Int)] w fun e w' => e = .panicked [{ v := .iface 72 (.agg #[.int .i64 12]), recovered := false }] ∧ TurnsIn (fun _ => False) w w' := by
  refine (full_any B x k xs A c n w h hn).mono ?_
  rintro e w' ⟨t, h2⟩
  rw [if_neg hk] at h2
  exact ⟨h2, t⟩
theorem InAt.quiet {w w' : World} {X : Cx} {st : St} {vs vd : Value} {A : Option Addr} {c p : Nat} {u1 u2 : Value} (h : InAt w X st vs vd A c p u1 u2) (t : TurnsIn (fun _ => False) w w') : InAt w' X st vs vd A c p u1 u2 :=
  h.below (t.toBelow (Nat.le_refl _) (fun _ _ h => h))
theorem sym_cases {B g gp gt B' : Nat} {v u1 u2 vt : Value} {bs l : List Int} {p : Nat} {w : World} (hp : Block w gp 76 #[.pointer (some ⟨g, 0, none⟩), u1, u2]) (hl : l.length ≤ 300) (hM : mayB l = true) (ho : Octets l) (R : Rd w B g v bs p) (hob : Octets bs) (hbl : bs.length ≤ 1000000) (tb : Tb w B' gt vt l 15 (syms l 15)) :
    (∃ s n, told l ((bitsOf bs).drop p) = .sym s n ∧ Calls Tryd.prog 51 #[.pointer (some ⟨gp, 0, none⟩), .pointer (some ⟨gt, 0, none⟩)] w fun e w' => e = .returned (.int .i64 s) ∧ TurnsIn (· = g) w w' ∧ Rd w' B g v bs (p + n)) ∨
    (symG l (bitsOf bs) p = .miss ∧ Calls Tryd.prog 51 #[.pointer (some ⟨gp, 0, none⟩), .pointer (some ⟨gt, 0, none⟩)] w fun e w' => e = .panicked [{ v := .iface 70 (.agg #[]), recovered := false }] ∧ TurnsIn (· = g) w w' ∧ Rd w' B g v bs p) ∨
    (symG l (bitsOf bs) p = .bad 11 ∧ Calls Tryd.prog 51 #[.pointer (some ⟨gp, 0, none⟩), .pointer (some ⟨gt, 0, none⟩)] w fun e w' => e = .panicked [{ v := .iface 72 (.agg #[.int .i64 11]), recovered := false }] ∧ TurnsIn (· = g) w w' ∧ Rd w' B g v bs p) := by
  have G := symbol_any B g gp gt B' v u1 u2 vt bs l p w hp hl hM ho R hob hbl tb
  rw [symG_eq]
  cases ht : told l ((bitsOf bs).drop p) with
  | sym s n =>
    refine .inl ⟨s, n, rfl, G.mono ?_⟩
    rintro e w' ⟨t, h⟩
    rw [ht] at h
    exact ⟨h.1, t, h.2⟩
  | short =>
    refine .inr (.inl ⟨rfl, G.mono ?_⟩)
    rintro e w' ⟨t, h⟩
    rw [ht] at h
    exact ⟨h.1, t, h.2⟩
  | form =>
    refine .inr (.inr ⟨rfl, G.mono ?_⟩)
    rintro e w' ⟨t, h⟩
    rw [ht] at h
    exact ⟨h.1, t, h.2⟩

theorem bind_assoc_at {α β γ : Type} (g : G α) (f : α → G β) (h : β → G γ) (b : List Int) (p : Nat) : bindG (bindG g f) h b p = bindG g (fun a => bindG (f a) h) b p := by
  cases hg : g b p with
  | miss => rw [bindG_miss _ (bindG_miss _ hg), bindG_miss _ hg]
  | bad e => rw [bindG_bad _ (bindG_bad _ hg), bindG_bad _ hg]
  | ok x q =>
    rw [bindG_ok _ hg]
    cases hf : f x b q with
    | miss => rw [bindG_miss _ hf, bindG_miss]; rw [bindG_ok _ hg, hf]
    | bad e => rw [bindG_bad _ hf, bindG_bad]; rw [bindG_ok _ hg, hf]
    | ok y r => rw [bindG_ok _ hf, bindG_ok (q := r) (a := y)]; rw [bindG_ok _ hg, hf]
theorem bind_assoc {α β γ : Type} (g : G α) (f : α → G β) (h : β → G γ) : bindG (bindG g f) h = bindG g (fun a => bindG (f a) h) := by
  funext b p
  exact bind_assoc_at g f h b p
theorem pure_bind {α β : Type} (a : α) (f : α → G β) : bindG (pureG a) f = f a := rfl
theorem ref_no_bind {β : Type} (why : Int) (f : Unit → G β) : bindG (refG false why) f = f () := rfl

set_option maxRecDepth 100000 in
set_option maxHeartbeats 12800000 in
theorem match_any (X : Cx) (st : St) (vs vd : Value) (A : Option Addr) (c p : Nat) (u1 : Value) (gd B2 : Nat) (vt : Value) (s : Int) (w : World) (h : InAt w X st vs vd A c p u1 (.pointer (some ⟨gd, 0, none⟩))) (hs : SOk X.most st p) (h2 : st.ph = 2) (tb : Tb w B2 gd vt st.ds 15 (syms st.ds 15)) (h0 : 0 ≤ s ∧ s ≤ 300) (hob : Octets X.bs) (hbl : X.bs.length ≤ 1000000) (hB : X.B ≤ w.heap.size) (hm : X.most ≤ 1000000) :
    Calls Tryd.prog 52 #[.pointer (some ⟨X.x, 0, none⟩), .pointer (some ⟨X.gp, 0, none⟩), .int .i64 s] w (StepTo X st vs vd A c (bindG (matchG s st.ds st.out.length X.most) (fun m => pureG { st with out := rep st.out m.1.toNat m.2.toNat }) (bitsOf X.bs) p) w) := by
  have HH := Lib.hid h
  have HTB := Lib.hid tb
  have hcod := hs.codes h2
  have HC := Lib.hid hcod
  have hds : st.ds.length ≤ 300 := by have := hs.lists.2; omega
  have hol : st.out.length ≤ 1000000 := by have := hs.len; omega
  have hoc : st.out.length ≤ c := by
    obtain ⟨_, _, e, h1, _, _⟩ := own_open h.ia.own
    injection e with e1 e2 e3
    omega
  have HOC := Lib.hid hoc
  have HB := Lib.hid (bitsOf_bit X.bs)
  have hgd : ∀ (w' : World), TurnsIn (· = X.g) w w' → Tb w' B2 gd vt st.ds 15 (syms st.ds 15) := fun _ t => Tb.turn tb t (fun b ty cs k1 k2 => by
    subst k2
    have := block_ty k1 h.rd.blk
    subst this
    exact ⟨by decide, by decide⟩)
  have HGD := Lib.hid hgd
  obtain ⟨r, hr⟩ : ∃ r, bindG (matchG s st.ds st.out.length X.most) (fun m => pureG { st with out := rep st.out m.1.toNat m.2.toNat }) (bitsOf X.bs) p = r := ⟨_, rfl⟩
  rw [hr]
  have T0 := Lib.hid (fun (w' : World) (t : TurnsIn (· = X.g) w w') => t.mono (T := fun b => b = X.g ∨ b = X.x ∨ b = X.gp ∨ (Value.slice A st.out.length c).ownBlock = some b) (fun b _ hb => .inl hb))
  have HM0 := Lib.hid hr.symm
  have GN := Lib.hid (fun W => refuse_no 11 W)
  have GY := Lib.hid (fun W => refuse_yes 11 W)
  unfold brokenE at GY
  clear hr h tb hcod hs hgd hoc
  by_cases h28 : s ≤ 28
  · have d28 : decide (28 < s) = false := decide_eq_false (by omega)
    obtain ⟨n0, rfl⟩ := Int.eq_ofNat_of_zero_le h0.1
    have hml : (lmore (n0 : Int)).toNat ≤ 5 := lmore_le _ h28
    have hm0 : lmore (n0 : Int) = ((lmore (n0 : Int)).toNat : Int) := by unfold lmore; split <;> omega
    have GL := Lib.hid (fun W => length_any n0 (by omega) W)
    rw [hm0] at GL
    have hlb := lens_bd n0 (by omega)
    have HR1 : Hid (r = bindG (numG (lmore (n0 : Int)).toNat) (fun k => bindG (symG st.ds) fun d => bindG (refG (decide (29 < d)) 11) fun _ =>
        bindG (numG (dmore d).toNat) fun j => bindG (refG (decide ((st.out.length : Int) < dists.getD d.toNat 0 + j)) 11) fun _ => bindG (refG (decide (X.most < st.out.length + (lens.getD n0 0 + k))) 12) fun _ => pureG { st with out := rep st.out (lens.getD n0 0 + k).toNat (dists.getD d.toNat 0 + j).toNat }) (bitsOf X.bs) p) := Lib.hid (by
      rw [HM0.out]
      unfold matchG
      rw [d28, Int.toNat_natCast]
      simp only [bind_assoc, ref_no_bind, pure_bind])
    generalize lens.getD n0 0 = L at *
    generalize (lmore (n0 : Int)).toNat = mo at *
    have d28n : decide (28 < n0) = false := decide_eq_false (by omega)
    clear HM0 hm0
    by_cases hq1 : p + mo ≤ (bitsOf X.bs).length
    · have GM := Lib.hid (number_yes mo w HH.out.hp HH.out.rd hob hbl (by omega) hq1)
      have hv1 := val_lt (bitsOf X.bs) HB.out p mo hq1
      have hp2 : (2 : Int) ^ mo ≤ 2 ^ 5 := p2_le hml
      have HR2 := Lib.hid (HR1.out.trans (bindG_ok _ (numG_yes hq1)))
      generalize val (((bitsOf X.bs).drop p).take mo) = k1 at *
      rw [show (2 : Int) ^ 5 = 32 by decide] at hp2
      obtain ⟨n, hn⟩ : ∃ n : Nat, L + k1 = n := ⟨(L + k1).toNat, by omega⟩
      have hnw : IntKind.i64.wrap (L + k1) = (n : Int) := by rw [IntKind.wrap_i64]; omega
      rw [hn] at HR2
      have hnb : 3 ≤ n ∧ n ≤ 300 := by omega
      clear hv1 hp2 hn HR1 hq1
      go_enter Tryd.func52, Tryd.ntmps52
      go_wp2_with fail
      refine (GN.out _).mono ?_
      rintro e w5 ⟨rfl, hw5⟩
      have hw5' := hw5.symm
      clear hw5
      subst hw5'
      go_wp2_with fail
      refine (GL.out _).mono ?_
      rintro e w5 ⟨rfl, hw5⟩
      have hw5' := hw5.symm
      clear hw5
      subst hw5'
      go_wp2_with fail
      refine GM.out.mono ?_
      rintro e w6 ⟨t6, rfl, R6⟩
      have I6 := Lib.hid (HH.out.read t6 R6)
      have T6 := Lib.hid t6
      have TB6 := Lib.hid (HGD.out _ t6)
      have y2 : w6.cell? ⟨X.gp, 2, none⟩ = some (.pointer (some ⟨gd, 0, none⟩)) := I6.out.hp.cell 2
      clear t6 R6 GM GL
      rcases sym_cases I6.out.hp hds HC.out.2.2.1 HC.out.2.2.2 I6.out.rd hob hbl TB6.out with ⟨d, nd, ht, hg⟩ | ⟨hs1, hg⟩ | ⟨hs1, hg⟩
      · have HR3 := Lib.hid (HR2.out.trans (bindG_ok _ (symG_sym ht)))
        have hdr := told_lt HC.out.2.2.1 HC.out.2.2.2 (HB.out.drop _) ht
        have GS := Lib.hid hg
        clear hg ht HR2
        go_wp2_with fail
        refine GS.out.mono ?_
        rintro e w7 ⟨rfl, t7, R7⟩
        have I7 := Lib.hid (I6.out.read t7 R7)
        have T7 := Lib.hid (T6.out.trans t7)
        clear t7 R7 GS
        by_cases h29 : d ≤ 29
        · have d29 : decide (29 < d) = false := decide_eq_false (by omega)
          obtain ⟨e0, rfl⟩ := Int.eq_ofNat_of_zero_le hdr.1
          have d29n : decide (29 < e0) = false := decide_eq_false (by omega)
          have hml2 : (dmore (e0 : Int)).toNat ≤ 13 := dmore_le _ h29
          have hm2 : dmore (e0 : Int) = ((dmore (e0 : Int)).toNat : Int) := by unfold dmore; split <;> omega
          have GD := Lib.hid (fun W => distance_any e0 (by omega) W)
          rw [hm2] at GD
          have hdb := dists_bd e0 (by omega)
          have HR4 : Hid (r = bindG (numG (dmore (e0 : Int)).toNat) (fun j => bindG (refG (decide ((st.out.length : Int) < dists.getD e0 0 + j)) 11) fun _ => bindG (refG (decide (X.most < st.out.length + (n : Int))) 12) fun _ => pureG { st with out := rep st.out n (dists.getD e0 0 + j).toNat }) (bitsOf X.bs) (p + mo + nd)) := Lib.hid (by
            rw [HR3.out, d29]
            simp only [bindG_ok _ (refG_no 11 _ _), Int.toNat_natCast])
          generalize dists.getD e0 0 = Ld at *
          generalize (dmore (e0 : Int)).toNat = md at *
          clear HR3 hm2
          by_cases hq2 : p + mo + nd + md ≤ (bitsOf X.bs).length
          · have GM := Lib.hid (number_yes md w7 I7.out.hp I7.out.rd hob hbl (by omega) hq2)
            have hv1 := val_lt (bitsOf X.bs) HB.out (p + mo + nd) md hq2
            have hp2 : (2 : Int) ^ md ≤ 2 ^ 13 := p2_le hml2
            have HR5 := Lib.hid (HR4.out.trans (bindG_ok _ (numG_yes hq2)))
            generalize val (((bitsOf X.bs).drop (p + mo + nd)).take md) = k2 at *
            rw [show (2 : Int) ^ 13 = 8192 by decide] at hp2
            obtain ⟨far, hfar⟩ : ∃ far : Nat, Ld + k2 = far := ⟨(Ld + k2).toNat, by omega⟩
            have hfw : IntKind.i64.wrap (Ld + k2) = (far : Int) := by rw [IntKind.wrap_i64]; omega
            rw [hfar] at HR5
            have hfb : 1 ≤ far ∧ far ≤ 40000 := by omega
            clear hv1 hp2 hfar HR4 hq2
            go_wp2_with fail
            refine (GN.out _).mono ?_
            rintro e w5 ⟨rfl, hw5⟩
            have hw5' := hw5.symm
            clear hw5
            subst hw5'
            go_wp2_with fail
            refine (GD.out _).mono ?_
            rintro e w5 ⟨rfl, hw5⟩
            have hw5' := hw5.symm
            clear hw5
            subst hw5'
            go_wp2_with fail
            refine GM.out.mono ?_
            rintro e w8 ⟨t8, rfl, R8⟩
            have I8 := Lib.hid (I7.out.read t8 R8)
            have T8 := Lib.hid (T7.out.trans t8)
            have y1 : w8.cell? ⟨X.x, 1, none⟩ = some (.slice A st.out.length c) := I8.out.ia.blk.cell 1
            clear t8 R8 GM GD
            by_cases hfo : far ≤ st.out.length
            · have dfo : decide ((st.out.length : Int) < (far : Int)) = false := decide_eq_false (by omega)
              have dfo2 : decide (st.out.length < far) = false := decide_eq_false (by omega)
              have HR6 := Lib.hid (HR5.out.trans (show _ = bindG (refG (decide (X.most < st.out.length + (n : Int))) 12) (fun _ => pureG { st with out := rep st.out n far }) (bitsOf X.bs) (p + mo + nd + md) by rw [dfo, bindG_ok _ (refG_no 11 _ _), Int.toNat_natCast]))
              clear HR5
              by_cases hful : ((st.out.length + n : Nat) : Int) ≤ X.most
              · have HR7 := Lib.hid (HR6.out.trans (show _ = .ok { st with out := rep st.out n far } (p + mo + nd + md) by rw [decide_eq_false (by omega), bindG_ok _ (refG_no 12 _ _)]; rfl))
                have HFU := Lib.hid hful
                clear hful HR6
                go_wp2_with fail
                refine (GN.out _).mono ?_
                rintro e w5 ⟨rfl, hw5⟩
                have hw5' := hw5.symm
                clear hw5
                subst hw5'
                go_wp2_with fail
                refine (full_yes X.B X.x _ st.out A c n w8 I8.out.ia (by omega) HFU.out).mono ?_
                rintro e w9 ⟨rfl, t9⟩
                have I9 := Lib.hid (I8.out.quiet t9)
                have T9 := Lib.hid (T8.out.trans (t9.mono fun _ _ h => h.elim))
                have hB9 : X.B ≤ w9.heap.size := by have := T9.out.size; omega
                clear t9
                go_wp2_with fail
                refine (repeat_any X.B X.x _ st.out A c n far w9 hB9 I9.out.ia HFU.out (by omega) hfo).mono ?_
                rintro e w10 ⟨rfl, t10, A', c', i10, n10⟩
                have I10 := Lib.hid (I9.out.told t10 i10 n10)
                have T10 := Lib.hid t10
                have N10 := Lib.hid n10
                have hsz9 := T9.out.size
                clear t10 i10 n10
                go_wp2_with fail
                go_end0
                rw [HR7.out]
                refine ⟨(T0.out _ T9.out).then_ T10.out (fun b _ hb => ?_), rfl, vs, vd, A', c', _, _, I10.out, Newer.trans (Newer.refl _ _) hsz9 N10.out, Newer.refl _ _, Newer.refl _ _⟩
                rcases hb with hb | hb
                · exact .inr (.inl hb)
                · exact .inr (.inr (.inr hb))
              · have HE := Lib.hid (HR6.out.trans (show _ = .bad 12 by rw [decide_eq_true (by omega)]; exact bindG_bad _ (refG_yes 12 _ _)))
                have HFU := Lib.hid hful
                clear hful HR6
                go_wp2_with fail
                refine (GN.out _).mono ?_
                rintro e w5 ⟨rfl, hw5⟩
                have hw5' := hw5.symm
                clear hw5
                subst hw5'
                go_wp2_with fail
                refine (full_no X.B X.x _ st.out A c n w8 I8.out.ia (by omega) (Int.not_le.2 HFU.out)).mono ?_
                rintro e w9 ⟨rfl, t9⟩
                go_wp2_with fail
                exact ⟨rfl, StepTo.bad HE.out (T0.out _ (T8.out.trans (t9.mono fun _ _ h => h.elim))) (I8.out.quiet t9)⟩
            · have dfo : decide ((st.out.length : Int) < (far : Int)) = true := decide_eq_true (by omega)
              have dfo2 : decide (st.out.length < far) = true := decide_eq_true (by omega)
              have HE := Lib.hid (HR5.out.trans (show _ = .bad 11 by rw [dfo]; exact bindG_bad _ (refG_yes 11 _ _)))
              clear hfo HR5
              go_wp2_with fail
              refine (GY.out _).mono ?_
              rintro e w9 ⟨rfl, rfl⟩
              go_wp2_with fail
              exact ⟨rfl, StepTo.bad HE.out (T0.out _ T8.out) I8.out⟩
          · have GM := Lib.hid (number_no md w7 I7.out.hp I7.out.rd hob hbl (by omega) hq2)
            have HE := Lib.hid (HR4.out.trans (bindG_miss _ (numG_no hq2)))
            clear hq2 HR4
            go_wp2_with fail
            refine (GN.out _).mono ?_
            rintro e w5 ⟨rfl, hw5⟩
            have hw5' := hw5.symm
            clear hw5
            subst hw5'
            go_wp2_with fail
            refine (GD.out _).mono ?_
            rintro e w5 ⟨rfl, hw5⟩
            have hw5' := hw5.symm
            clear hw5
            subst hw5'
            go_wp2_with fail
            refine GM.out.mono ?_
            rintro e w8 ⟨t8, rfl, R8⟩
            go_wp2_with fail
            exact ⟨rfl, StepTo.miss HE.out (T0.out _ (T7.out.trans t8)) (I7.out.read t8 R8)⟩
        · have d29 : decide (29 < d) = true := decide_eq_true (by omega)
          have HE := Lib.hid (HR3.out.trans (show _ = .bad 11 by rw [d29]; exact bindG_bad _ (refG_yes 11 _ _)))
          clear h29 HR3
          go_wp2_with fail
          refine (GY.out _).mono ?_
          rintro e w9 ⟨rfl, rfl⟩
          go_wp2_with fail
          exact ⟨rfl, StepTo.bad HE.out (T0.out _ T7.out) I7.out⟩
      · have HE := Lib.hid (HR2.out.trans (bindG_miss _ hs1))
        have GS := Lib.hid hg
        clear hg hs1 HR2
        go_wp2_with fail
        refine GS.out.mono ?_
        rintro e w7 ⟨rfl, t7, R7⟩
        go_wp2_with fail
        exact ⟨rfl, StepTo.miss HE.out (T0.out _ (T6.out.trans t7)) (I6.out.read t7 R7)⟩
      · have HE := Lib.hid (HR2.out.trans (bindG_bad _ hs1))
        have GS := Lib.hid hg
        clear hg hs1 HR2
        go_wp2_with fail
        refine GS.out.mono ?_
        rintro e w7 ⟨rfl, t7, R7⟩
        go_wp2_with fail
        exact ⟨rfl, StepTo.bad HE.out (T0.out _ (T6.out.trans t7)) (I6.out.read t7 R7)⟩
    · have GM := Lib.hid (number_no mo w HH.out.hp HH.out.rd hob hbl (by omega) hq1)
      have HE := Lib.hid (HR1.out.trans (bindG_miss _ (numG_no hq1)))
      clear hq1 HR1
      go_enter Tryd.func52, Tryd.ntmps52
      go_wp2_with fail
      refine (GN.out _).mono ?_
      rintro e w5 ⟨rfl, hw5⟩
      have hw5' := hw5.symm
      clear hw5
      subst hw5'
      go_wp2_with fail
      refine (GL.out _).mono ?_
      rintro e w5 ⟨rfl, hw5⟩
      have hw5' := hw5.symm
      clear hw5
      subst hw5'
      go_wp2_with fail
      refine GM.out.mono ?_
      rintro e w6 ⟨t6, rfl, R6⟩
      go_wp2_with fail
      exact ⟨rfl, StepTo.miss HE.out (T0.out _ t6) (HH.out.read t6 R6)⟩
  · have d28 : decide (28 < s) = true := decide_eq_true (by omega)
    have HE : Hid (r = .bad 11) := Lib.hid (by
      rw [HM0.out]
      unfold matchG
      rw [d28]
      exact bindG_bad _ (bindG_bad _ (refG_yes 11 _ _)))
    clear h28 HM0
    go_enter Tryd.func52, Tryd.ntmps52
    go_wp2_with fail
    refine (GY.out _).mono ?_
    rintro e w5 ⟨rfl, rfl⟩
    go_wp2_with fail
    exact ⟨rfl, StepTo.bad HE.out (T0.out _ (TurnsIn.refl _ _)) HH.out⟩
end Go.Proofs.YthflefdchgpbdaaDoor.Inf
