/-
  Layer 16, plan: Get: contract. Conditions: as each theorem names.
-/
import Derived.Test.YtjcofmeknpgjnaaPlO
import Derived.Test.YtjcofmeknpgjnaaPlS6
import Derived.Test.YtjcofmeknpgjnaaPlC3
import Derived.LoopTactic
namespace Go.Proofs.Ytjcofmeknpgjnaa.Pl
open Go.ChangeShapes Go.WideShapes Go.ChangeAt Go.RowKit Go.Proofs.Ytjcofmeknpgjnaa.Kit

/-- What is told: a plan, or an error. -/
def GivesP (qs : List Sq) (why : Int) (w : World) (e : Ending) (w' : World) : Prop :=
  ∃ A c ss, e = .returned (.tuple #[.slice A (List.length ss) c, .int .i64 why]) ∧ ss.map sqS = qs ∧ ss.length ≤ c ∧ c ≤ maxLen ∧ HoldsS w' A ss ∧ Below w.heap.size w w'

def tellG : Except Int (List Sq) → List Sq × Int
  | .ok qs => (qs, 0)
  | .error e => ([], e)

/-- What bytes tell, with a most. -/
def getA (xs : List Int) (most : Int) : List Sq × Int := if most < xs.length then ([], 12) else tellG (getG xs.length xs)

theorem catchG_thrown (pb qb : Nat) (v0 e0 : Value) (why : Int) (older : List PanicEntry) (w : World) (hne : pb ≠ qb) (hp : Block w pb 22 #[v0]) (hq : Block w qb 29 #[e0]) :
    CallsD Try.prog 23 #[.pointer (some ⟨pb, 0, none⟩), .pointer (some ⟨qb, 0, none⟩)] (.panicking ({ v := thrown why, recovered := false } :: older)) w
      (CaughtG pb qb why (.panicking ({ v := thrown why, recovered := true } :: older)) w) := by
  unfold thrown
  by_cases h : why = 2
  · subst h
    rw [if_pos rfl]
    exact catchG_missing pb qb v0 e0 older w hne hp hq
  · rw [if_neg h]
    exact catchG_broken pb qb v0 e0 why older w hne hp hq

/-- How many bytes are still to be taken. -/
def restLen (w : World) (r : Nat) : Nat := match w.cell? ⟨r, 0, none⟩ with
  | some (.slice _ n _) => n
  | _ => 0

theorem restLen_of {w : World} {B r : Nat} {xs : List Int} (h : Rest w B r xs) : restLen w r = xs.length := by
  obtain ⟨_, A, c, blk, _⟩ := h
  unfold restLen
  rw [blk.cellOf 0 (u := .slice A xs.length c) rfl]

theorem Rest.kept {w w' : World} {B r : Nat} {xs : List Int} {S : Nat → Prop} (h : Rest w B r xs) (t : TurnsIn S w w') (hr : ¬ S r) (hB : B ≤ w.heap.size) (hs : ∀ b, b < B → ¬ S b) : Rest w' B r xs := by
  obtain ⟨h1, A, c, blk, h2, h3, h4⟩ := h
  exact ⟨h1, A, c, blk.out t hr, h2, h3, h4.out t hB hs⟩

/-- Behind some steps. -/
structure Got (w wr : World) (ss : List Stp) (A' : Option Addr) (c' : Nat) (l : List Int) : Prop where
  bp : Block wr w.heap.size 22 #[.slice A' ss.length c']
  bq : Block wr (w.heap.size + 1) 29 #[.int .i64 0]
  own : OwnSteps wr w.heap.size (.slice A' ss.length c') ss
  data : ∀ s ∈ ss, FineS s ∧ Own wr w.heap.size 5 .u8 (.slice s.A s.zs.length s.cap) s.zs
  rest : Rest wr w.heap.size (w.heap.size + 2) l
  below : Below w.heap.size w wr

theorem Got.turned {w wr w5 : World} {ss : List Stp} {A' : Option Addr} {c' : Nat} {l l2 : List Int} (M : Got w wr ss A' c' l) (t : TurnsIn (fun b => b = w.heap.size + 2) wr w5) (h : Rest w5 w.heap.size (w.heap.size + 2) l2) : Got w w5 ss A' c' l2 := by
  obtain ⟨_, Ar, cr, blk, _⟩ := M.rest
  refine ⟨M.bp.out t (by omega), M.bq.out t (by omega), M.own.out t (fun g hg he => M.own.ne_block blk (by decide) (he ▸ hg)), fun s hs => ?_, h, M.below.trans (t.toBelow M.below.size (fun b hb he => by omega))⟩
  obtain ⟨h1, h2⟩ := M.data s hs
  exact ⟨h1, h2.out t (fun g hg he => h2.ne_block blk (by decide) (he ▸ hg))⟩

theorem Got.added {w w5 w6 : World} {ss : List Stp} {s5 : Stp} {A' A6 : Option Addr} {c' c6 : Nat} {l : List Int} (M : Got w w5 ss A' c' l) (hf : FineS s5) (ho : Own w5 w.heap.size 5 .u8 (.slice s5.A s5.zs.length s5.cap) s5.zs)
    (t : TurnsIn (fun b => (Value.slice A' ss.length c').ownBlock = some b) w5 w6) (h : OwnSteps w6 w.heap.size (.slice A6 (ss.length + 1) c6) (ss ++ [s5])) : Got w (w6.setCell ⟨w.heap.size, 0, none⟩ (.slice A6 (ss.length + 1) c6)) (ss ++ [s5]) A6 c6 l := by
  obtain ⟨hR, Ar, cr, blk, k1, k2, k3⟩ := M.rest
  have bp6 := M.bp.out t (M.own.ne_block M.bp (by decide))
  have bq6 := M.bq.out t (M.own.ne_block M.bq (by decide))
  have rest6 := M.rest.kept t (M.own.ne_block blk (by decide)) M.below.size (fun b hb he => by have := M.own.lt b he; omega)
  have hb6 := M.below.trans (M.own.turned t M.below.size)
  have hla : (ss ++ [s5]).length = ss.length + 1 := by simp
  have t9 := (TurnsIn.refl (· = w.heap.size) w6).setCell (p := ⟨w.heap.size, 0, none⟩) (.inl rfl) (.slice A6 (ss.length + 1) c6)
  refine ⟨by rw [hla]; exact bp6.set_ 0 _, bq6.far (by simp) _, by rw [hla]; exact h.out t9 (fun g hg he => h.ne_block bp6 (by decide) (he ▸ hg)), fun s hs => ?_, rest6.set (by simp) (Nat.le_refl _) _, hb6.setCell (Nat.le_refl _) _⟩
  have hd : FineS s ∧ Own w5 w.heap.size 5 .u8 (.slice s.A s.zs.length s.cap) s.zs := by
    rcases List.mem_append.1 hs with hs | hs
    · exact M.data s hs
    · obtain rfl : s = s5 := by simpa using hs
      exact ⟨hf, ho⟩
  obtain ⟨h1, h2⟩ := hd
  have h3 := h2.out t (fun g hg => M.own.ne_own h2 (by decide) g hg)
  exact ⟨h1, h3.out t9 (fun g hg he => h3.ne_block bp6 (by decide) (he ▸ hg))⟩

theorem Got.end_ {w wr : World} {ss : List Stp} {A' : Option Addr} {c' : Nat} {l : List Int} (M : Got w wr ss A' c' l) : ss.length ≤ c' ∧ c' ≤ maxLen ∧ HoldsS wr A' ss := by
  have := M.own.holds fun s hs => by
    obtain ⟨h1, h2⟩ := M.data s hs
    obtain ⟨_, _, e, _, _, h3⟩ := h2.opened
    injection e with e1 e2 e3
    subst e1
    exact ⟨h1, h3⟩
  exact this.2

set_option maxRecDepth 100000 in
set_option maxHeartbeats 1600000 in
theorem get_long (A : Option Addr) (xs : List Int) (c : Nat) (most : Int) (w : World) (hmost : most < xs.length) :
    Calls Try.prog 14 #[.slice A xs.length c, .int .i64 most] w (GivesP [] 12 w) := by
  have hd : decide (most < (xs.length : Int)) = true := decide_eq_true hmost
  go_enter_defers Try.func14, Try.ntmps14
  go_wp2_with fail
  have b9 := (Block.new w 22 #[.slice none 0 0]).alloc (.cells #[.int .i64 12] 29)
  have b8 : Block ((w.alloc (.cells #[.slice none 0 0] 22)).alloc (.cells #[.int .i64 12] 29)) (w.heap.size + 1) 29 #[.int .i64 12] := by
    have := Block.new (w.alloc (.cells #[.slice none 0 0] 22)) 29 #[.int .i64 12]
    simpa using this
  have c0 := b9.cellOf 0 (u := .slice none 0 0) rfl
  have c1 := b8.cellOf 0 (u := .int .i64 12) rfl
  have hb9 : Below w.heap.size w ((w.alloc (.cells #[.slice none 0 0] 22)).alloc (.cells #[.int .i64 12] 29)) := ((Below.refl _ _).alloc (Nat.le_refl _) _).alloc (by simp) _
  exact ⟨.tuple #[.slice none 0 0, .int .i64 12], by simp [results, Try.results14, go_sem, c0, c1], none, 0, [], rfl, rfl, Nat.le_refl _, Nat.zero_le _, (fun h => absurd h (by simp)), hb9⟩

set_option maxRecDepth 100000 in
set_option maxHeartbeats 6400000 in
theorem get_in (A : Option Addr) (xs : List Int) (c : Nat) (most : Int) (w : World) (hl : xs.length ≤ 999999) (hc : xs.length ≤ c) (hm : c ≤ maxLen) (ho : Octets xs) (hr : Holds w w.heap.size .u8 A xs) (hmost : ¬ most < xs.length) :
    Calls Try.prog 14 #[.slice A xs.length c, .int .i64 most] w (GivesP (tellG (getG xs.length xs)).1 (tellG (getG xs.length xs)).2 w) := by
  obtain ⟨res, hres⟩ : ∃ res, getG xs.length xs = res := ⟨_, rfl⟩
  rw [hres]
  have hd : decide (most < (xs.length : Int)) = false := decide_eq_false hmost
  have M0 : Got w (((w.alloc (.cells #[.slice none 0 0] 22)).alloc (.cells #[.int .i64 0] 29)).alloc (.cells #[.slice A xs.length c] 55)) [] none 0 xs := by
    have hb0 : Below w.heap.size w (((w.alloc (.cells #[.slice none 0 0] 22)).alloc (.cells #[.int .i64 0] 29)).alloc (.cells #[.slice A xs.length c] 55)) := (((Below.refl _ _).alloc (Nat.le_refl _) _).alloc (by simp) _).alloc (by simp; omega) _
    have b2 := Block.new (w.alloc (.cells #[.slice none 0 0] 22)) 29 #[.int .i64 0]
    have b3 := Block.new ((w.alloc (.cells #[.slice none 0 0] 22)).alloc (.cells #[.int .i64 0] 29)) 55 #[.slice A xs.length c]
    refine ⟨((Block.new w 22 #[.slice none 0 0]).alloc _).alloc _, ?_, OwnSteps.nil _ _, fun s hs => by simp at hs, ⟨by omega, A, c, ?_, hc, hm, hr.below hb0⟩, hb0⟩
    · have := b2.alloc (.cells #[.slice A xs.length c] 55)
      simpa using this
    · simpa using b3
  have hmf : ∀ (fn : Fn) (first cap : Array Value) (w : World), (Instr.makeFunc fn first cap).run Try.prog w = .ok (.func fn first cap) w := fun _ _ _ _ => rfl
  clear hr
  go_enter_defers Try.func14, Try.ntmps14
  go_wp2_with fail
  generalize ((w.alloc (.cells #[.slice none 0 0] 22)).alloc (.cells #[.int .i64 0] 29)).alloc (.cells #[.slice A xs.length c] 55) = w1 at *
  go_loopw [] (fun wx => ∃ (l : List Int) (f : Nat) (ss : List Stp) (A' : Option Addr) (c' : Nat), l.length ≤ f ∧ ss.length + l.length ≤ xs.length ∧ Octets l ∧ joinG (ss.map sqS) (getG f l) = res ∧ Got w wx ss A' c' l) (fun wx => restLen wx (w.heap.size + 2))
  case atStart => exact ⟨xs, xs.length, [], none, 0, Nat.le_refl _, by simp, ho, by rw [hres]; cases res <;> rfl, M0⟩
  case round =>
    obtain ⟨l, f, ss, A', c', hf, hsl, hol, hg, M⟩ := hrel
    have hrl := restLen_of M.rest
    cases l with
    | nil =>
      obtain ⟨hR, Ar, cr, blkr, k1, k2, k3⟩ := M.rest
      have r0 := blkr.cellOf 0 (u := .slice Ar 0 cr) rfl
      rw [getG_end] at hg
      subst hg
      obtain ⟨e1, e2, e3⟩ := M.end_
      have p0 := M.bp.cellOf 0 (u := .slice A' ss.length c') rfl
      have p1 := M.bq.cellOf 0 (u := .int .i64 0) rfl
      have z0 := M.bp.frozen 0
      have z1 := M.bq.frozen 0
      clear hrl hres k1 k3 ho hol M0
      go_wp2_with fail
      have g0 := (M.bp.set_ 0 (.slice A' ss.length c')).far (p := ⟨w.heap.size + 1, 0, none⟩) (by simp) (.int .i64 0)
      have g1 := (M.bq.far (p := ⟨w.heap.size, 0, none⟩) (by simp) (.slice A' ss.length c')).set_ 0 (.int .i64 0)
      have t9 := ((TurnsIn.refl (fun b => b = w.heap.size ∨ b = w.heap.size + 1) wr).setCell (p := ⟨w.heap.size, 0, none⟩) (.inl (.inl rfl)) (.slice A' ss.length c')).setCell (p := ⟨w.heap.size + 1, 0, none⟩) (.inl (.inr rfl)) (.int .i64 0)
      have own9 := M.own.out t9 (fun b hb he => by
        rcases he with he | he
        · exact M.own.ne_block M.bp (by decide) (he ▸ hb)
        · exact M.own.ne_block M.bq (by decide) (he ▸ hb))
      have data9 := fun s hs => (fun h : FineS s ∧ Own wr w.heap.size 5 .u8 (.slice s.A s.zs.length s.cap) s.zs => (⟨h.1, h.2.out t9 (fun b hb he => by
        rcases he with he | he
        · exact h.2.ne_block M.bp (by decide) (he ▸ hb)
        · exact h.2.ne_block M.bq (by decide) (he ▸ hb))⟩ : FineS s ∧ Own ((wr.setCell ⟨w.heap.size, 0, none⟩ (.slice A' ss.length c')).setCell ⟨w.heap.size + 1, 0, none⟩ (.int .i64 0)) w.heap.size 5 .u8 (.slice s.A s.zs.length s.cap) s.zs)) (M.data s hs)
      have hb9 := (M.below.setCell (p := ⟨w.heap.size, 0, none⟩) (Nat.le_refl _) (.slice A' ss.length c')).setCell (p := ⟨w.heap.size + 1, 0, none⟩) (Nat.le_succ _) (.int .i64 0)
      have c0 := g0.cellOf 0 (u := .slice A' ss.length c') rfl
      have c1 := g1.cellOf 0 (u := .int .i64 0) rfl
      generalize (wr.setCell ⟨w.heap.size, 0, none⟩ (.slice A' ss.length c')).setCell ⟨w.heap.size + 1, 0, none⟩ (.int .i64 0) = w9 at *
      refine leaves_cons (f := 23) (args := #[.pointer (some ⟨w.heap.size, 0, none⟩), .pointer (some ⟨w.heap.size + 1, 0, none⟩)]) (by simp) (by simp [go_sem]) ?_
      refine (catchG_idle ⟨w.heap.size, 0, none⟩ ⟨w.heap.size + 1, 0, none⟩ w9).mono ?_
      rintro e u' w'' ⟨rfl, rfl, rfl⟩
      have fin := own9.holds fun s hs => by
        obtain ⟨h1, h2⟩ := data9 s hs
        obtain ⟨_, _, e, _, _, h3⟩ := h2.opened
        injection e with e1 e2 e3
        subst e1
        exact ⟨h1, h3⟩
      exact ⟨.tuple #[.slice A' ss.length c', .int .i64 0], by simp [results, Try.results14, go_sem, c0, c1], A', c', ss, rfl, rfl, fin.2.1, fin.2.2.1, fin.2.2.2, hb9⟩
    | cons k l =>
      obtain ⟨f, rfl⟩ : ∃ g, f = g + 1 := ⟨f - 1, by simp at hf; omega⟩
      obtain ⟨hR, Ar, cr, blkr, k1, k2, k3⟩ := M.rest
      have hlt : w.heap.size + 2 < wr.heap.size := blkr.lt
      have hkl : l.length ≤ 999999 := by simp at hsl; omega
      have G := step_any w.heap.size (w.heap.size + 2) k l wr.drew M.rest M.below.size hlt hkl (fun x hx => hol x (List.mem_cons_of_mem _ hx))
      have r0 := blkr.cellOf 0 (u := .slice Ar (l.length + 1) cr) rfl
      have p0 := M.bp.cellOf 0 (u := .slice A' ss.length c') rfl
      cases hs : stepG (k :: l) with
      | error why =>
        rw [hs] at G
        rw [getG_no hs] at hg
        subst hg
        have hcall : Calls Try.prog 24 #[.pointer (some ⟨w.heap.size + 2, 0, none⟩)] wr.drew (StepTold w.heap.size (w.heap.size + 2) wr (.error why)) := G.mono fun e w' ⟨t, h⟩ => ⟨⟨t.os, t.tape, t.output, t.size, t.block⟩, h⟩
        have HC := Lib.hid hcall
        have bpr := M.bp
        have bqr := M.bq
        have hbr := M.below
        clear hcall G hs hrl hres k1 k3 ho hol M0 M
        go_wp2_with fail
        refine wp_region_any (by kernel_rfl) ?_
        change wpAny _ _ _ _ _ _ _ (World.drew _)
        refine wpAny_ready (rs := [0, 1]) (by kernel_rfl) (by simp) ?_
        refine AllReady.cons rfl (fun K hK => ?_) ?_
        · go_simp
          refine hK _ _ ?_
          clear hK K
          refine wpAny_ready (rs := [1]) (by kernel_rfl) (by simp) ?_
          refine AllReady.cons rfl (fun K hK => ?_) ?_
          · go_simp
            refine hK _ _ ?_
            clear hK K
            refine wpAny_ready (rs := [2]) (by kernel_rfl) (by simp) ?_
            refine AllReady.cons rfl (fun K hK => ?_) ?_
            · go_simp
              go_at_call 24
              refine HC.out.mono ?_
              rintro e w5 ⟨t5, rfl⟩
              have bp5 := bpr.out t5 (by omega)
              have bq5 := bqr.out t5 (by omega)
              have hb5 := hbr.trans (t5.toBelow hbr.size (fun b hb he => by omega))
              refine leaves_cons (f := 23) (args := #[.pointer (some ⟨w.heap.size, 0, none⟩), .pointer (some ⟨w.heap.size + 1, 0, none⟩)]) (by simp) (by simp [go_sem]) ?_
              refine (catchG_thrown w.heap.size (w.heap.size + 1) (.slice A' ss.length c') (.int .i64 0) why [] w5 (by omega) bp5 bq5).mono ?_
              rintro e u' w9 ⟨rfl, rfl, g0, g1, t9⟩
              have c0 := g0.cellOf 0 (u := .slice none 0 0) rfl
              have c1 := g1.cellOf 0 (u := .int .i64 why) rfl
              have hb9 := hb5.trans (t9.toBelow hb5.size (fun b hb he => by omega))
              exact ⟨.tuple #[.slice none 0 0, .int .i64 why], by simp [results, Try.results14, go_sem, c0, c1], none, 0, [], rfl, rfl, Nat.le_refl _, Nat.zero_le _, (fun h => absurd h (by simp)), hb9⟩
            exact AllReady.nil
          exact AllReady.nil
        refine AllReady.cons rfl (fun K hK => ?_) ?_
        · go_simp
          refine hK _ _ ?_
          clear hK K
          refine wpAny_ready (rs := [0, 2]) (by kernel_rfl) (by simp) ?_
          refine AllReady.cons rfl (fun K hK => ?_) ?_
          · go_simp
            refine hK _ _ ?_
            clear hK K
            refine wpAny_ready (rs := [2]) (by kernel_rfl) (by simp) ?_
            refine AllReady.cons rfl (fun K hK => ?_) ?_
            · go_simp
              go_at_call 24
              refine HC.out.mono ?_
              rintro e w5 ⟨t5, rfl⟩
              have bp5 := bpr.out t5 (by omega)
              have bq5 := bqr.out t5 (by omega)
              have hb5 := hbr.trans (t5.toBelow hbr.size (fun b hb he => by omega))
              refine leaves_cons (f := 23) (args := #[.pointer (some ⟨w.heap.size, 0, none⟩), .pointer (some ⟨w.heap.size + 1, 0, none⟩)]) (by simp) (by simp [go_sem]) ?_
              refine (catchG_thrown w.heap.size (w.heap.size + 1) (.slice A' ss.length c') (.int .i64 0) why [] w5 (by omega) bp5 bq5).mono ?_
              rintro e u' w9 ⟨rfl, rfl, g0, g1, t9⟩
              have c0 := g0.cellOf 0 (u := .slice none 0 0) rfl
              have c1 := g1.cellOf 0 (u := .int .i64 why) rfl
              have hb9 := hb5.trans (t9.toBelow hb5.size (fun b hb he => by omega))
              exact ⟨.tuple #[.slice none 0 0, .int .i64 why], by simp [results, Try.results14, go_sem, c0, c1], none, 0, [], rfl, rfl, Nat.le_refl _, Nat.zero_le _, (fun h => absurd h (by simp)), hb9⟩
            exact AllReady.nil
          refine AllReady.cons rfl (fun K hK => ?_) ?_
          · go_simp
            go_at_call 24
            refine HC.out.mono ?_
            rintro e w5 ⟨t5, rfl⟩
            have bp5 := bpr.out t5 (by omega)
            have bq5 := bqr.out t5 (by omega)
            have hb5 := hbr.trans (t5.toBelow hbr.size (fun b hb he => by omega))
            refine leaves_cons (f := 23) (args := #[.pointer (some ⟨w.heap.size, 0, none⟩), .pointer (some ⟨w.heap.size + 1, 0, none⟩)]) (by simp) (by simp [go_sem]) ?_
            refine (catchG_thrown w.heap.size (w.heap.size + 1) (.slice A' ss.length c') (.int .i64 0) why [] w5 (by omega) bp5 bq5).mono ?_
            rintro e u' w9 ⟨rfl, rfl, g0, g1, t9⟩
            have c0 := g0.cellOf 0 (u := .slice none 0 0) rfl
            have c1 := g1.cellOf 0 (u := .int .i64 why) rfl
            have hb9 := hb5.trans (t9.toBelow hb5.size (fun b hb he => by omega))
            exact ⟨.tuple #[.slice none 0 0, .int .i64 why], by simp [results, Try.results14, go_sem, c0, c1], none, 0, [], rfl, rfl, Nat.le_refl _, Nat.zero_le _, (fun h => absurd h (by simp)), hb9⟩
          exact AllReady.nil
        exact AllReady.nil
      | ok y =>
        obtain ⟨q, l2⟩ := y
        rw [hs] at G
        rw [getG_next hs] at hg
        obtain ⟨hq, hql⟩ := stepG_is hol hs
        obtain ⟨hll, hol2⟩ := stepG_less hol hs
        have hoq : Octets q.zs := fun x hx => hol x (by rw [hql]; unfold putQ; simp [hx])
        have hss : ss.length ≤ 1000000 := by simp at hsl; omega
        have hcall : Calls Try.prog 24 #[.pointer (some ⟨w.heap.size + 2, 0, none⟩)] wr.drew (StepTold w.heap.size (w.heap.size + 2) wr (.ok (q, l2))) := G.mono fun e w' ⟨t, h⟩ => ⟨⟨t.os, t.tape, t.output, t.size, t.block⟩, h⟩
        have HC := Lib.hid hcall
        have HG := Lib.hid hg
        have HL := Lib.hid hll
        have HF := Lib.hid (And.intro hf hsl)
        have HRL := Lib.hid hrl
        have HQ := Lib.hid (And.intro hq hoq)
        clear hcall G hs hrl hres k1 k3 ho hol M0 hq hoq hql hg hll hf hsl
        go_wp2_with fail
        first | (go_region_law (first
          | (go_simp; go_at_call 24; refine HC.out.mono ?_; rintro e w5 ⟨t5, A5, c5, rfl, hl5, hm5, own5, rest5⟩; have M5 := M.turned t5 rest5; have r5 := M5.bp.cellOf 0 (u := .slice A' ss.length c') rfl; have st5 := M5.own; have hs5 := M5.below.size; have hlt5 := M5.bp.lt; have r6 := (M5.bp.alloc (.cells #[.int .u8 q.a, .int .i64 q.b, .int .i64 q.x, .slice A5 q.zs.length c5] 28)).cellOf 0 (u := .slice A' ss.length c') rfl)
          | (refine step_append_step (by rfl) _ _ (by rfl) ⟨q.a, q.b, q.x, A5, c5, q.zs⟩ (by exact st5) (by rfl) (by rfl) hss hs5 ?_; intro A6 c6 w6 st6 tu6; have bp6 := M5.bp.out tu6 (st5.ne_block M5.bp (by decide)); have t0 := bp6.cellOf 0 (u := .slice A' ss.length c') rfl; have z0 := bp6.frozen 0))) | fail
        all_goals
          have M9 := M5.added (fine_of HQ.out.1 A5 c5 hl5 hm5 HQ.out.2) (own5.mono M.below.size) tu6 st6
          go_wp2_with fail
          go_roundw
          case rel => exact ⟨l2, f, ss ++ [⟨q.a, q.b, q.x, A5, c5, q.zs⟩], A6, c6, by have := HF.out; have := HL.out; simp at *; omega, by have := HF.out; have := HL.out; simp at *; omega, hol2, by rw [List.map_append]; exact HG.out, M9⟩
          case measure => rw [restLen_of M9.rest, HRL.out]; exact HL.out

theorem get_any (A : Option Addr) (xs : List Int) (c : Nat) (most : Int) (w : World) (hl : xs.length ≤ 999999) (hc : xs.length ≤ c) (hm : c ≤ maxLen) (ho : Octets xs) (hr : Holds w w.heap.size .u8 A xs) :
    Calls Try.prog 14 #[.slice A xs.length c, .int .i64 most] w (GivesP (getA xs most).1 (getA xs most).2 w) := by
  unfold getA
  by_cases h : most < xs.length
  · rw [if_pos h]
    exact get_long A xs c most w h
  · rw [if_neg h]
    exact get_in A xs c most w hl hc hm ho hr h
end Go.Proofs.Ytjcofmeknpgjnaa.Pl
