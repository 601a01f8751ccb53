/-
  Layer 30, a range over a text's lines, whose iterator keeps what is left in a variable of its own: a law for it. Conditions: as each theorem names.
-/
import Derived.Test.YtngeemfcmoahoaaTvK
namespace Go.Proofs.Ytngeemfcmoahoaa.Tv
open Go.ChangeShapes Go.WideShapes Go.ChangeAt Go.RowKit Go.Shelf Go.Proofs.Ytngeemfcmoahoaa.Kit Go.Proofs.Ytngeemfcmoahoaa.Tx Go.Proofs.Ytngeemfcmoahoaa.Ty
attribute [local go_sem] Oper.semAt_some

theorem lines_any (s : ByteArray) (w : World) : Calls Try.prog 19 #[.string s] w fun e w' => e = .returned (.func (.func 27) #[] #[.pointer (some ⟨w.heap.size, 0, none⟩)]) ∧ w' = w.alloc (.cells #[.string s] 9) := by
  have hmf : ∀ (fn : Fn) (first cap : Array Value) (w : World), (Instr.makeFunc fn first cap).run Try.prog w = .ok (.func fn first cap) w := fun _ _ _ _ => rfl
  go_enter Try.func19, Try.ntmps19
  go_wp2_with fail
  go_ret
  exact ⟨rfl, rfl⟩
theorem turns_put {S : Nat → Prop} {w w' : World} {l : Nat} (h : TurnsIn S w w') (hl : S l) (o : Obj) : TurnsIn S w (w'.putObj l o) :=
  h.trans (.ofGrown (grownBy_putObj' w' l o) fun b e => by cases e; exact hl)
/-- A round has ended, and another one may follow; none does. -/
structure RoundN (D Bx : Nat) (I : List (List Int × Bool) → World → Prop) (xs : List (List Int × Bool)) (W W' : World) : Prop where
  l : W'.heap[D + 1]? = W.heap[D + 1]?
  d : W'.heap[D]? = W.heap[D]?
  b : W'.heap[Bx]? = W.heap[Bx]?
  i : I xs W'
structure RoundR (D : Nat) (Ix : World → Prop) (W W' : World) : Prop where
  l : W'.heap[D + 1]? = W.heap[D + 1]?
  d : W'.heap[D]? = W.heap[D]?
  i : Ix W'
/-- How a round of the body may end. -/
def bodyR (D : Nat) (Bx : Nat) (I : List (List Int × Bool) → World → Prop) (Ix : World → Prop) (xs : List (List Int × Bool)) (W : World) : Exit → Act → World → Prop
  | .normal, _, W' => RoundN D Bx I xs W W'
  | .ret, _, W' => RoundR D Ix W W'
  | _, _, _ => False

theorem range_lines {n : Nat} {g : Operand} {p0 p1 : Tmp} {assign body : Code} {Q : Exit → Act → World → Prop} {a : Act} {w : World} {Bx : Nat} {s : ByteArray}
    (hn : 2 ≤ n) (hg : a.eval g = .func (.func 27) #[] #[.pointer (some ⟨Bx, 0, none⟩)]) (hB : Block w Bx 9 #[.string s]) (hs : s.size ≤ 1000000)
    (I : List (List Int × Bool) → World → Prop) (Ix : World → Prop)
    (hI : ∀ pre A B, I pre A → TurnsIn (fun b => b = Bx ∨ b = w.heap.size ∨ b = w.heap.size + 1) A B → I pre B)
    (hX : ∀ A B, Ix A → TurnsIn (fun b => b = Bx ∨ b = w.heap.size ∨ b = w.heap.size + 1) A B → Ix B) (h0 : I [] w)
    (hround : ∀ pre x W, I pre W → w.heap.size + 1 < W.heap.size → (pre ++ [x]) <+: linesL (numsOf s) →
      assign.wpIn (Fence.wide.inRound (w.heap.size + 1)) (n - 1 - 1) Try.prog (Exit.then (fun a₁ w₁ => TurnsIn (fun _ => False) W w₁ ∧ ∀ W2, TurnsIn (fun b => b = w.heap.size + 1) w₁ W2 → (∃ o, W2.heap[w.heap.size + 1]? = some o ∧ o.isCells = false) → (∃ o, W2.heap[w.heap.size]? = some o ∧ o.isCells = false) →
        body.wpIn (Fence.wide.inRound (w.heap.size + 1)) (n - 1 - 1) Try.prog (bodyR w.heap.size Bx I Ix (pre ++ [x]) W2) a₁ W2) (fun _ _ _ => False))
        { tmps := (a.tmps.setIfInBounds p0 (.int .i64 ((pre.length : Int) + 1))).setIfInBounds p1 (.agg #[.string (strOfNums x.1), .bool x.2]), defers := [] } W)
    (hdone : ∀ W, I (linesL (numsOf s)) W → W.heap[w.heap.size]? = some (.deferred (some [])) → Q .normal { a with defers := { target := .collected w.heap.size, args := #[] } :: a.defers } W)
    (hstop : ∀ W, Ix W → W.heap[w.heap.size]? = some (.deferred (some [])) → Code.ret.wpIn Fence.wide n Try.prog Q { a with defers := { target := .collected w.heap.size, args := #[] } :: a.defers } W) :
    (Code.rangeFunc g #[p0, p1] assign body).wpIn Fence.wide n Try.prog Q a w := by
  have hBl := hB.lt
  refine wpIn_rangeFunc fun fn hfn => ?_
  -- the loop's record
  obtain ⟨rc, hrc⟩ : ∃ rc : LoopState → Option Code → Loop, rc = fun st pe => { state := st, pending := pe, fn, tmps := a.tmps, params := #[p0, p1], assign, body, defers := w.heap.size } := ⟨_, rfl⟩
  obtain ⟨W1, hW1⟩ : ∃ W1, (w.alloc (.deferred (some []))).alloc (.loop (rc .ready none)) = W1 := ⟨_, rfl⟩
  have tW1 : TurnsIn (fun b => b = Bx ∨ b = w.heap.size ∨ b = w.heap.size + 1) w W1 := by rw [← hW1]; exact ((TurnsIn.refl _ w).alloc _).alloc _
  have hL1 : W1.heap[w.heap.size + 1]? = some (.loop (rc .ready none)) := by
    have := World.alloc_heap_new (w.alloc (.deferred (some []))) (.loop (rc .ready none))
    rw [← hW1]
    rwa [World.size_alloc] at this
  have hD1 : W1.heap[w.heap.size]? = some (.deferred (some [])) := by
    rw [← hW1]
    exact (Below.heap_alloc _ _ _ (by simp)).trans (World.alloc_heap_new w _)
  have hB1 : Block W1 Bx 9 #[.string s] := by rw [← hW1]; exact (hB.alloc _).alloc _
  refine ⟨w.heap.size + 1, [{ target := .collected w.heap.size, args := #[] }], W1, { target := .fn (.func 27) #[.pointer (some ⟨Bx, 0, none⟩)], args := #[.func (.yield (w.heap.size + 1)) #[] #[]] }, W1, 27,
    #[.func (.yield (w.heap.size + 1)) #[] #[]] ++ #[.pointer (some ⟨Bx, 0, none⟩)], W1, ?_, ?_, fun _ _ => trivial, ?_, fun _ => by omega, ?_⟩
  · rw [← hW1, hrc]
    exact run_enterLoop_outer _ _ _ _ _
  · simp only [resolve, hg]
    simp [go_sem]
  · simp [invoke, go_sem]
  have hne : Bx ≠ w.heap.size + 1 ∧ Bx ≠ w.heap.size := ⟨by omega, by omega⟩
  refine (lines1_in (n - 1) (by omega) (w.heap.size + 1) Bx s
    (fun pre W => I pre W ∧ W.heap[w.heap.size + 1]? = some (.loop (rc .ready none)) ∧ W.heap[w.heap.size]? = some (.deferred (some [])))
    (fun _ W => Ix W ∧ W.heap[w.heap.size + 1]? = some (.loop (rc .done (some .ret))) ∧ W.heap[w.heap.size]? = some (.deferred (some [])))
    ?_ ?_ ?_ W1 hB1 ⟨hI _ _ _ h0 tW1, hL1, hD1⟩ hs).mono ?_
  · rintro pre W v ⟨h1, h2, h3⟩
    exact ⟨hI _ _ _ h1 ((TurnsIn.refl _ W).setCell (p := ⟨Bx, 0, none⟩) (.inl (.inl rfl)) v), (Below.heap_setCell W _ v _ (Ne.symm hne.1)).trans h2, (Below.heap_setCell W _ v _ (Ne.symm hne.2)).trans h3⟩
  · rintro pre W k ⟨h1, h2, h3⟩
    exact ⟨hI _ _ _ h1 ((TurnsIn.refl _ W).drewN k), h2, h3⟩
  · rintro pre x W ⟨h1, h2, h3⟩ hp
    have hlt : w.heap.size + 1 < W.heap.size := (Array.getElem?_eq_some_iff.1 h2).1
    have hy := run_yield (P := Try.prog) (args := #[.int .i64 ((pre.length : Int) + 1), .agg #[.string (strOfNums x.1), .bool x.2]]) h2 (by rw [hrc]; rfl)
    rw [hrc] at hy
    refine ⟨fn, _, assign, body, hy, roundIn_of_wpIn trivial ?_⟩
    have hz : ∀ (t : Array Value) (u v : Value), ((#[p0, p1] : Array Tmp).zip #[u, v]).foldl (fun t (x : Tmp × Value) => t.setIfInBounds x.1 x.2) t = (t.setIfInBounds p0 u).setIfInBounds p1 v := fun t u v => by simp
    refine wpIn_mono (Eq.mpr (congrArg (fun t => Code.wpIn _ _ _ _ _ { tmps := t, defers := [] } W) (hz a.tmps _ _)) (hround pre x W h1 hlt hp)) ?_
    rintro e a1 w1 he
    cases e with
    | normal =>
      obtain ⟨t1, hbody⟩ := he
      have hl1 : w1.heap[w.heap.size + 1]? = some (.loop (rc .ready none)) := (t1.block _ hlt (fun h => h)).trans h2
      have hd1 : w1.heap[w.heap.size]? = some (.deferred (some [])) := (t1.block _ (by omega) (fun h => h)).trans h3
      have hlt1 : w.heap.size + 1 < w1.heap.size := (Array.getElem?_eq_some_iff.1 hl1).1
      refine ⟨_, run_beginRound hl1 (by rw [hrc]), ?_⟩
      obtain ⟨W2, hW2⟩ : ∃ W2, w1.putObj (w.heap.size + 1) (.loop { rc .ready none with state := .busy }) = W2 := ⟨_, rfl⟩
      have hl2 : W2.heap[w.heap.size + 1]? = some (.loop { rc .ready none with state := .busy }) := by rw [← hW2]; exact World.putObj_heap_same hlt1
      have hd2 : W2.heap[w.heap.size]? = some (.deferred (some [])) := by rw [← hW2]; exact (World.putObj_heap_other (by omega)).trans hd1
      have t2 : TurnsIn (fun b => b = w.heap.size + 1) w1 W2 := by rw [← hW2]; exact turns_put (TurnsIn.refl (fun b => b = w.heap.size + 1) w1) rfl _
      rw [hW2]
      refine wpIn_mono (hbody W2 t2 ⟨_, hl2, rfl⟩ ⟨_, hd2, rfl⟩) ?_
      have fin : ∀ (jump : Option Code) (W3 : World), W3.heap[w.heap.size + 1]? = W2.heap[w.heap.size + 1]? → W3.heap[w.heap.size]? = W2.heap[w.heap.size]? →
          (Instr.endRound (w.heap.size + 1) jump).run Try.prog W3 = .ok (.bool jump.isNone) (W3.putObj (w.heap.size + 1) (.loop (rc (if jump.isNone then .ready else .done) jump))) ∧
          (W3.putObj (w.heap.size + 1) (.loop (rc (if jump.isNone then .ready else .done) jump))).heap[w.heap.size + 1]? = some (.loop (rc (if jump.isNone then .ready else .done) jump)) ∧
          (W3.putObj (w.heap.size + 1) (.loop (rc (if jump.isNone then .ready else .done) jump))).heap[w.heap.size]? = some (.deferred (some [])) := fun jump W3 k1 k2 => by
        have hl3 := k1.trans hl2
        have hr := run_endRound (P := Try.prog) jump hl3
        refine ⟨by rw [hrc] at hr ⊢; exact hr, World.putObj_heap_same (Array.getElem?_eq_some_iff.1 hl3).1, (World.putObj_heap_other (by omega)).trans (k2.trans hd2)⟩
      rintro e a3 W3 hb3
      cases e with
      | normal =>
        obtain ⟨k1, k2, k3, k4⟩ := hb3
        obtain ⟨hr, hl4, hd4⟩ := fin none W3 k1 k2
        refine ⟨_, _, hr, .inl ⟨rfl, ⟨hI _ _ _ k4 (turns_put (TurnsIn.refl _ W3) (.inr (.inr rfl)) _), hl4, hd4⟩, ?_⟩⟩
        rw [World.putObj_heap_other hne.1, k3, t2.block Bx (by have := t1.size; have := hBl; omega) hne.1, t1.block Bx (by omega) (fun h => h)]
      | ret =>
        obtain ⟨k1, k2, k4⟩ := hb3
        obtain ⟨hr, hl4, hd4⟩ := fin (some .ret) W3 k1 k2
        exact ⟨_, _, hr, .inr ⟨rfl, hX _ _ k4 (turns_put (TurnsIn.refl _ W3) (.inr (.inr rfl)) _), hl4, hd4⟩⟩
      | exit id => exact hb3.elim
      | goto t => exact hb3.elim
      | panic ch => exact hb3.elim
      | outgrown => exact hb3.elim
    | ret => exact he.elim
    | exit id => exact he.elim
    | goto t => exact he.elim
    | panic ch => exact he.elim
    | outgrown => exact he.elim
  · rintro e W2 ⟨⟨v, rfl⟩, ⟨h1, h2, h3⟩ | ⟨pre, h1, h2, h3⟩⟩
    · have hr := run_endLoop (P := Try.prog) h2 (by rw [hrc]; simp)
      refine ⟨none, _, by rw [hrc] at hr; exact hr, hdone _ (hI _ _ _ h1 (turns_put (TurnsIn.refl _ W2) (.inr (.inr rfl)) _)) ((World.putObj_heap_other (by omega)).trans h3)⟩
    · have hr := run_endLoop (P := Try.prog) h2 (by rw [hrc]; simp)
      refine ⟨some .ret, _, by rw [hrc] at hr; exact hr, hstop _ (hX _ _ h1 (turns_put (TurnsIn.refl _ W2) (.inr (.inr rfl)) _)) ((World.putObj_heap_other (by omega)).trans h3)⟩
end Go.Proofs.Ytngeemfcmoahoaa.Tv
