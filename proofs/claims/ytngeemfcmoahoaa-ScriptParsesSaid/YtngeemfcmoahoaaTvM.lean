/-
  Layer 30, script.Parse: its contract. Conditions: as each theorem names.
-/
import Derived.Test.YtngeemfcmoahoaaTvL
import Derived.Test.YtngeemfcmoahoaaTvJ
import Derived.Deep.RegionHeld3
namespace Go.Proofs.Ytngeemfcmoahoaa.Tv
open Go.ChangeShapes Go.WideShapes Go.ChangeAt Go.RowKit Go.Shelf Go.Proofs.Ytngeemfcmoahoaa.Kit Go.Proofs.Ytngeemfcmoahoaa.Tx Go.Proofs.Ytngeemfcmoahoaa.Ty Go.Proofs.Ytngeemfcmoahoaa.Tz
attribute [local go_sem] Oper.semAt_some

/-- Where the answers lie. -/
structure ResAt (W : World) (b : Nat) (c0 c1 c2 : Int) (vs vi : Value) (v : Int) (va : Value) (n e : Int) : Prop where
  d : Block W b 29 #[.int .i64 c0, .int .i64 c1, .int .i64 c2]
  s : Block W (b + 1) 22 #[vs]
  i : Block W (b + 2) 22 #[vi]
  v : Block W (b + 3) 30 #[.int .u64 v]
  a : Block W (b + 4) 31 #[va]
  n : Block W (b + 5) 3 #[.int .i64 n]
  e : Block W (b + 6) 32 #[.int .i64 e]
theorem ResAt.out {S : Nat → Prop} {W W' : World} {b : Nat} {c0 c1 c2 : Int} {vs vi : Value} {v : Int} {va : Value} {n e : Int} (h : ResAt W b c0 c1 c2 vs vi v va n e) (t : TurnsIn S W W') (hS : ∀ x, S x → x < b ∨ b + 7 ≤ x) : ResAt W' b c0 c1 c2 vs vi v va n e :=
  ⟨h.d.out t (fun hx => by have := hS _ hx; omega), h.s.out t (fun hx => by have := hS _ hx; omega), h.i.out t (fun hx => by have := hS _ hx; omega), h.v.out t (fun hx => by have := hS _ hx; omega), h.a.out t (fun hx => by have := hS _ hx; omega), h.n.out t (fun hx => by have := hS _ hx; omega), h.e.out t (fun hx => by have := hS _ hx; omega)⟩
theorem PAt.rest {S : Nat → Prop} {w w' : World} {B g : Nat} {p : PS} {vs vi va : Value} {es : List (ActV × Value)} (h : PAt w B g p vs vi va es) (t : TurnsIn S w w') (hS : ∀ x, S x → x < B ∧ x ≠ g) : PAt w' B g p vs vi va es :=
  ⟨h.blk.out t (fun hx => (hS _ hx).2 rfl), h.os.out t (fun x hx hs => by have := (h.os.lt x hx).1; have := (hS x hs).1; omega), h.oi.out t (fun x hx hs => by have := (h.oi.lt x hx).1; have := (hS x hs).1; omega), h.oa.out t (fun x hx hs => by have := (h.oa.lt x hx).1; have := (hS x hs).1; omega), h.al, fun y hy => (h.ds y hy).out t (fun x hx hs => by have := ((h.ds y hy).lt x hx).1; have := (hS x hs).1; omega)⟩
def ParseTo (s : ByteArray) (w : World) (e : Ending) (w' : World) : Prop :=
  Below w.heap.size w w' ∧ match parseL (numsOf s) with
  | .error (n, k) => e = .returned (.tuple #[.agg #[.int .i64 0, .int .i64 0, .int .i64 0], .slice none 0 0, .slice none 0 0, .int .u64 0, .slice none 0 0, .int .i64 n, .int .i64 k])
  | .ok p => ∃ vs vi va es, e = .returned (.tuple #[.agg #[.int .i64 p.c0, .int .i64 p.c1, .int .i64 p.c2], vs, vi, .int .u64 p.v, va, .int .i64 0, .int .i64 0]) ∧ Kit.Own w' w.heap.size 5 .u8 vs p.sd ∧ Kit.Own w' w.heap.size 5 .u8 vi p.im ∧ OwnE w' w.heap.size va es ∧ es.map Prod.fst = p.al ∧ ∀ x ∈ es, Kit.Own w' w.heap.size 5 .u8 x.2 x.1.d
/-- What the answers' cells come to. -/
theorem ResAt.told {W : World} {b : Nat} {c0 c1 c2 : Int} {vs vi : Value} {v : Int} {va : Value} {n e : Int} (h : ResAt W b c0 c1 c2 vs vi v va n e) (tmps : Array Value) (h2 : tmps[2]? = some (.pointer (some ⟨b, 0, none⟩))) (h3 : tmps[3]? = some (.pointer (some ⟨b + 1, 0, none⟩))) (h4 : tmps[4]? = some (.pointer (some ⟨b + 2, 0, none⟩))) (h5 : tmps[5]? = some (.pointer (some ⟨b + 3, 0, none⟩))) (h6 : tmps[6]? = some (.pointer (some ⟨b + 4, 0, none⟩))) (h7 : tmps[7]? = some (.pointer (some ⟨b + 5, 0, none⟩))) (h8 : tmps[8]? = some (.pointer (some ⟨b + 6, 0, none⟩))) :
    (results Try.f10 tmps).run Try.prog W = .ok (.tuple #[.agg #[.int .i64 c0, .int .i64 c1, .int .i64 c2], vs, vi, .int .u64 v, va, .int .i64 n, .int .i64 e]) W := by
  have d0 : W.cell? ⟨b, 0, none⟩ = some (.int .i64 c0) := h.d.cell 0
  have d1 : W.cell? ⟨b, 1, none⟩ = some (.int .i64 c1) := h.d.cell 1
  have d2 : W.cell? ⟨b, 2, none⟩ = some (.int .i64 c2) := h.d.cell 2
  have e1 : W.cell? ⟨b + 1, 0, none⟩ = some vs := h.s.cell 0
  have e2 : W.cell? ⟨b + 2, 0, none⟩ = some vi := h.i.cell 0
  have e3 : W.cell? ⟨b + 3, 0, none⟩ = some (.int .u64 v) := h.v.cell 0
  have e4 : W.cell? ⟨b + 4, 0, none⟩ = some va := h.a.cell 0
  have e5 : W.cell? ⟨b + 5, 0, none⟩ = some (.int .i64 n) := h.n.cell 0
  have e6 : W.cell? ⟨b + 6, 0, none⟩ = some (.int .i64 e) := h.e.cell 0
  unfold results
  rw [Try.results10]
  simp [go_sem, h2, h3, h4, h5, h6, h7, h8, d0, d1, d2, e1, e2, e3, e4, e5, e6]

theorem count_nums (s : ByteArray) : (numsOf s).count 10 = Lib.countByte s.data.toList 10 := by
  unfold numsOf Lib.countByte
  rw [List.count, List.count, List.countP_map]
  congr 1
  funext b
  simp only [Function.comp]
  rw [Bool.eq_iff_iff, beq_iff_eq, beq_iff_eq]
  constructor
  · intro h
    apply UInt8.toNat.inj
    exact Int.ofNat.inj h
  · rintro rfl
    rfl
/-- Between two rounds; where a round has said that it is enough. -/
def InP (w : World) (pre : List (List Int × Bool)) (W : World) : Prop :=
  ResAt W w.heap.size 0 0 0 (.slice none 0 0) (.slice none 0 0) 0 (.slice none 0 0) 0 0 ∧ Below w.heap.size w W ∧ ∃ m p vs vi va es, runL pre = .ok (m, p) ∧ PAt W (w.heap.size + 11) (w.heap.size + 7) p vs vi va es
def OutP (s : ByteArray) (w : World) (W : World) : Prop :=
  ∃ n k, runL (linesL (numsOf s)) = .error (n, k) ∧ ResAt W w.heap.size 0 0 0 (.slice none 0 0) (.slice none 0 0) 0 (.slice none 0 0) n k ∧ Below w.heap.size w W
theorem InP.turn {w : World} {pre : List (List Int × Bool)} {A B : World} (h : InP w pre A) {S : Nat → Prop} (t : TurnsIn S A B) (hS : ∀ x, S x → w.heap.size + 8 ≤ x ∧ x ≤ w.heap.size + 10) : InP w pre B := by
  obtain ⟨h1, h2, m, p, vs, vi, va, es, h3, h4⟩ := h
  exact ⟨h1.out t (fun x hx => by have := hS x hx; omega), h2.trans (t.toBelow h2.size (fun x hb hx => by have := hS x hx; omega)), m, p, vs, vi, va, es, h3, h4.rest t (fun x hx => by have := hS x hx; omega)⟩
theorem OutP.turn {s : ByteArray} {w : World} {A B : World} (h : OutP s w A) {S : Nat → Prop} (t : TurnsIn S A B) (hS : ∀ x, S x → w.heap.size + 8 ≤ x ∧ x ≤ w.heap.size + 10) : OutP s w B := by
  obtain ⟨n, k, h1, h2, h3⟩ := h
  exact ⟨n, k, h1, h2.out t (fun x hx => by have := hS x hx; omega), h3.trans (t.toBelow h3.size (fun x hb hx => by have := hS x hx; omega))⟩
theorem stepL_line (m : Nat) (p : PS) (x : List Int × Bool) : stepL (.ok (m, p)) x = match lineR p x.1 x.2 with
    | .error k => .error (m + 1, k)
    | .ok q => .ok (m + 1, q) := by
  obtain ⟨t, b⟩ := x
  unfold lineR
  cases b with
  | false => rfl
  | true =>
    simp only [stepL]
    rw [if_neg (by decide), if_neg (by decide)]
    cases lineL p t <;> rfl
theorem fieldsP_k {ws : List (List Int)} {p : PS} {k : Int} (h : beginP p ws = .error k) : k = 3 ∨ k = 21 := by
  unfold beginP at h
  split at h
  · split at h
    · cases h; exact .inl rfl
    · cases h
  · cases h; exact .inr rfl
theorem lineR_k {p : PS} {t : List Int} {b : Bool} {k : Int} (h : lineR p t b = .error k) : k = 22 ∨ k = 21 ∨ k = 3 := by
  unfold lineR at h
  split at h
  · cases h; exact .inl rfl
  · unfold lineL at h
    split at h
    · cases h
    · split at h
      · rcases fieldsP_k h with h | h
        · exact .inr (.inr h)
        · exact .inr (.inl h)
      · cases ha : actL t with
        | error e =>
          rw [ha] at h
          have h : (Except.error e : Except Int PS) = .error k := h
          cases h
          unfold actL at ha
          split at ha
          · cases ha; exact .inr (.inl rfl)
          · split at ha
            · cases ha; exact .inr (.inr rfl)
            · cases ha
        | ok a => rw [ha] at h; cases h
theorem lineR_al {p q : PS} {t : List Int} {b : Bool} (h : lineR p t b = .ok q) : q.al.length ≤ p.al.length + 1 := by
  unfold lineR at h
  split at h
  · cases h
  · unfold lineL at h
    split at h
    · cases h; omega
    · split at h
      · unfold beginP at h
        split at h
        · split at h
          · cases h
          · cases h; simp
        · cases h
      · cases ha : actL t with
        | error e => rw [ha] at h; cases h
        | ok a =>
          rw [ha] at h
          have h : (Except.ok { p with al := p.al ++ [a] } : Except Int PS) = .ok q := h
          cases h
          simp
theorem runL_al' : ∀ (xs : List (List Int × Bool)) (m : Nat) (q : PS) (n : Nat) (p : PS), xs.foldl stepL (.ok (m, q)) = .ok (n, p) → p.al.length ≤ q.al.length + xs.length
  | [], m, q, n, p, h => by injection h with h; injection h with h1 h2; subst h2; simp
  | x :: xs, m, q, n, p, h => by
    rw [List.foldl_cons, stepL_line] at h
    cases hl : lineR q x.1 x.2 with
    | error k =>
      rw [hl] at h
      have h : xs.foldl stepL (.error (m + 1, k)) = .ok (n, p) := h
      rw [stepL_error] at h
      cases h
    | ok q2 =>
      rw [hl] at h
      have := runL_al' xs (m + 1) q2 n p h
      have := lineR_al hl
      simp
      omega
theorem runL_al {xs : List (List Int × Bool)} {n : Nat} {p : PS} (h : runL xs = .ok (n, p)) : p.al.length ≤ xs.length := by
  have := runL_al' xs 0 zeroP n p h
  have e : zeroP.al.length = 0 := rfl
  omega
theorem ResAt.stored {W : World} {b : Nat} {c0 c1 c2 : Int} {vs vi : Value} {v : Int} {va : Value} {n e : Int} (h : ResAt W b c0 c1 c2 vs vi v va n e) (d0 d1 d2 : Int) (us ui : Value) (u : Int) (ua : Value) (m f : Int) :
    ResAt (((((((((W.setCell ⟨b, 0, none⟩ (.int .i64 d0)).setCell ⟨b, 1, none⟩ (.int .i64 d1)).setCell ⟨b, 2, none⟩ (.int .i64 d2)).setCell ⟨b + 1, 0, none⟩ us).setCell ⟨b + 1 + 1, 0, none⟩ ui).setCell ⟨b + 1 + 1 + 1, 0, none⟩ (.int .u64 u)).setCell ⟨b + 1 + 1 + 1 + 1, 0, none⟩ ua).setCell ⟨b + 1 + 1 + 1 + 1 + 1, 0, none⟩ (.int .i64 m)).setCell ⟨b + 1 + 1 + 1 + 1 + 1 + 1, 0, none⟩ (.int .i64 f)) b d0 d1 d2 us ui u ua m f ∧
    TurnsIn (fun x => b ≤ x ∧ x < b + 7) W (((((((((W.setCell ⟨b, 0, none⟩ (.int .i64 d0)).setCell ⟨b, 1, none⟩ (.int .i64 d1)).setCell ⟨b, 2, none⟩ (.int .i64 d2)).setCell ⟨b + 1, 0, none⟩ us).setCell ⟨b + 1 + 1, 0, none⟩ ui).setCell ⟨b + 1 + 1 + 1, 0, none⟩ (.int .u64 u)).setCell ⟨b + 1 + 1 + 1 + 1, 0, none⟩ ua).setCell ⟨b + 1 + 1 + 1 + 1 + 1, 0, none⟩ (.int .i64 m)).setCell ⟨b + 1 + 1 + 1 + 1 + 1 + 1, 0, none⟩ (.int .i64 f)) := by
  have far : ∀ {W : World} {g : Nat} {t : TypeId} {cs : Array Value} (h : Block W g t cs) (j i : Nat) (x : Value), g ≠ j → Block (W.setCell ⟨j, i, none⟩ x) g t cs := fun h j i x hg => h.far (p := ⟨j, i, none⟩) hg x
  refine ⟨⟨?_, ?_, ?_, ?_, ?_, ?_, ?_⟩, ?_⟩
  · exact far (far (far (far (far (far (((h.d.set_ 0 (.int .i64 d0)).set_ 1 (.int .i64 d1)).set_ 2 (.int .i64 d2)) _ _ _ (by omega)) _ _ _ (by omega)) _ _ _ (by omega)) _ _ _ (by omega)) _ _ _ (by omega)) _ _ _ (by omega)
  · exact far (far (far (far (far ((far (far (far h.s _ 0 _ (by omega)) _ 1 _ (by omega)) _ 2 _ (by omega)).set_ 0 us) _ _ _ (by omega)) _ _ _ (by omega)) _ _ _ (by omega)) _ _ _ (by omega)) _ _ _ (by omega)
  · exact far (far (far (far ((far (far (far (far h.i _ 0 _ (by omega)) _ 1 _ (by omega)) _ 2 _ (by omega)) _ _ _ (by omega)).set_ 0 ui) _ _ _ (by omega)) _ _ _ (by omega)) _ _ _ (by omega)) _ _ _ (by omega)
  · exact far (far (far ((far (far (far (far (far h.v _ 0 _ (by omega)) _ 1 _ (by omega)) _ 2 _ (by omega)) _ _ _ (by omega)) _ _ _ (by omega)).set_ 0 (.int .u64 u)) _ _ _ (by omega)) _ _ _ (by omega)) _ _ _ (by omega)
  · exact far (far ((far (far (far (far (far (far h.a _ 0 _ (by omega)) _ 1 _ (by omega)) _ 2 _ (by omega)) _ _ _ (by omega)) _ _ _ (by omega)) _ _ _ (by omega)).set_ 0 ua) _ _ _ (by omega)) _ _ _ (by omega)
  · exact far ((far (far (far (far (far (far (far h.n _ 0 _ (by omega)) _ 1 _ (by omega)) _ 2 _ (by omega)) _ _ _ (by omega)) _ _ _ (by omega)) _ _ _ (by omega)) _ _ _ (by omega)).set_ 0 (.int .i64 m)) _ _ _ (by omega)
  · exact (far (far (far (far (far (far (far (far h.e _ 0 _ (by omega)) _ 1 _ (by omega)) _ 2 _ (by omega)) _ _ _ (by omega)) _ _ _ (by omega)) _ _ _ (by omega)) _ _ _ (by omega)) _ _ _ (by omega)).set_ 0 (.int .i64 f)
  · have st : ∀ {A : World} (t : TurnsIn (fun x => b ≤ x ∧ x < b + 7) W A) (j i : Nat) (x : Value), b ≤ j ∧ j < b + 7 → TurnsIn (fun x => b ≤ x ∧ x < b + 7) W (A.setCell ⟨j, i, none⟩ x) := fun t j i x hj => t.setCell (p := ⟨j, i, none⟩) (.inl hj) x
    exact st (st (st (st (st (st (st (st (st (TurnsIn.refl _ W) _ _ _ (by omega)) _ _ _ (by omega)) _ _ _ (by omega)) _ _ _ (by omega)) _ _ _ (by omega)) _ _ _ (by omega)) _ _ _ (by omega)) _ _ _ (by omega)) _ _ _ (by omega)
theorem ResAt.mark {W : World} {b D : Nat} {c0 c1 c2 : Int} {vs vi : Value} {v : Int} {va : Value} {n e : Int} (h : ResAt W b c0 c1 c2 vs vi v va n e) (hD : b + 7 ≤ D) : ResAt (W.putObj D (.deferred none)) b c0 c1 c2 vs vi v va n e :=
  h.out (turns_put (S := fun x => x = D) (TurnsIn.refl _ W) rfl (.deferred none)) (fun x hx => by omega)
theorem below_mark {W0 W : World} {B D : Nat} (h : Below B W0 W) (hD : B ≤ D) (hs : B ≤ W.heap.size) : Below B W0 (W.putObj D (.deferred none)) :=
  h.trans ((turns_put (S := fun x => x = D) (TurnsIn.refl _ W) rfl (.deferred none)).toBelow hs (fun x hb hx => by omega))
theorem PAt.mark {W : World} {B g D : Nat} {p : PS} {vs vi va : Value} {es : List (ActV × Value)} (h : PAt W B g p vs vi va es) (hD : D < B ∧ D ≠ g) : PAt (W.putObj D (.deferred none)) B g p vs vi va es :=
  h.rest (turns_put (S := fun x => x = D) (TurnsIn.refl _ W) rfl (.deferred none)) (fun x hx => by subst hx; exact hD)
theorem OwnE.mono {w : World} {B B' : Nat} {v : Value} {es : List (ActV × Value)} (h : OwnE w B v es) (hb : B' ≤ B) : OwnE w B' v es := by
  rcases h.2 with h0 | ⟨g, cap, cur, e, hbg, hg, hr⟩
  · exact ⟨h.1, .inl h0⟩
  · exact ⟨h.1, .inr ⟨g, cap, cur, e, Nat.le_trans hb hbg, hg, hr⟩⟩
theorem ParseTo.yes {s : ByteArray} {w W : World} {p : PS} (h : parseL (numsOf s) = .ok p) (hb : Below w.heap.size w W) {B g : Nat} {vs vi va : Value} {es : List (ActV × Value)} (hP : PAt W B g p vs vi va es) (hB : w.heap.size ≤ B) :
    ParseTo s w (.returned (.tuple #[.agg #[.int .i64 p.c0, .int .i64 p.c1, .int .i64 p.c2], vs, vi, .int .u64 p.v, va, .int .i64 0, .int .i64 0])) W := by
  unfold ParseTo
  rw [h]
  exact ⟨hb, vs, vi, va, es, rfl, hP.os.mono hB, hP.oi.mono hB, hP.oa.mono hB, hP.al, fun x hx => (hP.ds x hx).mono hB⟩
theorem ParseTo.no {s : ByteArray} {w w' : World} {n k : Int} {m : Nat} (hm : n = m) (h : parseL (numsOf s) = .error (m, k)) (hb : Below w.heap.size w w') : ParseTo s w (.returned (.tuple #[.agg #[.int .i64 0, .int .i64 0, .int .i64 0], .slice none 0 0, .slice none 0 0, .int .u64 0, .slice none 0 0, .int .i64 n, .int .i64 k])) w' := by
  unfold ParseTo
  rw [h, hm]
  exact ⟨hb, rfl⟩
/-- The cells at the beginning. -/
theorem res_new (w : World) (n e : Int) : ResAt (((((((w.alloc (.cells #[.int .i64 0, .int .i64 0, .int .i64 0] 29)).alloc (.cells #[.slice none 0 0] 22)).alloc (.cells #[.slice none 0 0] 22)).alloc (.cells #[.int .u64 0] 30)).alloc (.cells #[.slice none 0 0] 31)).alloc (.cells #[.int .i64 n] 3)).alloc (.cells #[.int .i64 e] 32)) w.heap.size 0 0 0 (.slice none 0 0) (.slice none 0 0) 0 (.slice none 0 0) n e := by
  have key : ∀ (W : World) (o : Obj) (t : TypeId) (cs : Array Value), o = .cells cs t → Block (W.alloc o) W.heap.size t cs := fun W o t cs h => by rw [h]; exact Block.new W t cs
  refine ⟨?_, ?_, ?_, ?_, ?_, ?_, ?_⟩
  · exact (((((((Block.new w _ _).alloc _).alloc _).alloc _).alloc _).alloc _).alloc _)
  · have h := Block.new (w.alloc (.cells #[.int .i64 0, .int .i64 0, .int .i64 0] 29)) 22 #[.slice none 0 0]
    simp only [World.size_alloc] at h
    exact ((((h.alloc _).alloc _).alloc _).alloc _).alloc _
  · have h := Block.new ((w.alloc (.cells #[.int .i64 0, .int .i64 0, .int .i64 0] 29)).alloc (.cells #[.slice none 0 0] 22)) 22 #[.slice none 0 0]
    simp only [World.size_alloc] at h
    exact (((h.alloc _).alloc _).alloc _).alloc _
  · have h := Block.new (((w.alloc (.cells #[.int .i64 0, .int .i64 0, .int .i64 0] 29)).alloc (.cells #[.slice none 0 0] 22)).alloc (.cells #[.slice none 0 0] 22)) 30 #[.int .u64 0]
    simp only [World.size_alloc] at h
    exact ((h.alloc _).alloc _).alloc _
  · have h := Block.new ((((w.alloc (.cells #[.int .i64 0, .int .i64 0, .int .i64 0] 29)).alloc (.cells #[.slice none 0 0] 22)).alloc (.cells #[.slice none 0 0] 22)).alloc (.cells #[.int .u64 0] 30)) 31 #[.slice none 0 0]
    simp only [World.size_alloc] at h
    exact (h.alloc _).alloc _
  · have h := Block.new (((((w.alloc (.cells #[.int .i64 0, .int .i64 0, .int .i64 0] 29)).alloc (.cells #[.slice none 0 0] 22)).alloc (.cells #[.slice none 0 0] 22)).alloc (.cells #[.int .u64 0] 30)).alloc (.cells #[.slice none 0 0] 31)) 3 #[.int .i64 n]
    simp only [World.size_alloc] at h
    exact h.alloc _
  · have h := Block.new ((((((w.alloc (.cells #[.int .i64 0, .int .i64 0, .int .i64 0] 29)).alloc (.cells #[.slice none 0 0] 22)).alloc (.cells #[.slice none 0 0] 22)).alloc (.cells #[.int .u64 0] 30)).alloc (.cells #[.slice none 0 0] 31)).alloc (.cells #[.int .i64 n] 3)) 32 #[.int .i64 e]
    simp only [World.size_alloc] at h
    exact h

set_option maxRecDepth 100000 in
set_option maxHeartbeats 12800000 in
theorem parse_any (s : ByteArray) (w : World) (hs : s.size ≤ 1000000) : Calls Try.prog 10 #[.string s] w (ParseTo s w) := by
  have d0 : decide ((1048576 : Int) < (s.size : Int)) = false := decide_eq_false (by omega)
  have d0' : decide (1048576 < s.size) = false := decide_eq_false (by omega)
  have GC := Lib.hid (fun W => count_any s 10 W)
  have GL := Lib.hid (fun W => lines_any s W)
  obtain ⟨W7, hW7⟩ : ∃ W7, (((((((w.alloc (.cells #[.int .i64 0, .int .i64 0, .int .i64 0] 29)).alloc (.cells #[.slice none 0 0] 22)).alloc (.cells #[.slice none 0 0] 22)).alloc (.cells #[.int .u64 0] 30)).alloc (.cells #[.slice none 0 0] 31)).alloc (.cells #[.int .i64 0] 3)).alloc (.cells #[.int .i64 0] 32)) = W7 := ⟨_, rfl⟩
  have R7 := Lib.hid (show ResAt W7 w.heap.size 0 0 0 (.slice none 0 0) (.slice none 0 0) 0 (.slice none 0 0) 0 0 by rw [← hW7]; exact res_new w 0 0)
  have S7 : W7.heap.size = w.heap.size + 7 := by rw [← hW7]; simp
  have B7 := Lib.hid (show Below w.heap.size w W7 by rw [← hW7]; exact TurnsIn.toBelow (S := fun _ => False) (((((((((TurnsIn.refl _ w).alloc _).alloc _).alloc _).alloc _).alloc _).alloc _).alloc _)) (Nat.le_refl _) (fun _ _ h => h))
  have HW7 := Lib.hid hW7
  have HS7 := Lib.hid S7
  clear hW7 S7
  by_cases hc : 1000 < Lib.countByte s.data.toList 10
  · have d1 : decide ((1000 : Int) < (Lib.countByte s.data.toList 10 : Int)) = true := decide_eq_true (by omega)
    have d1' : decide (1000 < Lib.countByte s.data.toList 10) = true := decide_eq_true hc
    have HP := Lib.hid (show parseL (numsOf s) = .error (0, 4) by unfold parseL; rw [if_pos (.inr (by rw [count_nums]; exact hc))])
    clear hc
    refine (callsIn_wide (n := 4)).1 ?_
    refine callsIn_of_wp_marks Try.func10 rfl trivial ?_ rfl
    simp only [Try.ntmps10, List.size_toArray, List.length_cons, List.length_nil, Nat.reduceAdd, Nat.reduceSub, Array.replicate_succ, Array.replicate_zero, List.push_toArray, List.append_toArray, List.nil_append, List.cons_append]
    gi_wp2_with (refine ⟨trivial, ?_⟩; gi_at_call 18; refine (callsIn_wide.2 (GC.out _)).mono ?_; rintro e w2 ⟨rfl, hw2⟩; have hw2' := hw2.symm; clear hw2; subst hw2')
    have hb9 : Below w.heap.size w (((((((w.alloc (.cells #[.int .i64 0, .int .i64 0, .int .i64 0] 29)).alloc (.cells #[.slice none 0 0] 22)).alloc (.cells #[.slice none 0 0] 22)).alloc (.cells #[.int .u64 0] 30)).alloc (.cells #[.slice none 0 0] 31)).alloc (.cells #[.int .i64 0] 3)).alloc (.cells #[.int .i64 4] 32)) := TurnsIn.toBelow (S := fun _ => False) (((((((((TurnsIn.refl _ w).alloc _).alloc _).alloc _).alloc _).alloc _).alloc _).alloc _)) (Nat.le_refl _) (fun _ _ h => h)
    exact ⟨_, (res_new w 0 4).told _ rfl rfl rfl rfl rfl rfl rfl, ParseTo.no rfl HP.out hb9⟩
  have d1 : decide ((1000 : Int) < (Lib.countByte s.data.toList 10 : Int)) = false := decide_eq_false (by omega)
  have d1' : decide (1000 < Lib.countByte s.data.toList 10) = false := decide_eq_false hc
  have HP := Lib.hid (show parseL (numsOf s) = match runL (linesL (numsOf s)) with
      | .error e => .error e
      | .ok (_, p) => if p.b = true then .ok p else .error (0, 3) by
    unfold parseL
    rw [if_neg (by rw [count_nums, numsOf_length]; omega)]
    rfl)
  clear hc
  refine (callsIn_wide (n := 4)).1 ?_
  refine callsIn_of_wp_marks Try.func10 rfl trivial ?_ rfl
  simp only [Try.ntmps10, List.size_toArray, List.length_cons, List.length_nil, Nat.reduceAdd, Nat.reduceSub, Array.replicate_succ, Array.replicate_zero, List.push_toArray, List.append_toArray, List.nil_append, List.cons_append]
  gi_wp2_with (first
    | (refine ⟨trivial, ?_⟩; gi_at_call 18; refine (callsIn_wide.2 (GC.out _)).mono ?_; rintro e w2 ⟨rfl, hw2⟩; have hw2' := hw2.symm; clear hw2; subst hw2')
    | (refine ⟨trivial, ?_⟩; gi_at_call 19; refine (callsIn_wide.2 (GL.out _)).mono ?_; rintro e w2 ⟨rfl, rfl⟩))
  rw [HW7.out]
  obtain ⟨W9, hW9⟩ : ∃ W9, ((W7.alloc (.cells #[.bool false, .int .i64 0, .int .i64 0, .int .i64 0, .slice none 0 0, .slice none 0 0, .int .u64 0, .slice none 0 0] 56)).alloc (.cells #[.string s] 9)) = W9 := ⟨_, rfl⟩
  have s8 : (W7.alloc (.cells #[.bool false, .int .i64 0, .int .i64 0, .int .i64 0, .slice none 0 0, .slice none 0 0, .int .u64 0, .slice none 0 0] 56)).heap.size = w.heap.size + 8 := by rw [World.size_alloc, HS7.out]
  have S9 : W9.heap.size = w.heap.size + 9 := by rw [← hW9, World.size_alloc, s8]
  have t79 : TurnsIn (fun _ => False) W7 W9 := by rw [← hW9]; exact ((TurnsIn.refl _ W7).alloc _).alloc _
  have x9 : Block W9 (w.heap.size + 8) 9 #[.string s] := by
    rw [← hW9, ← s8]
    exact Block.new _ _ _
  have p9 : Block W9 (w.heap.size + 7) 56 (cellsP false 0 0 0 (.slice none 0 0) (.slice none 0 0) 0 (.slice none 0 0)) := by
    rw [← hW9, ← HS7.out]
    exact (Block.new W7 _ _).alloc _
  have i9 : InP w [] W9 := ⟨R7.out.out t79 (fun _ h => h.elim), B7.out.trans (t79.toBelow B7.out.size (fun _ _ h => h)), 0, zeroP, _, _, _, [], rfl, p9, Own.nil _ _ _ _, Own.nil _ _ _ _, OwnE.nil _ _, rfl, fun x hx => by simp at hx⟩
  have HS9 := Lib.hid S9
  have HI9 := Lib.hid i9
  have HX9 := Lib.hid x9
  first | rw [hW9] | skip
  clear hW9 s8 t79 x9 p9 i9
  refine range_lines (n := 4) (Bx := w.heap.size + 8) (w := W9) (by omega) rfl HX9.out hs (InP w) (OutP s w) (fun pre A B h t => h.turn t (fun x hx => by have := HS9.out; omega)) (fun A B h t => h.turn t (fun x hx => by have := HS9.out; omega)) HI9.out ?round ?done ?stop
  case round =>
    rintro pre x W ⟨hres, hbel, m, p, vs, vi, va, es, hrun, hP⟩ hlt hp
    rw [HS9.out] at hlt ⊢
    have hlen := runL_count hrun
    have hal := runL_al hrun
    have hpl : pre.length + 1 ≤ (linesL (numsOf s)).length := by have := hp.length_le; simpa using this
    have hll := linesL_length (numsOf s)
    rw [numsOf_length] at hll
    have hes : es.length ≤ 1000000 := by
      have := congrArg List.length hP.al
      rw [List.length_map] at this
      omega
    have hmem : x ∈ linesL (numsOf s) := hp.subset (by simp)
    obtain ⟨hm1, hm2⟩ := linesL_mem _ x hmem
    rw [numsOf_length] at hm2
    have hox : Octets x.1 := fun c hc => numsOf_octets s c (hm1 c hc).1
    obtain ⟨sx, hsx⟩ : ∃ sx, strOfNums x.1 = sx := ⟨_, rfl⟩
    have hnx : numsOf sx = x.1 := by rw [← hsx]; exact nums_str hox
    have hsz : sx.size ≤ 1000000 := by rw [← numsOf_length, hnx]; omega
    have HRUN := Lib.hid (show runL (pre ++ [x]) = match lineR p (numsOf sx) x.2 with
        | .error k => .error (m + 1, k)
        | .ok q => .ok (m + 1, q) by rw [runL_snoc, hrun, stepL_line, hnx])
    obtain ⟨rest, hrest⟩ := hp
    have HREST := Lib.hid hrest
    rw [hsx]
    subst hlen
    have HRES := Lib.hid hres
    have HBEL := Lib.hid hbel
    have HPP := Lib.hid hP
    have hl8 : w.heap.size + 11 ≤ W.heap.size := by omega
    have x11 := Block.new W 61 #[.string sx, .bool x.2]
    have hta : TurnsIn (fun _ => False) W (W.alloc (.cells #[.string sx, .bool x.2] 61)) := (TurnsIn.refl _ W).alloc _
    have hsa : (W.alloc (.cells #[.string sx, .bool x.2] 61)).heap.size = W.heap.size + 1 := World.size_alloc _ _
    obtain ⟨Wa, hWa⟩ : ∃ Wa, W.alloc (.cells #[.string sx, .bool x.2] 61) = Wa := ⟨_, rfl⟩
    rw [hWa] at x11 hta hsa
    have HWA := Lib.hid hWa
    have HX11 := Lib.hid x11
    have HTA := Lib.hid hta
    have HSA := Lib.hid hsa
    clear hWa x11 hta hsa hrest hrun hal hpl hll hmem hm1 hm2 hox hsx hnx hres hbel hP
    gi_wp2
    rw [HWA.out]
    refine ⟨HTA.out, fun W2 t2 hL hD => ?_⟩
    have x2 := HX11.out.out t2 (by omega)
    have HL := Lib.hid hL
    have HD := Lib.hid hD
    have y0 : W2.cell? ⟨W.heap.size, 0, none⟩ = some (.string sx) := x2.cell 0
    have y1 : W2.cell? ⟨W.heap.size, 1, none⟩ = some (.bool x.2) := x2.cell 1
    have HX2 := Lib.hid x2
    have HR2 := Lib.hid ((HRES.out.out HTA.out (fun _ h => h.elim)).out t2 (fun y hy => by omega))
    have P2 := Lib.hid ((HPP.out.rest HTA.out (fun _ h => h.elim)).rest t2 (fun y hy => by omega))
    have HB2 := Lib.hid ((HBEL.out.trans (HTA.out.toBelow HBEL.out.size (fun _ _ h => h))).trans (t2.toBelow (B := w.heap.size) (by have := HSA.out; omega) (fun y hy h => by omega)))
    have hs2 : w.heap.size + 11 ≤ W2.heap.size := by have := t2.size; have := HSA.out; omega
    have GLN := Lib.hid (line_any (w.heap.size + 11) (w.heap.size + 7) p vs vi va es sx x.2 W2 hsz hes hs2 P2.out)
    have HT2 := Lib.hid t2
    clear t2 hL hD x2
    cases hlr : lineR p (numsOf sx) x.2 with
    | error k =>
      have hk := lineR_k hlr
      have dk : (k == 0) = false := by rw [beq_eq_false_iff_ne]; omega
      have HER := Lib.hid (show runL (linesL (numsOf s)) = .error (pre.length + 1, k) by
        have h : runL (pre ++ [x]) = .error (pre.length + 1, k) := by rw [HRUN.out, hlr]
        rw [← HREST.out]
        exact runL_error h _)
      have GE := Lib.hid (GLN.out.mono (R' := fun e w' => e = .returned (.int .i64 k) ∧ TurnsIn (fun x => x = w.heap.size + 7 ∨ va.ownBlock = some x) W2 w') (fun e w' h => by
        unfold LineQ at h
        rw [hlr] at h
        exact ⟨h.2, h.1⟩))
      clear hlr hk GLN HRUN HREST
      gi_wp2_with (refine ⟨trivial, ?_⟩; gi_at_call 20; refine (CallsIn.inRound (w.heap.size + 9 + 1) (callsIn_wide.2 GE.out)).mono ?_; rintro e W3 ⟨rfl, ht3⟩; have HT3 := Lib.hid ht3; have HR3 := Lib.hid (HR2.out.out ht3 (fun y hy => by
            rcases hy with hy | hy
            · omega
            · have := (P2.out.oa.lt y hy).1; omega)); have c0 : W3.cell? ⟨w.heap.size, 0, none⟩ = some (.int .i64 0) := HR3.out.d.cell 0; have z0 : W3.frozen? ⟨w.heap.size, 0, none⟩ = false := HR3.out.d.frozen 0; have c1 : W3.cell? ⟨w.heap.size, 1, none⟩ = some (.int .i64 0) := HR3.out.d.cell 1; have z1 : W3.frozen? ⟨w.heap.size, 1, none⟩ = false := HR3.out.d.frozen 1; have c2 : W3.cell? ⟨w.heap.size, 2, none⟩ = some (.int .i64 0) := HR3.out.d.cell 2; have z2 : W3.frozen? ⟨w.heap.size, 2, none⟩ = false := HR3.out.d.frozen 2; have c3 : W3.cell? ⟨w.heap.size + 1, 0, none⟩ = some (.slice none 0 0) := HR3.out.s.cell 0; have z3 : W3.frozen? ⟨w.heap.size + 1, 0, none⟩ = false := HR3.out.s.frozen 0; have c4 : W3.cell? ⟨w.heap.size + 1 + 1, 0, none⟩ = some (.slice none 0 0) := HR3.out.i.cell 0; have z4 : W3.frozen? ⟨w.heap.size + 1 + 1, 0, none⟩ = false := HR3.out.i.frozen 0; have c5 : W3.cell? ⟨w.heap.size + 1 + 1 + 1, 0, none⟩ = some (.int .u64 0) := HR3.out.v.cell 0; have z5 : W3.frozen? ⟨w.heap.size + 1 + 1 + 1, 0, none⟩ = false := HR3.out.v.frozen 0; have c6 : W3.cell? ⟨w.heap.size + 1 + 1 + 1 + 1, 0, none⟩ = some (.slice none 0 0) := HR3.out.a.cell 0; have z6 : W3.frozen? ⟨w.heap.size + 1 + 1 + 1 + 1, 0, none⟩ = false := HR3.out.a.frozen 0; have c7 : W3.cell? ⟨w.heap.size + 1 + 1 + 1 + 1 + 1, 0, none⟩ = some (.int .i64 0) := HR3.out.n.cell 0; have z7 : W3.frozen? ⟨w.heap.size + 1 + 1 + 1 + 1 + 1, 0, none⟩ = false := HR3.out.n.frozen 0; have c8 : W3.cell? ⟨w.heap.size + 1 + 1 + 1 + 1 + 1 + 1, 0, none⟩ = some (.int .i64 0) := HR3.out.e.cell 0; have z8 : W3.frozen? ⟨w.heap.size + 1 + 1 + 1 + 1 + 1 + 1, 0, none⟩ = false := HR3.out.e.frozen 0; clear ht3)
      obtain ⟨R4, t4⟩ := HR3.out.stored 0 0 0 (.slice none 0 0) (.slice none 0 0) 0 (.slice none 0 0) ((pre.length : Int) + 1) k
      have t23 := HT3.out
      have hs23 := t23.size
      have hva := P2.out.oa.lt
      refine ⟨?_, ?_, pre.length + 1, k, HER.out, R4, HB2.out.trans ((t23.toBelow (B := w.heap.size) HB2.out.size (fun y hy h => by
        rcases h with h | h
        · omega
        · have := (hva y h).1; omega)).trans (t4.toBelow (by omega) (fun y hy h => by omega)))⟩
      · exact (t4.block _ (by omega) (by omega)).trans (t23.block _ (by omega) (fun h => by
          rcases h with h | h
          · omega
          · have := (hva _ h).1; omega))
      · exact (t4.block _ (by omega) (by omega)).trans (t23.block _ (by omega) (fun h => by
          rcases h with h | h
          · omega
          · have := (hva _ h).1; omega))
    | ok q =>
      have HOK := Lib.hid (show runL (pre ++ [x]) = .ok (pre.length + 1, q) by rw [HRUN.out, hlr])
      have GE := Lib.hid (GLN.out.mono (R' := fun e w' => e = .returned (.int .i64 0) ∧ TurnsIn (fun x => x = w.heap.size + 7 ∨ va.ownBlock = some x) W2 w' ∧ ∃ vs vi va' es, PAt w' (w.heap.size + 11) (w.heap.size + 7) q vs vi va' es) (fun e w' h => by
        unfold LineQ at h
        rw [hlr] at h
        obtain ⟨h1, h2, vs', vi', va', es', h3, _⟩ := h
        exact ⟨h2, h1, vs', vi', va', es', h3⟩))
      clear hlr GLN HRUN HREST
      gi_wp2_with (refine ⟨trivial, ?_⟩; gi_at_call 20; refine (CallsIn.inRound (w.heap.size + 9 + 1) (callsIn_wide.2 GE.out)).mono ?_; rintro e W3 ⟨rfl, ht3, hp3⟩; have HT3 := Lib.hid ht3; have HP3 := Lib.hid hp3; have HR3 := Lib.hid (HR2.out.out ht3 (fun y hy => by
            rcases hy with hy | hy
            · omega
            · have := (P2.out.oa.lt y hy).1; omega)); clear ht3 hp3)
      have t23 := HT3.out
      have hva := P2.out.oa.lt
      obtain ⟨vs', vi', va', es', h3⟩ := HP3.out
      refine ⟨?_, ?_, ?_, HR3.out, HB2.out.trans (t23.toBelow (B := w.heap.size) HB2.out.size (fun y hy h => by
        rcases h with h | h
        · omega
        · have := (hva y h).1; omega)), pre.length + 1, q, vs', vi', va', es', HOK.out, h3⟩
      · exact t23.block _ (by omega) (fun h => by
          rcases h with h | h
          · omega
          · have := (hva _ h).1; omega)
      · exact t23.block _ (by omega) (fun h => by
          rcases h with h | h
          · omega
          · have := (hva _ h).1; omega)
      · exact t23.block _ (by omega) (fun h => by
          rcases h with h | h
          · omega
          · have := (hva _ h).1; omega)
  case done =>
    rintro W ⟨hres, hbel, m, p, vs, vi, va, es, hrun, hP⟩ hK
    rw [HS9.out] at hK ⊢
    have HRW := Lib.hid hres
    have HBW := Lib.hid hbel
    have HPW := Lib.hid hP
    have HK := Lib.hid hK
    have hKlt := (Array.getElem?_eq_some_iff.1 hK).1
    have c0 : W.cell? ⟨w.heap.size, 0, none⟩ = some (.int .i64 0) := HRW.out.d.cell 0; have z0 : W.frozen? ⟨w.heap.size, 0, none⟩ = false := HRW.out.d.frozen 0; have c1 : W.cell? ⟨w.heap.size, 1, none⟩ = some (.int .i64 0) := HRW.out.d.cell 1; have z1 : W.frozen? ⟨w.heap.size, 1, none⟩ = false := HRW.out.d.frozen 1; have c2 : W.cell? ⟨w.heap.size, 2, none⟩ = some (.int .i64 0) := HRW.out.d.cell 2; have z2 : W.frozen? ⟨w.heap.size, 2, none⟩ = false := HRW.out.d.frozen 2; have c3 : W.cell? ⟨w.heap.size + 1, 0, none⟩ = some (.slice none 0 0) := HRW.out.s.cell 0; have z3 : W.frozen? ⟨w.heap.size + 1, 0, none⟩ = false := HRW.out.s.frozen 0; have c4 : W.cell? ⟨w.heap.size + 1 + 1, 0, none⟩ = some (.slice none 0 0) := HRW.out.i.cell 0; have z4 : W.frozen? ⟨w.heap.size + 1 + 1, 0, none⟩ = false := HRW.out.i.frozen 0; have c5 : W.cell? ⟨w.heap.size + 1 + 1 + 1, 0, none⟩ = some (.int .u64 0) := HRW.out.v.cell 0; have z5 : W.frozen? ⟨w.heap.size + 1 + 1 + 1, 0, none⟩ = false := HRW.out.v.frozen 0; have c6 : W.cell? ⟨w.heap.size + 1 + 1 + 1 + 1, 0, none⟩ = some (.slice none 0 0) := HRW.out.a.cell 0; have z6 : W.frozen? ⟨w.heap.size + 1 + 1 + 1 + 1, 0, none⟩ = false := HRW.out.a.frozen 0; have c7 : W.cell? ⟨w.heap.size + 1 + 1 + 1 + 1 + 1, 0, none⟩ = some (.int .i64 0) := HRW.out.n.cell 0; have z7 : W.frozen? ⟨w.heap.size + 1 + 1 + 1 + 1 + 1, 0, none⟩ = false := HRW.out.n.frozen 0; have c8 : W.cell? ⟨w.heap.size + 1 + 1 + 1 + 1 + 1 + 1, 0, none⟩ = some (.int .i64 0) := HRW.out.e.cell 0; have z8 : W.frozen? ⟨w.heap.size + 1 + 1 + 1 + 1 + 1 + 1, 0, none⟩ = false := HRW.out.e.frozen 0
    have pb : W.cell? ⟨w.heap.size + 1 + 1 + 1 + 1 + 1 + 1 + 1, 0, none⟩ = some (.bool p.b) := hP.blk.cell 0
    cases hb : p.b with
    | false =>
      have HE := Lib.hid (show parseL (numsOf s) = .error (0, 3) by rw [HP.out, hrun]; simp only []; rw [if_neg (by rw [hb]; decide)])
      rw [hb] at pb
      clear hres hbel hP hK hrun hb
      gi_wp2
      obtain ⟨R4, t4⟩ := HRW.out.stored 0 0 0 (.slice none 0 0) (.slice none 0 0) 0 (.slice none 0 0) 0 3
      have hK4 := (t4.block (w.heap.size + 9) hKlt (by omega)).trans HK.out
      refine ⟨by simp, .inl ⟨_, _, rfl, run_takeDeferred hK4, ?_⟩⟩
      have hb4 := HBW.out.trans (t4.toBelow HBW.out.size (fun y hy h => by omega))
      exact ⟨_, (R4.mark (D := w.heap.size + 9) (by omega)).told _ rfl rfl rfl rfl rfl rfl rfl, ParseTo.no rfl HE.out (below_mark hb4 (by omega) hb4.size)⟩
    | true =>
      have HE := Lib.hid (show parseL (numsOf s) = .ok p by rw [HP.out, hrun]; simp only []; rw [if_pos hb])
      rw [hb] at pb
      have q1 : W.cell? ⟨w.heap.size + 1 + 1 + 1 + 1 + 1 + 1 + 1, 1, none⟩ = some (.int .i64 p.c0) := hP.blk.cell 1
      have q2 : W.cell? ⟨w.heap.size + 1 + 1 + 1 + 1 + 1 + 1 + 1, 2, none⟩ = some (.int .i64 p.c1) := hP.blk.cell 2
      have q3 : W.cell? ⟨w.heap.size + 1 + 1 + 1 + 1 + 1 + 1 + 1, 3, none⟩ = some (.int .i64 p.c2) := hP.blk.cell 3
      have q4 : W.cell? ⟨w.heap.size + 1 + 1 + 1 + 1 + 1 + 1 + 1, 4, none⟩ = some vs := hP.blk.cell 4
      have q5 : W.cell? ⟨w.heap.size + 1 + 1 + 1 + 1 + 1 + 1 + 1, 5, none⟩ = some vi := hP.blk.cell 5
      have q6 : W.cell? ⟨w.heap.size + 1 + 1 + 1 + 1 + 1 + 1 + 1, 6, none⟩ = some (.int .u64 p.v) := hP.blk.cell 6
      have q7 : W.cell? ⟨w.heap.size + 1 + 1 + 1 + 1 + 1 + 1 + 1, 7, none⟩ = some va := hP.blk.cell 7
      obtain ⟨A1, n1, c1', hv1⟩ : ∃ A n c, vs = .slice A n c := by obtain ⟨A, c, h, _⟩ := hP.os.opened; exact ⟨A, _, c, h⟩
      obtain ⟨A2, n2, c2', hv2⟩ : ∃ A n c, vi = .slice A n c := by obtain ⟨A, c, h, _⟩ := hP.oi.opened; exact ⟨A, _, c, h⟩
      obtain ⟨A3, n3, c3', hv3⟩ : ∃ A n c, va = .slice A n c := by obtain ⟨A, c, h, _⟩ := hP.oa.opened; exact ⟨A, _, c, h⟩
      subst hv1 hv2 hv3
      have hbb := hb
      clear hres hbel hP hK hrun hb
      gi_wp2
      have HBK := Lib.hid (show Block W (w.heap.size + 7) 56 (cellsP true p.c0 p.c1 p.c2 (.slice A1 n1 c1') (.slice A2 n2 c2') p.v (.slice A3 n3 c3')) by have := HPW.out.blk; rw [hbb] at this; exact this)
      clear q1 q2 q3 q4 q5 q6 q7 pb
      refine wpIn_wide.2 ?_
      refine wp_mono ?_ NoPan.to
      refine wp_region_held_drew (S := (fun W' : World => Block W' (w.heap.size + 7) 56 (cellsP true p.c0 p.c1 p.c2 (.slice A1 n1 c1') (.slice A2 n2 c2') p.v (.slice A3 n3 c3')))) (by kernel_rfl) (by exact HBK.out) (fun hS => ?_)
      refine wpAnyH_take (i := 0) (oi := ⟨some 37, _, _, _, _, _⟩) (v := .pointer (some ⟨w.heap.size + 1 + 1 + 1 + 1 + 1 + 1 + 1, 1, none⟩)) rfl (by kernel_rfl) (by kernel_rfl) (by kernel_rfl) (fun _ _ _ h => h) (Or.inl ⟨by rfl, fun W hW => by go_simp⟩) hS ?_
      try simp only [Act.put, List.setIfInBounds_toArray, List.set_cons_zero, List.set_cons_succ]
      refine wpAnyH_take (i := 2) (oi := ⟨some 39, _, _, _, _, _⟩) (v := .pointer (some ⟨w.heap.size + 1 + 1 + 1 + 1 + 1 + 1 + 1, 4, none⟩)) rfl (by kernel_rfl) (by kernel_rfl) (by kernel_rfl) (fun _ _ _ h => h) (Or.inl ⟨by rfl, fun W hW => by go_simp⟩) hS ?_
      try simp only [Act.put, List.setIfInBounds_toArray, List.set_cons_zero, List.set_cons_succ]
      refine wpAnyH_take (i := 4) (oi := ⟨some 41, _, _, _, _, _⟩) (v := .pointer (some ⟨w.heap.size + 1 + 1 + 1 + 1 + 1 + 1 + 1, 5, none⟩)) rfl (by kernel_rfl) (by kernel_rfl) (by kernel_rfl) (fun _ _ _ h => h) (Or.inl ⟨by rfl, fun W hW => by go_simp⟩) hS ?_
      try simp only [Act.put, List.setIfInBounds_toArray, List.set_cons_zero, List.set_cons_succ]
      refine wpAnyH_take (i := 6) (oi := ⟨some 43, _, _, _, _, _⟩) (v := .pointer (some ⟨w.heap.size + 1 + 1 + 1 + 1 + 1 + 1 + 1, 6, none⟩)) rfl (by kernel_rfl) (by kernel_rfl) (by kernel_rfl) (fun _ _ _ h => h) (Or.inl ⟨by rfl, fun W hW => by go_simp⟩) hS ?_
      try simp only [Act.put, List.setIfInBounds_toArray, List.set_cons_zero, List.set_cons_succ]
      refine wpAnyH_take (i := 8) (oi := ⟨some 45, _, _, _, _, _⟩) (v := .pointer (some ⟨w.heap.size + 1 + 1 + 1 + 1 + 1 + 1 + 1, 7, none⟩)) rfl (by kernel_rfl) (by kernel_rfl) (by kernel_rfl) (fun _ _ _ h => h) (Or.inl ⟨by rfl, fun W hW => by go_simp⟩) hS ?_
      try simp only [Act.put, List.setIfInBounds_toArray, List.set_cons_zero, List.set_cons_succ]
      refine wpAnyH_take (i := 1) (oi := ⟨some 38, _, _, _, _, _⟩) (v := .agg #[.int .i64 p.c0, .int .i64 p.c1, .int .i64 p.c2]) rfl (by kernel_rfl) (by kernel_rfl) (by kernel_rfl) (fun _ _ _ h => h) (Or.inl ⟨by rfl, fun W hW => by have k1 : W.cell? ⟨w.heap.size + 1 + 1 + 1 + 1 + 1 + 1 + 1, 1, none⟩ = some (.int .i64 p.c0) := hW.cell 1; have k2 : W.cell? ⟨w.heap.size + 1 + 1 + 1 + 1 + 1 + 1 + 1, 2, none⟩ = some (.int .i64 p.c1) := hW.cell 2; have k3 : W.cell? ⟨w.heap.size + 1 + 1 + 1 + 1 + 1 + 1 + 1, 3, none⟩ = some (.int .i64 p.c2) := hW.cell 3; go_simp⟩) hS ?_
      try simp only [Act.put, List.setIfInBounds_toArray, List.set_cons_zero, List.set_cons_succ]
      refine wpAnyH_take (i := 3) (oi := ⟨some 40, _, _, _, _, _⟩) (v := .slice A1 n1 c1') rfl (by kernel_rfl) (by kernel_rfl) (by kernel_rfl) (fun _ _ _ h => h) (Or.inl ⟨by rfl, fun W hW => by have k4 : W.cell? ⟨w.heap.size + 1 + 1 + 1 + 1 + 1 + 1 + 1, 4, none⟩ = some (.slice A1 n1 c1') := hW.cell 4; go_simp⟩) hS ?_
      try simp only [Act.put, List.setIfInBounds_toArray, List.set_cons_zero, List.set_cons_succ]
      refine wpAnyH_take (i := 5) (oi := ⟨some 42, _, _, _, _, _⟩) (v := .slice A2 n2 c2') rfl (by kernel_rfl) (by kernel_rfl) (by kernel_rfl) (fun _ _ _ h => h) (Or.inl ⟨by rfl, fun W hW => by have k5 : W.cell? ⟨w.heap.size + 1 + 1 + 1 + 1 + 1 + 1 + 1, 5, none⟩ = some (.slice A2 n2 c2') := hW.cell 5; go_simp⟩) hS ?_
      try simp only [Act.put, List.setIfInBounds_toArray, List.set_cons_zero, List.set_cons_succ]
      refine wpAnyH_take (i := 7) (oi := ⟨some 44, _, _, _, _, _⟩) (v := .int .u64 p.v) rfl (by kernel_rfl) (by kernel_rfl) (by kernel_rfl) (fun _ _ _ h => h) (Or.inl ⟨by rfl, fun W hW => by have k6 : W.cell? ⟨w.heap.size + 1 + 1 + 1 + 1 + 1 + 1 + 1, 6, none⟩ = some (.int .u64 p.v) := hW.cell 6; go_simp⟩) hS ?_
      try simp only [Act.put, List.setIfInBounds_toArray, List.set_cons_zero, List.set_cons_succ]
      refine wpAnyH_take (i := 9) (oi := ⟨some 46, _, _, _, _, _⟩) (v := .slice A3 n3 c3') rfl (by kernel_rfl) (by kernel_rfl) (by kernel_rfl) (fun _ _ _ h => h) (Or.inl ⟨by rfl, fun W hW => by have k7 : W.cell? ⟨w.heap.size + 1 + 1 + 1 + 1 + 1 + 1 + 1, 7, none⟩ = some (.slice A3 n3 c3') := hW.cell 7; go_simp⟩) hS ?_
      try simp only [Act.put, List.setIfInBounds_toArray, List.set_cons_zero, List.set_cons_succ]
      refine wpAnyH_ready (rs := [10]) (by kernel_rfl) (by simp) ?_
      refine AllReadyH.cons rfl (fun K hK => ?_) AllReadyH.nil
      go_simp
      have hB10 := (Block.far (Block.far (Block.far HBK.out (p := ⟨w.heap.size, 0, none⟩) (by simp <;> omega) (.int .i64 p.c0)) (p := ⟨w.heap.size, 1, none⟩) (by simp <;> omega) (.int .i64 p.c1)) (p := ⟨w.heap.size, 2, none⟩) (by simp <;> omega) (.int .i64 p.c2))
      refine hK.out _ _ (by exact hB10.drewN 1) (fun hS => ?_)
      clear hK K
      try simp only [Act.put, List.setIfInBounds_toArray, List.set_cons_zero, List.set_cons_succ]
      refine wpAnyH_ready (rs := [11]) (by kernel_rfl) (by simp) ?_
      refine AllReadyH.cons rfl (fun K hK => ?_) AllReadyH.nil
      go_simp
      have hB11 := (Block.far hB10 (p := ⟨w.heap.size + 1, 0, none⟩) (by simp <;> omega) (.slice A1 n1 c1'))
      refine hK.out _ _ (by exact hB11.drewN 1) (fun hS => ?_)
      clear hK K
      try simp only [Act.put, List.setIfInBounds_toArray, List.set_cons_zero, List.set_cons_succ]
      refine wpAnyH_ready (rs := [12]) (by kernel_rfl) (by simp) ?_
      refine AllReadyH.cons rfl (fun K hK => ?_) AllReadyH.nil
      go_simp
      have hB12 := (Block.far hB11 (p := ⟨w.heap.size + 1 + 1, 0, none⟩) (by simp <;> omega) (.slice A2 n2 c2'))
      refine hK.out _ _ (by exact hB12.drewN 1) (fun hS => ?_)
      clear hK K
      try simp only [Act.put, List.setIfInBounds_toArray, List.set_cons_zero, List.set_cons_succ]
      refine wpAnyH_ready (rs := [13]) (by kernel_rfl) (by simp) ?_
      refine AllReadyH.cons rfl (fun K hK => ?_) AllReadyH.nil
      go_simp
      have hB13 := (Block.far hB12 (p := ⟨w.heap.size + 1 + 1 + 1, 0, none⟩) (by simp <;> omega) (.int .u64 p.v))
      refine hK.out _ _ (by exact hB13.drewN 1) (fun hS => ?_)
      clear hK K
      try simp only [Act.put, List.setIfInBounds_toArray, List.set_cons_zero, List.set_cons_succ]
      refine wpAnyH_ready (rs := [14]) (by kernel_rfl) (by simp) ?_
      refine AllReadyH.cons rfl (fun K hK => ?_) AllReadyH.nil
      go_simp
      have hB14 := (Block.far hB13 (p := ⟨w.heap.size + 1 + 1 + 1 + 1, 0, none⟩) (by simp <;> omega) (.slice A3 n3 c3'))
      refine hK.out _ _ (by exact hB14.drewN 1) (fun hS => ?_)
      clear hK K
      try simp only [Act.put, List.setIfInBounds_toArray, List.set_cons_zero, List.set_cons_succ]
      refine wpAnyH_ready (rs := [15]) (by kernel_rfl) (by simp) ?_
      refine AllReadyH.cons rfl (fun K hK => ?_) AllReadyH.nil
      go_simp
      have hB15 := (Block.far hB14 (p := ⟨w.heap.size + 1 + 1 + 1 + 1 + 1, 0, none⟩) (by simp <;> omega) (.int .i64 0))
      refine hK.out _ _ (by exact hB15.drewN 1) (fun hS => ?_)
      clear hK K
      try simp only [Act.put, List.setIfInBounds_toArray, List.set_cons_zero, List.set_cons_succ]
      refine wpAnyH_ready (rs := [16]) (by kernel_rfl) (by simp) ?_
      refine AllReadyH.cons rfl (fun K hK => ?_) AllReadyH.nil
      go_simp
      have hB16 := (Block.far hB15 (p := ⟨w.heap.size + 1 + 1 + 1 + 1 + 1 + 1, 0, none⟩) (by simp <;> omega) (.int .i64 0))
      refine hK.out _ _ (by exact hB16.drewN 1) (fun hS => ?_)
      clear hK K
      try simp only [Act.put, List.setIfInBounds_toArray, List.set_cons_zero, List.set_cons_succ]
      refine wpAnyH_done (by kernel_rfl) ?_ _
      unfold NoPan
      gi_wp2
      obtain ⟨R4, t4⟩ := HRW.out.stored p.c0 p.c1 p.c2 (.slice A1 n1 c1') (.slice A2 n2 c2') p.v (.slice A3 n3 c3') 0 0
      have t5 := t4.drewN 1
      have hK4 := (t5.block (w.heap.size + 9) hKlt (by omega)).trans HK.out
      have b5 := HBW.out.trans (t5.toBelow HBW.out.size (fun y hy h => by omega))
      have P5 := HPW.out.rest t5 (fun x hx => by omega)
      have R5 := R4.out ((TurnsIn.refl (fun _ => False) _).drewN 1) (fun _ h => h.elim)
      refine ⟨by simp, .inl ⟨_, _, rfl, run_takeDeferred hK4, ?_⟩⟩
      exact ⟨_, (R5.mark (D := w.heap.size + 9) (by omega)).told _ rfl rfl rfl rfl rfl rfl rfl, ParseTo.yes HE.out (below_mark b5 (by omega) b5.size) (P5.mark (D := w.heap.size + 9) (by omega)) (by omega)⟩
  case stop =>
    rintro W ⟨n, k, hrun, hres, hbel⟩ hK
    rw [HS9.out] at hK ⊢
    have HE := Lib.hid (show parseL (numsOf s) = .error (n, k) by rw [HP.out, hrun])
    have hKlt := (Array.getElem?_eq_some_iff.1 hK).1
    have HK := Lib.hid hK
    have HRW := Lib.hid hres
    have HBW := Lib.hid hbel
    clear hres hbel hK
    gi_wp2
    refine ⟨by simp, .inl ⟨_, _, rfl, run_takeDeferred HK.out, ?_⟩⟩
    exact ⟨_, (HRW.out.mark (by omega)).told _ rfl rfl rfl rfl rfl rfl rfl, ParseTo.no rfl HE.out (below_mark HBW.out (by omega) HBW.out.size)⟩
end Go.Proofs.Ytngeemfcmoahoaa.Tv
