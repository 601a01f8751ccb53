/-
  ScriptParses: the walk: what any text tells, or the line and the error, is the document's.
-/
import Derived.Test.YtngeemfcmoahoaaTvQ
import Derived.Test.YtngeemfcmoahoaaTzE
namespace Go.Proofs.Ytngeemfcmoahoaa.ScriptParses
open Go.Proofs
open Go.ChangeShapes Go.WideShapes Go.ChangeAt Go.RowKit Go.Proofs.Ytngeemfcmoahoaa.Kit Go.Proofs.Ytngeemfcmoahoaa.Tx Go.Proofs.Ytngeemfcmoahoaa.Ty Go.Proofs.Ytngeemfcmoahoaa.Tz Go.Proofs.Ytngeemfcmoahoaa.Tv

theorem parse_k {s : ByteArray} {n : Nat} {k : Int} (h : parseL (numsOf s) = .error (n, k)) : k ≠ 0 := by
  have key : ∀ (xs : List (List Int × Bool)) (r : Except (Nat × Int) (Nat × PS)) (n : Nat) (k : Int), (∀ n k, r = .error (n, k) → k ≠ 0) → xs.foldl stepL r = .error (n, k) → k ≠ 0 := by
    intro xs
    induction xs with
    | nil => intro r n k hr h; exact hr n k h
    | cons x xs ih =>
      intro r n k hr h
      rw [List.foldl_cons] at h
      refine ih _ n k (fun n' k' h' => ?_) h
      cases r with
      | error e =>
        obtain ⟨n2, k2⟩ := e
        have h' : (Except.error (n2, k2) : Except (Nat × Int) (Nat × PS)) = .error (n', k') := h'
        cases h'
        exact hr _ _ rfl
      | ok y =>
        obtain ⟨m, p⟩ := y
        rw [stepL_line] at h'
        cases hl : lineR p x.1 x.2 with
        | error k2 =>
          rw [hl] at h'
          have h' : (Except.error (m + 1, k2) : Except (Nat × Int) (Nat × PS)) = .error (n', k') := h'
          cases h'
          have := lineR_k hl
          omega
        | ok q2 => rw [hl] at h'; cases h'
  unfold parseL at h
  split at h
  · cases h; decide
  · split at h
    next e he =>
      cases h
      exact key _ (.ok (0, zeroP)) n k (fun _ _ h => by cases h) he
    next m p he =>
      split at h
      · cases h
      · cases h; decide
theorem world_v {ws : List (List Int)} {ns : List Int} {ts : List (List Int)} (h : fieldsL ws worldF = some (ns, ts)) : 0 ≤ ns.getD 3 0 ∧ ns.getD 3 0 ≤ 2147483647 := by
  by_cases k : ¬ okN ws 1 ∨ ¬ okN ws 2 ∨ ¬ okN ws 3 ∨ ¬ okN ws 4 ∨ ¬ okT ws 5 ∨ ¬ okT ws 6 ∨ 7 < ws.length
  · rw [world_no k] at h; cases h
  · have h1 : okN ws 1 := Classical.byContradiction fun hh => k (.inl hh)
    have h2 : okN ws 2 := Classical.byContradiction fun hh => k (.inr (.inl hh))
    have h3 : okN ws 3 := Classical.byContradiction fun hh => k (.inr (.inr (.inl hh)))
    have h4 : okN ws 4 := Classical.byContradiction fun hh => k (.inr (.inr (.inr (.inl hh))))
    have h5 : okT ws 5 := Classical.byContradiction fun hh => k (.inr (.inr (.inr (.inr (.inl hh)))))
    have h6 : okT ws 6 := Classical.byContradiction fun hh => k (.inr (.inr (.inr (.inr (.inr (.inl hh))))))
    have h7 : ws.length ≤ 7 := by
      have : ¬ 7 < ws.length := fun hh => k (.inr (.inr (.inr (.inr (.inr (.inr hh))))))
      omega
    rw [world_yes h1 h2 h3 h4 h5 h6 h7] at h
    cases h
    exact numB_le h4.2
theorem line_v {p q : PS} {t : List Int} {b : Bool} (h : lineR p t b = .ok q) (hp : 0 ≤ p.v ∧ p.v ≤ 2147483647) : 0 ≤ q.v ∧ q.v ≤ 2147483647 := by
  unfold lineR at h
  split at h
  · cases h
  · unfold lineL at h
    split at h
    · cases h; exact hp
    · split at h
      · unfold beginP at h
        split at h
        · split at h
          next => cases h
          next ns ts hf =>
            cases h
            exact world_v hf
        · cases h
      · cases ha : actL t with
        | error e => rw [ha] at h; cases h
        | ok a =>
          rw [ha] at h
          have h : (Except.ok { p with al := p.al ++ [a] } : Except Int PS) = .ok q := h
          cases h
          exact hp
theorem run_v : ∀ (xs : List (List Int × Bool)) (m : Nat) (q : PS) (n : Nat) (p : PS), xs.foldl stepL (.ok (m, q)) = .ok (n, p) → (0 ≤ q.v ∧ q.v ≤ 2147483647) → 0 ≤ p.v ∧ p.v ≤ 2147483647
  | [], m, q, n, p, h, hq => by injection h with h; injection h with h1 h2; subst h2; exact hq
  | x :: xs, m, q, n, p, h, hq => by
    rw [List.foldl_cons, stepL_line] at h
    cases hl : lineR q x.1 x.2 with
    | error k =>
      rw [hl] at h
      have h : xs.foldl stepL (.error (m + 1, k)) = .ok (n, p) := h
      rw [stepL_error] at h
      cases h
    | ok q2 =>
      rw [hl] at h
      exact run_v xs (m + 1) q2 n p h (line_v hl hq)
theorem parse_v {cs : List Int} {q : PS} (h : parseL cs = .ok q) : 0 ≤ q.v ∧ q.v ≤ 2147483647 := by
  unfold parseL at h
  split at h
  · cases h
  · split at h
    next => cases h
    next m p he =>
      split at h
      · cases h; exact run_v _ 0 zeroP m _ he ⟨Int.le_refl _, by show (0 : Int) ≤ 2147483647; decide⟩
      · cases h
def RowsAt (w : World) (B : Nat) (v : Value) (es : List (ActV × Value)) : Prop := OwnE w B v es ∧ ∀ x ∈ es, Kit.Own w B 5 .u8 x.2 x.1.d
theorem OwnE.at_ {w : World} {B n c : Nat} {A : Option Addr} {es : List (ActV × Value)} (h : OwnE w B (.slice A n c) es) {i : Nat} (hi : i < es.length) : ∃ g, A = some ⟨g, 0, none⟩ ∧ g < w.heap.size ∧ ∀ j u, (cellsE es[i])[j]? = some u → w.cell? ⟨g, i * 6 + j, none⟩ = some u := by
  obtain ⟨g, e, hg, hc⟩ := h.cellAt hi
  injection e with e1 e2 e3
  exact ⟨g, e1, hg, hc⟩
theorem RowsAt.below {w w' : World} {B : Nat} {v : Value} {es : List (ActV × Value)} (h : RowsAt w B v es) (hb : Below w.heap.size w w') : RowsAt w' B v es :=
  ⟨h.1.out (S := fun _ => False) (.ofNew hb) (fun _ _ h => h), fun x hx => (h.2 x hx).out (S := fun _ => False) (.ofNew hb) (fun _ _ h => h)⟩

set_option maxRecDepth 100000 in
set_option maxHeartbeats 12800000 in
theorem walk (s : ByteArray) (w : World) (hs : s.size ≤ maxLen) : Calls Try.prog 4 #[.string s] w fun e w' => e = .returned (.bool true) ∧ Below w.heap.size w w' := by
  have GA := Lib.hid awake_any
  unfold maxLen at hs
  by_cases h2 : 5000 < s.size
  · have d3 : decide ((5000 : Int) < (s.size : Int)) = true := decide_eq_true (by omega)
    have d4 : decide (5000 < s.size) = true := decide_eq_true h2
    go_enter Try.func4, Try.ntmps4
    go_wp2_with (go_at_call 5; (with_reducible refine (GA.out _).mono ?_); rintro e w1 ⟨rfl, hb1⟩)
    go_ret
    exact ⟨rfl, hb1⟩
  have d3 : decide ((5000 : Int) < (s.size : Int)) = false := decide_eq_false (by omega)
  have d4 : decide (5000 < s.size) = false := decide_eq_false h2
  have GP := Lib.hid (parse_any s w (by omega))
  have GR := Lib.hid (fun W => rparse_any s W (by omega))
  clear hs h2 d4
  cases hq : parseL (numsOf s) with
  | error y =>
    obtain ⟨n, k⟩ := y
    have hk := parse_k hq
    have dk : (k == 0) = false := by rw [beq_eq_false_iff_ne]; exact hk
    have GP2 := Lib.hid (GP.out.mono (R' := fun e w' => e = .returned (.tuple #[.agg #[.int .i64 0, .int .i64 0, .int .i64 0], .slice none 0 0, .slice none 0 0, .int .u64 0, .slice none 0 0, .int .i64 n, .int .i64 k]) ∧ Below w.heap.size w w') (fun e w' h => by
      unfold ParseTo at h
      rw [hq] at h
      exact ⟨h.2, h.1⟩))
    have GR2 := Lib.hid (fun W => (GR.out W).mono (R' := fun e w' => (∃ (p : PS) (As : Option Addr) (ns cs : Nat) (Ai : Option Addr) (ni ci : Nat) (Aa : Option Addr) (na ca : Nat), e = .returned (.agg (sC p (.slice As ns cs) (.slice Ai ni ci) (.slice Aa na ca) n k).toArray)) ∧ Below W.heap.size W w') (fun e w' h => by
      unfold RParseTo at h
      rw [hq] at h
      exact ⟨h.2, h.1⟩))
    unfold sC at GR2
    clear GP GR hq hk
    go_enter Try.func4, Try.ntmps4
    go_wp2_with fail
    refine GP2.out.mono ?_
    rintro e w3 ⟨rfl, hb3⟩
    have HB3 := Lib.hid (hb3.alloc hb3.size (.cells #[.int .i64 0, .int .i64 0, .int .i64 0] 29))
    have z3 := Block.new w3 29 #[.int .i64 0, .int .i64 0, .int .i64 0]
    obtain ⟨W3, hW3⟩ : ∃ W3, w3.alloc (.cells #[.int .i64 0, .int .i64 0, .int .i64 0] 29) = W3 := ⟨_, rfl⟩
    rw [hW3] at HB3 z3
    have HW3 := Lib.hid hW3
    have HZ3 := Lib.hid z3
    clear hb3 hW3 z3
    go_wp2_with fail
    rw [HW3.out]
    refine (GR2.out W3).mono ?_
    rintro e w5 ⟨⟨p, As, ns, cs, Ai, ni, ci, Aa, na, ca, rfl⟩, hb5⟩
    have z5 := (HZ3.out.below hb5 HZ3.out.lt).alloc (.cells #[.int .i64 p.c0, .int .i64 p.c1, .int .i64 p.c2, .slice As ns cs, .slice Ai ni ci, .int .i64 p.v, .slice Aa na ca, .bool p.b, .int .i64 n, .int .i64 k] 36)
    have b5 := (HB3.out.trans (hb5.mono HB3.out.size)).alloc (by have := HB3.out.size; have := hb5.size; omega) (.cells #[.int .i64 p.c0, .int .i64 p.c1, .int .i64 p.c2, .slice As ns cs, .slice Ai ni ci, .int .i64 p.v, .slice Aa na ca, .bool p.b, .int .i64 n, .int .i64 k] 36)
    have y0 := (z5.cell 0).trans (show _ = some (Value.int .i64 0) from rfl)
    have y1 := (z5.cell 1).trans (show _ = some (Value.int .i64 0) from rfl)
    have y2 := (z5.cell 2).trans (show _ = some (Value.int .i64 0) from rfl)
    have HB5 := Lib.hid b5
    clear hb5 z5 b5
    go_wp2_with (go_at_call 5; (with_reducible refine (GA.out _).mono ?_); rintro e w6 ⟨rfl, hb6⟩)
    go_ret
    exact ⟨rfl, HB5.out.trans (hb6.mono HB5.out.size)⟩
  | ok q =>
    have GP2 := Lib.hid (GP.out.mono (R' := fun e w' => (∃ Bs ms ds Bi mi di Ba da es, e = .returned (.tuple #[.agg #[.int .i64 q.c0, .int .i64 q.c1, .int .i64 q.c2], .slice Bs ms ds, .slice Bi mi di, .int .u64 q.v, .slice Ba (List.length es) da, .int .i64 0, .int .i64 0]) ∧ DataV w' (.slice Bs ms ds) q.sd ∧ DataV w' (.slice Bi mi di) q.im ∧ es.map Prod.fst = q.al ∧ RowsAt w' w.heap.size (.slice Ba (List.length es) da) es) ∧ Below w.heap.size w w') (fun e w' h => by
      unfold ParseTo at h
      rw [hq] at h
      obtain ⟨h1, vs, vi, va, es, h2, h3, h4, h5, h6, h7⟩ := h
      have k3 := data_own h3
      have k4 := data_own h4
      obtain ⟨Bs, ds, rfl, _⟩ := data_own h3
      obtain ⟨Bi, di, rfl, _⟩ := data_own h4
      obtain ⟨Ba, da, rfl, _⟩ := h5.opened
      exact ⟨⟨Bs, _, ds, Bi, _, di, Ba, da, es, h2, k3, k4, h6, h5, h7⟩, h1⟩))
    have GR2 := Lib.hid (fun W => (GR.out W).mono (R' := fun e w' => (∃ As ns cs Ai ni ci Aa ca es, e = .returned (.agg (sC q (.slice As ns cs) (.slice Ai ni ci) (.slice Aa (List.length es) ca) 0 0).toArray) ∧ DataV w' (.slice As ns cs) q.sd ∧ DataV w' (.slice Ai ni ci) q.im ∧ es.map Prod.fst = q.al ∧ RowsAt w' W.heap.size (.slice Aa (List.length es) ca) es) ∧ Below W.heap.size W w') (fun e w' h => by
      unfold RParseTo at h
      rw [hq] at h
      obtain ⟨h1, As, ns, cs, Ai, ni, ci, Aa, na, ca, es, h2, h3⟩ := h
      obtain ⟨A9, c9, hv9, _, _⟩ := h3.oa.opened
      injection hv9 with e1 e2 e3
      subst e1 e2 e3
      exact ⟨⟨As, ns, cs, Ai, ni, ci, Aa, ca, es, h2, data_own h3.os, data_own h3.oi, h3.al, h3.oa, h3.ds⟩, h1⟩))
    unfold sC at GR2
    have hqv := parse_v hq
    have hw9 : IntKind.u64.wrap q.v = q.v := by rw [IntKind.wrap_u64]; omega
    clear GP GR hq hqv
    go_enter Try.func4, Try.ntmps4
    go_wp2_with fail
    refine GP2.out.mono ?_
    rintro e w3 ⟨⟨Bs, ms, ds, Bi, mi, di, Ba, da, es1, rfl, s3, i3, m3, r3⟩, hb3⟩
    have HB3 := Lib.hid (hb3.alloc hb3.size (.cells #[.int .i64 q.c0, .int .i64 q.c1, .int .i64 q.c2] 29))
    have hal := (Below.refl w3.heap.size w3).alloc (Nat.le_refl _) (.cells #[.int .i64 q.c0, .int .i64 q.c1, .int .i64 q.c2] 29)
    have z3 := Block.new w3 29 #[.int .i64 q.c0, .int .i64 q.c1, .int .i64 q.c2]
    have s3' := s3.below hal
    have i3' := i3.below hal
    have r3' := r3.below hal
    obtain ⟨W3, hW3⟩ : ∃ W3, w3.alloc (.cells #[.int .i64 q.c0, .int .i64 q.c1, .int .i64 q.c2] 29) = W3 := ⟨_, rfl⟩
    rw [hW3] at HB3 z3 s3' i3' r3'
    have HW3 := Lib.hid hW3
    have HZ3 := Lib.hid z3
    have HS3 := Lib.hid s3'
    have HI3 := Lib.hid i3'
    have HR3 := Lib.hid r3'
    have HM3 := Lib.hid m3
    clear hb3 hW3 z3 hal s3 i3 r3 s3' i3' r3' m3
    go_wp2_with fail
    rw [HW3.out]
    refine (GR2.out W3).mono ?_
    rintro e w5 ⟨⟨As, ns, cs, Ai, ni, ci, Aa, ca, es2, rfl, s5, i5, m5, r5⟩, hb5⟩
    have hal := (Below.refl w5.heap.size w5).alloc (Nat.le_refl _) (.cells #[.int .i64 q.c0, .int .i64 q.c1, .int .i64 q.c2, .slice As ns cs, .slice Ai ni ci, .int .i64 q.v, .slice Aa es2.length ca, .bool q.b, .int .i64 0, .int .i64 0] 36)
    have z5 := (HZ3.out.below hb5 HZ3.out.lt).alloc (.cells #[.int .i64 q.c0, .int .i64 q.c1, .int .i64 q.c2, .slice As ns cs, .slice Ai ni ci, .int .i64 q.v, .slice Aa es2.length ca, .bool q.b, .int .i64 0, .int .i64 0] 36)
    have b5 := (HB3.out.trans (hb5.mono HB3.out.size)).alloc (by have := HB3.out.size; have := hb5.size; omega) (.cells #[.int .i64 q.c0, .int .i64 q.c1, .int .i64 q.c2, .slice As ns cs, .slice Ai ni ci, .int .i64 q.v, .slice Aa es2.length ca, .bool q.b, .int .i64 0, .int .i64 0] 36)
    have d5 := Block.new w5 36 #[.int .i64 q.c0, .int .i64 q.c1, .int .i64 q.c2, .slice As ns cs, .slice Ai ni ci, .int .i64 q.v, .slice Aa es2.length ca, .bool q.b, .int .i64 0, .int .i64 0]
    have s5' := s5.below hal
    have i5' := i5.below hal
    have r5' := r5.below hal
    have s3' := (HS3.out.below hb5).below hal
    have i3' := (HI3.out.below hb5).below hal
    have r3' := (HR3.out.below hb5).below hal
    have hgd : w3.heap.size ≠ w5.heap.size := by have h1 := HZ3.out.lt; have h2 := hb5.size; omega
    have hl : es1.length = es2.length := by
      have h1 := congrArg List.length HM3.out
      have h2 := congrArg List.length m5
      rw [List.length_map] at h1 h2
      omega
    have HMM := Lib.hid (HM3.out.trans m5.symm)
    have HNE := Lib.hid hgd
    go_upto_region 5 with (fail)
    obtain ⟨W6, hW6⟩ : ∃ W6, w5.alloc (.cells #[.int .i64 q.c0, .int .i64 q.c1, .int .i64 q.c2, .slice As ns cs, .slice Ai ni ci, .int .i64 q.v, .slice Aa es2.length ca, .bool q.b, .int .i64 0, .int .i64 0] 36) = W6 := ⟨_, rfl⟩
    rw [hW6] at z5 b5 d5 s5' i5' r5' s3' i3' r3' ⊢
    obtain ⟨A1, c1, e1, h1⟩ := s3'
    injection e1 with e1 e2 e3
    subst e1 e2 e3
    obtain ⟨A2, c2, e1, h2⟩ := i3'
    injection e1 with e1 e2 e3
    subst e1 e2 e3
    obtain ⟨A3, c3, e1, h3⟩ := s5'
    injection e1 with e1 e2 e3
    subst e1 e2 e3
    obtain ⟨A4, c4, e1, h4⟩ := i5'
    injection e1 with e1 e2 e3
    subst e1 e2 e3
    have k1 := conv_bytes Try.underlying22 Try.underlying5 Try.underlying9 W6 _ _ ds _ h1
    have k2 := conv_bytes Try.underlying22 Try.underlying5 Try.underlying9 W6 _ _ di _ h2
    have k3 := conv_bytes Try.underlying22 Try.underlying5 Try.underlying9 W6 _ _ cs _ h3
    have k4 := conv_bytes Try.underlying22 Try.underlying5 Try.underlying9 W6 _ _ ci _ h4
    obtain ⟨sd, hsd⟩ : ∃ sd, strOfNums q.sd = sd := ⟨_, rfl⟩
    obtain ⟨si, hsi⟩ : ∃ si, strOfNums q.im = si := ⟨_, rfl⟩
    obtain ⟨n1, hn1⟩ : ∃ n, q.sd.length = n := ⟨_, rfl⟩
    obtain ⟨n2, hn2⟩ : ∃ n, q.im.length = n := ⟨_, rfl⟩
    rw [hsd] at k1 k3
    rw [hsi] at k2 k4
    rw [hn1] at k1 k3 d5 ⊢
    rw [hn2] at k2 k4 d5 ⊢
    have kb : (sd.toList == sd.toList) = true := beq_self_eq_true _
    have kb2 : (si.toList == si.toList) = true := beq_self_eq_true _
    have y0 : W6.cell? ⟨w3.heap.size, 0, none⟩ = some (.int .i64 q.c0) := z5.cell 0
    have y1 : W6.cell? ⟨w3.heap.size, 1, none⟩ = some (.int .i64 q.c1) := z5.cell 1
    have y2 : W6.cell? ⟨w3.heap.size, 2, none⟩ = some (.int .i64 q.c2) := z5.cell 2
    have x0 : W6.cell? ⟨w5.heap.size, 0, none⟩ = some (.int .i64 q.c0) := d5.cell 0
    have x1 : W6.cell? ⟨w5.heap.size, 1, none⟩ = some (.int .i64 q.c1) := d5.cell 1
    have x2 : W6.cell? ⟨w5.heap.size, 2, none⟩ = some (.int .i64 q.c2) := d5.cell 2
    have x3 : W6.cell? ⟨w5.heap.size, 3, none⟩ = some (.slice As n1 cs) := d5.cell 3
    have x4 : W6.cell? ⟨w5.heap.size, 4, none⟩ = some (.slice Ai n2 ci) := d5.cell 4
    have x5 : W6.cell? ⟨w5.heap.size, 5, none⟩ = some (.int .i64 q.v) := d5.cell 5
    have x6 : W6.cell? ⟨w5.heap.size, 6, none⟩ = some (.slice Aa es2.length ca) := d5.cell 6
    have x7 : W6.cell? ⟨w5.heap.size, 7, none⟩ = some (.bool q.b) := d5.cell 7
    have x8 : W6.cell? ⟨w5.heap.size, 8, none⟩ = some (.int .i64 0) := d5.cell 8
    have x9 : W6.cell? ⟨w5.heap.size, 9, none⟩ = some (.int .i64 0) := d5.cell 9
    have HZ6 := Lib.hid z5
    have HD6 := Lib.hid d5
    have HB6 := Lib.hid b5
    have HR5 := Lib.hid r5'
    have HR6 := Lib.hid r3'
    have HL := Lib.hid hl
    clear z5 d5 b5 r5' r3' hb5 s5 i5 r5 m5 hal h1 h2 h3 h4 hsd hsi hn1 hn2 hW6 hgd hl
    have KK1 := Lib.hid k1
    have KK2 := Lib.hid k2
    have KK3 := Lib.hid k3
    have KK4 := Lib.hid k4
    clear k1 k2 k3 k4
    go_upto_region 9 with (fail)
    go_wp2_with fail
    simp only [KK1.out, Result.andThen]
    go_wp2_with fail
    simp only [KK3.out, Result.andThen]
    go_wp2_with fail
    simp only [KK2.out, Result.andThen]
    go_wp2_with fail
    simp only [KK4.out, Result.andThen]
    go_upto_region 11 with (fail)
    go_wp2_with fail
    clear x0 x1 x2 x3 x4 x5 x6 x7 x8 x9 y0 y1 y2
    go_loopw [11] (fun a wr => ∃ i : Nat, i ≤ es2.length ∧ a = .int .i64 i ∧ Hid (RowsAt wr w.heap.size (.slice Ba es1.length da) es1 ∧ RowsAt wr W3.heap.size (.slice Aa es2.length ca) es2 ∧ Block wr w5.heap.size 36 #[.int .i64 q.c0, .int .i64 q.c1, .int .i64 q.c2, .slice As n1 cs, .slice Ai n2 ci, .int .i64 q.v, .slice Aa es2.length ca, .bool q.b, .int .i64 0, .int .i64 0] ∧ Below w.heap.size w wr)) (fun a _ => es2.length - (intOf a).toNat)
    case atStart => exact ⟨0, Nat.zero_le _, rfl, Lib.hid ⟨HR6.out, HR5.out, HD6.out, HB6.out⟩⟩
    case round =>
      obtain ⟨i, hi, rfl, HM⟩ := hrel
      by_cases hlt : i < es2.length
      · have dj : decide ((i : Int) < (es2.length : Int)) = true := decide_eq_true (by omega)
        have dj2 : decide (i < es2.length) = true := decide_eq_true hlt
        have hlt1 : i < es1.length := by have := HL.out; omega
        have hmx : es2.length ≤ maxLen := by
          obtain ⟨_, _, _, h1, h2⟩ := HM.out.2.1.1.opened
          omega
        unfold maxLen at hmx
        have hwi : IntKind.i64.wrap ((i : Int) + 1) = ((i + 1 : Nat) : Int) := by rw [IntKind.wrap_i64]; omega
        obtain ⟨g1, hA1, hg1, c1⟩ := OwnE.at_ HM.out.1.1 hlt1
        obtain ⟨g2, hA2, hg2, c2⟩ := OwnE.at_ HM.out.2.1.1 hlt
        subst hA1 hA2
        have hfst : es1[i].1 = es2[i].1 := by
          have h1 := HMM.out
          have h2 : (es1.map Prod.fst)[i]? = (es2.map Prod.fst)[i]? := by rw [h1]
          rw [List.getElem?_map, List.getElem?_map, List.getElem?_eq_getElem hlt1, List.getElem?_eq_getElem hlt] at h2
          exact Option.some.inj h2
        have o1 := HM.out.1.2 es1[i] (List.getElem_mem hlt1)
        have o2 := HM.out.2.1.2 es2[i] (List.getElem_mem hlt)
        obtain ⟨⟨a1, u1⟩, hx1⟩ : ∃ x, es1[i] = x := ⟨_, rfl⟩
        obtain ⟨⟨a2, u2⟩, hx2⟩ : ∃ x, es2[i] = x := ⟨_, rfl⟩
        rw [hx1] at c1 o1 hfst
        rw [hx2] at c2 o2 hfst
        have hfst : a1 = a2 := hfst
        subst hfst
        have v1 : DataV wr u1 a1.d := data_own o1
        have v2 : DataV wr u2 a1.d := data_own o2
        clear o1 o2
        have c1 : ∀ (j : Nat) (u : Value), (cellsE (a1, u1))[j]? = some u → wr.cell? ⟨g1, i * 6 + j, none⟩ = some u := c1
        have c2 : ∀ (j : Nat) (u : Value), (cellsE (a1, u2))[j]? = some u → wr.cell? ⟨g2, i * 6 + j, none⟩ = some u := c2
        have HV := Lib.hid (And.intro v1 v2)
        obtain ⟨B1, e1, rfl, _⟩ := v1
        obtain ⟨B2, e2, rfl, _⟩ := v2
        have HSM := Lib.hid (fun W (hW : Below wr.heap.size wr W) => same_eq a1 (.slice B1 a1.d.length e1) (.slice B2 a1.d.length e2) W (HV.out.1.below hW) (HV.out.2.below hW))
        obtain ⟨nd, hnd⟩ : ∃ n, a1.d.length = n := ⟨_, rfl⟩
        rw [hnd] at c1 c2 HSM
        obtain ⟨ka, ma, pa, na, va, dd⟩ := a1
        unfold actV at HSM
        simp only at HSM
        have m0 : wr.cell? ⟨g1, i * 6 + 0, none⟩ = some (.int .u8 ka) := c1 0 _ rfl
        have m1 : wr.cell? ⟨g1, i * 6 + 1, none⟩ = some (.int .u8 ma) := c1 1 _ rfl
        have m2 : wr.cell? ⟨g1, i * 6 + 2, none⟩ = some (.int .i64 pa) := c1 2 _ rfl
        have m3 : wr.cell? ⟨g1, i * 6 + 3, none⟩ = some (.int .i64 na) := c1 3 _ rfl
        have m4 : wr.cell? ⟨g1, i * 6 + 4, none⟩ = some (.int .u64 va) := c1 4 _ rfl
        have m5 : wr.cell? ⟨g1, i * 6 + 5, none⟩ = some (.slice B1 nd e1) := c1 5 _ rfl
        have p0 : wr.cell? ⟨g2, i * 6 + 0, none⟩ = some (.int .u8 ka) := c2 0 _ rfl
        have p1 : wr.cell? ⟨g2, i * 6 + 1, none⟩ = some (.int .u8 ma) := c2 1 _ rfl
        have p2 : wr.cell? ⟨g2, i * 6 + 2, none⟩ = some (.int .i64 pa) := c2 2 _ rfl
        have p3 : wr.cell? ⟨g2, i * 6 + 3, none⟩ = some (.int .i64 na) := c2 3 _ rfl
        have p4 : wr.cell? ⟨g2, i * 6 + 4, none⟩ = some (.int .u64 va) := c2 4 _ rfl
        have p5 : wr.cell? ⟨g2, i * 6 + 5, none⟩ = some (.slice B2 nd e2) := c2 5 _ rfl
        have p6 : wr.cell? ⟨w5.heap.size, 6, none⟩ = some (.slice (some ⟨g2, 0, none⟩) es2.length ca) := HM.out.2.2.1.cell 6
        have hdl := HM.out.2.2.1.lt
        rw [Nat.add_zero] at m0 p0
        clear c1 c2 hx1 hx2 hnd
        go_wp2_with fail
        refine wp_region_held_drew (S := (fun W' : World => W'.heap[g1]? = wr.heap[g1]? ∧ W'.heap[g2]? = wr.heap[g2]? ∧ W'.heap[w5.heap.size]? = wr.heap[w5.heap.size]?)) (by kernel_rfl) ⟨rfl, rfl, rfl⟩ (fun hS => ?_)
        refine wpAnyH_take (i := 0) (oi := ⟨some 107, _, _, _, _, _⟩) (v := .slice (some ⟨g1, 0, none⟩) es2.length da) rfl (by kernel_rfl) (by kernel_rfl) (by kernel_rfl) (fun _ _ _ h => h) (Or.inl ⟨by rfl, fun W hW => by go_simp⟩) hS ?_
        try simp only [Act.put, List.setIfInBounds_toArray, List.set_cons_zero, List.set_cons_succ]
        refine wpAnyH_take (i := 1) (oi := ⟨some 108, _, _, _, _, _⟩) (v := .int .i64 i) rfl (by kernel_rfl) (by kernel_rfl) (by kernel_rfl) (fun _ _ _ h => h) (Or.inl ⟨by rfl, fun W hW => by go_simp⟩) hS ?_
        try simp only [Act.put, List.setIfInBounds_toArray, List.set_cons_zero, List.set_cons_succ]
        refine wpAnyH_take (i := 4) (oi := ⟨some 111, _, _, _, _, _⟩) (v := .pointer (some ⟨w5.heap.size, 6, none⟩)) rfl (by kernel_rfl) (by kernel_rfl) (by kernel_rfl) (fun _ _ _ h => h) (Or.inl ⟨by rfl, fun W hW => by go_simp⟩) hS ?_
        try simp only [Act.put, List.setIfInBounds_toArray, List.set_cons_zero, List.set_cons_succ]
        refine wpAnyH_take (i := 6) (oi := ⟨some 113, _, _, _, _, _⟩) (v := .int .i64 i) rfl (by kernel_rfl) (by kernel_rfl) (by kernel_rfl) (fun _ _ _ h => h) (Or.inl ⟨by rfl, fun W hW => by go_simp⟩) hS ?_
        try simp only [Act.put, List.setIfInBounds_toArray, List.set_cons_zero, List.set_cons_succ]
        refine wpAnyH_take (i := 2) (oi := ⟨some 109, _, _, _, _, _⟩) (v := .pointer (some ⟨g1, i * 6, none⟩)) rfl (by kernel_rfl) (by kernel_rfl) (by kernel_rfl) (fun _ _ _ h => h) (Or.inl ⟨by rfl, fun W hW => by go_simp⟩) hS ?_
        try simp only [Act.put, List.setIfInBounds_toArray, List.set_cons_zero, List.set_cons_succ]
        refine wpAnyH_take (i := 5) (oi := ⟨some 112, _, _, _, _, _⟩) (v := .slice (some ⟨g2, 0, none⟩) es2.length ca) rfl (by kernel_rfl) (by kernel_rfl) (by kernel_rfl) (fun _ _ _ h => h) (Or.inl ⟨by rfl, fun W hW => by have k0 := (World.cell?_of_block (a := ⟨w5.heap.size, 6, none⟩) (w := wr) hW.2.2).trans p6; go_simp⟩) hS ?_
        try simp only [Act.put, List.setIfInBounds_toArray, List.set_cons_zero, List.set_cons_succ]
        refine wpAnyH_take (i := 3) (oi := ⟨some 110, _, _, _, _, _⟩) (v := .agg #[.int .u8 ka, .int .u8 ma, .int .i64 pa, .int .i64 na, .int .u64 va, .slice B1 nd e1]) rfl (by kernel_rfl) (by kernel_rfl) (by kernel_rfl) (fun _ _ _ h => h) (Or.inl ⟨by rfl, fun W hW => by have k0 := (World.cell?_of_block (a := ⟨g1, i * 6, none⟩) (w := wr) hW.1).trans m0; have k1 := (World.cell?_of_block (a := ⟨g1, i * 6 + 1, none⟩) (w := wr) hW.1).trans m1; have k2 := (World.cell?_of_block (a := ⟨g1, i * 6 + 2, none⟩) (w := wr) hW.1).trans m2; have k3 := (World.cell?_of_block (a := ⟨g1, i * 6 + 3, none⟩) (w := wr) hW.1).trans m3; have k4 := (World.cell?_of_block (a := ⟨g1, i * 6 + 4, none⟩) (w := wr) hW.1).trans m4; have k5 := (World.cell?_of_block (a := ⟨g1, i * 6 + 5, none⟩) (w := wr) hW.1).trans m5; go_simp⟩) hS ?_
        try simp only [Act.put, List.setIfInBounds_toArray, List.set_cons_zero, List.set_cons_succ]
        refine wpAnyH_take (i := 7) (oi := ⟨some 114, _, _, _, _, _⟩) (v := .pointer (some ⟨g2, i * 6, none⟩)) rfl (by kernel_rfl) (by kernel_rfl) (by kernel_rfl) (fun _ _ _ h => h) (Or.inl ⟨by rfl, fun W hW => by go_simp⟩) hS ?_
        try simp only [Act.put, List.setIfInBounds_toArray, List.set_cons_zero, List.set_cons_succ]
        refine wpAnyH_take (i := 8) (oi := ⟨some 115, _, _, _, _, _⟩) (v := .agg #[.int .u8 ka, .int .u8 ma, .int .i64 pa, .int .i64 na, .int .u64 va, .slice B2 nd e2]) rfl (by kernel_rfl) (by kernel_rfl) (by kernel_rfl) (fun _ _ _ h => h) (Or.inl ⟨by rfl, fun W hW => by have k0 := (World.cell?_of_block (a := ⟨g2, i * 6, none⟩) (w := wr) hW.2.1).trans p0; have k1 := (World.cell?_of_block (a := ⟨g2, i * 6 + 1, none⟩) (w := wr) hW.2.1).trans p1; have k2 := (World.cell?_of_block (a := ⟨g2, i * 6 + 2, none⟩) (w := wr) hW.2.1).trans p2; have k3 := (World.cell?_of_block (a := ⟨g2, i * 6 + 3, none⟩) (w := wr) hW.2.1).trans p3; have k4 := (World.cell?_of_block (a := ⟨g2, i * 6 + 4, none⟩) (w := wr) hW.2.1).trans p4; have k5 := (World.cell?_of_block (a := ⟨g2, i * 6 + 5, none⟩) (w := wr) hW.2.1).trans p5; go_simp⟩) hS ?_
        try simp only [Act.put, List.setIfInBounds_toArray, List.set_cons_zero, List.set_cons_succ]
        refine wpAnyH_ready (rs := [9]) (by kernel_rfl) (by simp) ?_
        refine AllReadyH.cons rfl (fun K hK => ?_) AllReadyH.nil
        go_simp
        go_at_call 12
        refine (HSM.out _ ((Below.refl _ wr).drew)).mono ?_
        rintro e w8 ⟨rfl, hb8⟩
        have HBS := Lib.hid (show Below wr.heap.size wr w8 from ⟨hb8.os, hb8.tape, hb8.output, hb8.size, hb8.block⟩)
        clear hb8
        refine hK.out _ _ ⟨HBS.out.block g1 hg1, HBS.out.block g2 hg2, HBS.out.block _ hdl⟩ (fun hS => ?_)
        clear hK K
        try simp only [Act.put, List.setIfInBounds_toArray, List.set_cons_zero, List.set_cons_succ]
        refine wpAnyH_take (i := 10) (oi := ⟨some 117, _, _, _, _, _⟩) (v := .bool false) rfl (by kernel_rfl) (by kernel_rfl) (by kernel_rfl) (fun _ _ _ h => h) (Or.inl ⟨by rfl, fun W hW => by go_simp⟩) hS ?_
        try simp only [Act.put, List.setIfInBounds_toArray, List.set_cons_zero, List.set_cons_succ]
        refine wpAnyH_done (by kernel_rfl) ?_ _
        go_wp2_with fail
        go_roundw
        case rel => exact ⟨i + 1, hlt, by go_num, Lib.hid ⟨HM.out.1.below HBS.out, HM.out.2.1.below HBS.out, HM.out.2.2.1.below HBS.out hdl, HM.out.2.2.2.trans (HBS.out.mono HM.out.2.2.2.size)⟩⟩
        case measure => simp [intOf] <;> omega
      · obtain rfl : i = es2.length := by omega
        have dj : decide ((es2.length : Int) < (es2.length : Int)) = false := decide_eq_false (by omega)
        have dj2 : decide (es2.length < es2.length) = false := decide_eq_false (by omega)
        go_wp2_with (go_at_call 5; (with_reducible refine (GA.out _).mono ?_); rintro e w7 ⟨rfl, hb7⟩)
        go_ret
        exact ⟨rfl, HM.out.2.2.2.trans (hb7.mono HM.out.2.2.2.size)⟩
end Go.Proofs.Ytngeemfcmoahoaa.ScriptParses
