/-
  Layer 30, whole scripts: plain words: lines of a text, what a line tells, what a text tells. No program. No conditions beyond what each theorem names.
-/
import Derived.Test.YtngeemfcmoahoaaTyE
namespace Go.Proofs.Ytngeemfcmoahoaa.Tv
open Go.ChangeShapes Go.WideShapes Go.ChangeAt Go.RowKit Go.Proofs.Ytngeemfcmoahoaa.Kit Go.Proofs.Ytngeemfcmoahoaa.Tx Go.Proofs.Ytngeemfcmoahoaa.Ty

/-- A text's lines, and whether a line feed stands behind each. -/
def linesL : List Int → List (List Int × Bool)
  | [] => []
  | c :: r => if c = 10 then ([], true) :: linesL r else match linesL r with
    | [] => [([c], false)]
    | (l, b) :: ls => (c :: l, b) :: ls
theorem linesL_cut : ∀ (p r : List Int), (∀ c ∈ p, c ≠ 10) → linesL (p ++ 10 :: r) = (p, true) :: linesL r
  | [], r, _ => by rw [List.nil_append, linesL, if_pos rfl]
  | c :: p, r, h => by
    rw [List.cons_append, linesL, if_neg (h c (by simp)), linesL_cut p r fun d hd => h d (by simp [hd])]
theorem linesL_end : ∀ (p : List Int), p ≠ [] → (∀ c ∈ p, c ≠ 10) → linesL p = [(p, false)]
  | [], h0, _ => absurd rfl h0
  | [c], _, h => by rw [linesL, if_neg (h c (by simp))]; rfl
  | c :: d :: p, _, h => by
    rw [linesL, if_neg (h c (by simp)), linesL_end (d :: p) (by simp) fun e he => h e (by simp [he])]
theorem linesL_mem : ∀ cs, ∀ x ∈ linesL cs, (∀ c ∈ x.1, c ∈ cs ∧ c ≠ 10) ∧ x.1.length ≤ cs.length
  | [], x, h => by simp [linesL] at h
  | c :: r, x, h => by
    rw [linesL] at h
    split at h
    · rcases List.mem_cons.1 h with rfl | h
      · simp
      · obtain ⟨h1, h2⟩ := linesL_mem r x h
        exact ⟨fun d hd => ⟨by simp [(h1 d hd).1], (h1 d hd).2⟩, by simp; omega⟩
    · next hc =>
      cases hr : linesL r with
      | nil =>
        rw [hr] at h
        obtain rfl : x = ([c], false) := by simpa using h
        exact ⟨fun d hd => by obtain rfl : d = c := by simpa using hd
                              exact ⟨by simp, hc⟩, by simp⟩
      | cons v vs =>
        rw [hr] at h
        rcases List.mem_cons.1 h with rfl | h
        · obtain ⟨h1, h2⟩ := linesL_mem r v (by rw [hr]; simp)
          refine ⟨fun d hd => ?_, by simp; omega⟩
          rcases List.mem_cons.1 hd with rfl | hd
          · exact ⟨by simp, hc⟩
          · exact ⟨by simp [(h1 d hd).1], (h1 d hd).2⟩
        · obtain ⟨h1, h2⟩ := linesL_mem r x (by rw [hr]; simp [h])
          exact ⟨fun d hd => ⟨by simp [(h1 d hd).1], (h1 d hd).2⟩, by simp; omega⟩
theorem linesL_length : ∀ cs, (linesL cs).length ≤ cs.length
  | [] => Nat.le_refl _
  | c :: r => by
    have ih := linesL_length r
    rw [linesL]
    split
    · simp; omega
    · cases hr : linesL r with
      | nil => simp
      | cons v vs => rw [hr] at ih; simp at ih ⊢; omega

/-- What the lines told by now. -/
structure PS where
  b : Bool
  c0 : Int
  c1 : Int
  c2 : Int
  sd : List Int
  im : List Int
  v : Int
  al : List ActV
def zeroP : PS := ⟨false, 0, 0, 0, [], [], 0, []⟩
def worldW : List Int := [119, 111, 114, 108, 100]
def worldF : List Int := [110, 110, 110, 110, 116, 116]
def beginP (p : PS) (ws : List (List Int)) : Except Int PS :=
  if ws.getD 0 [] = worldW then match fieldsL ws worldF with
    | none => .error 3
    | some (ns, ts) => .ok ⟨true, ns.getD 0 0, ns.getD 1 0, ns.getD 2 0, ts.getD 0 [], ts.getD 1 [], ns.getD 3 0, p.al⟩
  else .error 21
def lineL (p : PS) (t : List Int) : Except Int PS :=
  if t = [] ∨ t.getD 0 0 = 35 then .ok p
  else if p.b = false then beginP p (wordsL t)
  else match actL t with
    | .error e => .error e
    | .ok a => .ok { p with al := p.al ++ [a] }
def stepL (r : Except (Nat × Int) (Nat × PS)) (x : List Int × Bool) : Except (Nat × Int) (Nat × PS) :=
  match r with
  | .error e => .error e
  | .ok (n, p) => if x.2 = false then .error (n + 1, 22) else match lineL p x.1 with
    | .error e => .error (n + 1, e)
    | .ok q => .ok (n + 1, q)
def runL (xs : List (List Int × Bool)) : Except (Nat × Int) (Nat × PS) := xs.foldl stepL (.ok (0, zeroP))
theorem runL_snoc (xs : List (List Int × Bool)) (x : List Int × Bool) : runL (xs ++ [x]) = stepL (runL xs) x := by
  unfold runL; rw [List.foldl_append]; rfl
theorem stepL_error (e : Nat × Int) : ∀ xs : List (List Int × Bool), xs.foldl stepL (.error e) = .error e
  | [] => rfl
  | _ :: xs => by rw [List.foldl_cons]; exact stepL_error e xs
theorem runL_error {xs : List (List Int × Bool)} {e : Nat × Int} (h : runL xs = .error e) (ys : List (List Int × Bool)) : runL (xs ++ ys) = .error e := by
  unfold runL at h ⊢; rw [List.foldl_append, h, stepL_error]
theorem runL_count' : ∀ (xs : List (List Int × Bool)) (m : Nat) (q : PS) (n : Nat) (p : PS), xs.foldl stepL (.ok (m, q)) = .ok (n, p) → n = m + xs.length
  | [], m, q, n, p, h => by injection h with h; injection h with h1 h2; simp; omega
  | x :: xs, m, q, n, p, h => by
    rw [List.foldl_cons] at h
    obtain ⟨r, hr⟩ : ∃ r, stepL (.ok (m, q)) x = r := ⟨_, rfl⟩
    rw [hr] at h
    cases r with
    | error e => rw [stepL_error] at h; cases h
    | ok y =>
      obtain ⟨m2, q2⟩ := y
      have ih := runL_count' xs m2 q2 n p h
      simp only [stepL] at hr
      split at hr
      · cases hr
      · split at hr
        · cases hr
        · injection hr with hr; injection hr with h1 h2; simp; omega
theorem runL_count {xs : List (List Int × Bool)} {n : Nat} {p : PS} (h : runL xs = .ok (n, p)) : n = xs.length := by
  have := runL_count' xs 0 zeroP n p h
  omega
/-- The line and the error, or what a text tells. -/
def parseL (cs : List Int) : Except (Nat × Int) PS :=
  if 1048576 < cs.length ∨ 1000 < cs.count 10 then .error (0, 4) else match runL (linesL cs) with
    | .error e => .error e
    | .ok (_, p) => if p.b = true then .ok p else .error (0, 3)
end Go.Proofs.Ytngeemfcmoahoaa.Tv
