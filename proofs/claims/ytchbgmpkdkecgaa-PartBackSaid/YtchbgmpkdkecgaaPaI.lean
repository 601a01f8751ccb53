/-
  Layer 7, part: the law's steps: how they come in; the law's great: contract. Conditions: as each theorem names.
-/
import Derived.Test.YtchbgmpkdkecgaaPaG
import Derived.Test.YtchbgmpkdkecgaaSfG
import Derived.Test.YtchbgmpkdkecgaaRec3
import Derived.OpenShut
namespace Go.Proofs.Ytchbgmpkdkecgaa.Pt
open Go.ChangeShapes Go.WideShapes Go.ChangeAt Go.RowKit Go.Proofs.Ytchbgmpkdkecgaa.Kit Go.Proofs.Ytchbgmpkdkecgaa.Sec

/-- A step: its kind, a place, a number, bytes, picks. -/
structure Step7 where
  k : Int
  x : Int
  n : Int
  A : Option Addr
  cap : Nat
  bs : List Int
  A2 : Option Addr
  cap2 : Nat
  zs : List Int
def Step7.cells (s : Step7) : List Value := [.int .i64 s.k, .int .i64 s.x, .int .i64 s.n, .slice s.A s.bs.length s.cap, .slice s.A2 s.zs.length s.cap2]
/-- How it lies in memory. -/
def StepIn (w : World) (B : Nat) (s : Step7) (cs : List Value) : Prop :=
  cs = s.cells ∧ (Lit.int .i64 s.k).wf = true ∧ (Lit.int .i64 s.x).wf = true ∧ (Lit.int .i64 s.n).wf = true ∧ (s.bs.length ≤ s.cap ∧ s.cap ≤ maxLen ∧ Octets s.bs ∧ Holds w B .u8 s.A s.bs) ∧ (s.zs.length ≤ s.cap2 ∧ s.cap2 ≤ maxLen ∧ Octets s.zs ∧ Holds w B .u8 s.A2 s.zs)
def HoldsQ (w : World) (B : Nat) (A : Option Addr) (ss : List Step7) : Prop := HoldsE (StepIn w B) 5 w B A ss

section
variable {H : Type} {enc : TypeId × Value → H} {P : Program} {w : World} {b0 : Nat}
theorem read_step {t : TypeId} {fs : Array Field} (ht : P.underlying t = some (.struct fs)) (h0 : isInt P fs 0 0 .i64 = true) (h1 : isInt P fs 1 1 .i64 = true) (h2 : isInt P fs 2 2 .i64 = true) (h3 : isBytes P fs 3 3 = true) (h4 : isBytes P fs 4 4 = true)
    (hsz : fs.size = 5) (hc : P.cellsOf t = 5) {n : Nat} {cs : List Value} {y : DataW H × List MemPlace} (h : DataW.trod enc P w 0 (fun _ => true) true n t cs = some y) (hlt : ∀ x ∈ y.2, x.block < w.heap.size) :
    ∃ s : Step7, StepIn w w.heap.size s cs := by
  obtain ⟨xs, m, _, hx, hl, hxl, hg⟩ := DataW.trod_struct ht h
  obtain ⟨f0, e0, o0, s0, u0⟩ := isInt_of h0
  obtain ⟨f1, e1, o1, s1, u1⟩ := isInt_of h1
  obtain ⟨f2, e2, o2, s2, u2⟩ := isInt_of h2
  obtain ⟨f3, ea, e3, o3, s3, u3, ua, ca⟩ := isBytes_of h3
  obtain ⟨f4, e, e4, o4, s4, u4, ue, ce⟩ := isBytes_of h4
  have x0 : xs[0]? = some (xs[0]'(by omega)) := List.getElem?_eq_getElem (by omega)
  have x1 : xs[1]? = some (xs[1]'(by omega)) := List.getElem?_eq_getElem (by omega)
  have x2 : xs[2]? = some (xs[2]'(by omega)) := List.getElem?_eq_getElem (by omega)
  have x3 : xs[3]? = some (xs[3]'(by omega)) := List.getElem?_eq_getElem (by omega)
  have x4 : xs[4]? = some (xs[4]'(by omega)) := List.getElem?_eq_getElem (by omega)
  have g0 := hg 0 f0 e0
  have g1 := hg 1 f1 e1
  have g2 := hg 2 f2 e2
  have g3 := hg 3 f3 e3
  have g4 := hg 4 f4 e4
  rw [o0, s0, x0] at g0
  rw [o1, s1, x1] at g1
  rw [o2, s2, x2] at g2
  rw [o3, s3, x3] at g3
  rw [o4, s4, x4] at g4
  obtain ⟨a, ha, _, wa⟩ := DataW.trod_int u0 g0
  obtain ⟨b, hb, _, wb⟩ := DataW.trod_int u1 g1
  obtain ⟨x, hxx, _, wx⟩ := DataW.trod_int u2 g2
  obtain ⟨A, cap, zs, hs0, r1, r2, r3, r4⟩ := octets_of u3 ua ca g3 (fun p hp => hlt p (by
    have hps : y.2 = xs.flatMap (·.2) := congrArg Prod.snd hx
    rw [hps]
    exact List.mem_flatMap.2 ⟨_, List.getElem_mem _, hp⟩))
  obtain ⟨A2, cap2, zs2, hs, t1, t2, t3, t4⟩ := octets_of u4 ue ce g4 (fun p hp => hlt p (by
    have hps : y.2 = xs.flatMap (·.2) := congrArg Prod.snd hx
    rw [hps]
    exact List.mem_flatMap.2 ⟨_, List.getElem_mem _, hp⟩))
  refine ⟨⟨a, b, x, A, cap, zs, A2, cap2, zs2⟩, ?_, wa, wb, wx, ⟨r1, r2, r3, r4⟩, ⟨t1, t2, t3, t4⟩⟩
  have q0 := get_of_one ha
  have q1 := get_of_one hb
  have q2 := get_of_one hxx
  have q3 := get_of_one hs0
  have q4 := get_of_one hs
  have hl5 : cs.length = 5 := by omega
  match cs, hl5, q0, q1, q2, q3, q4 with
  | [y0, y1, y2, y3, y4], _, q0, q1, q2, q3, q4 =>
    simp at q0 q1 q2 q3 q4
    subst q0 q1 q2 q3 q4
    rfl
/-- A slice of steps that came in. -/
theorem open_steps7 {t e : TypeId} {fs : Array Field} (ht : P.underlying t = some (.slice e)) (he : P.underlying e = some (.struct fs)) (h0 : isInt P fs 0 0 .i64 = true) (h1 : isInt P fs 1 1 .i64 = true) (h2 : isInt P fs 2 2 .i64 = true) (h3 : isBytes P fs 3 3 = true) (h4 : isBytes P fs 4 4 = true)
    (hsz : fs.size = 5) (hc : P.cellsOf e = 5) {v : Value} {d : DataW H} {ps : List MemPlace} (hval : Value.okWide P w .any b0 t v) (h : DataW.Trod enc P w 0 (fun _ => true) true t v d ps) (hlt : ∀ x ∈ ps, x.block < w.heap.size) :
    ∃ (A : Option Addr) (cap : Nat) (ss : List Step7), v = .slice A ss.length cap ∧ ss.length ≤ cap ∧ cap ≤ maxLen ∧ HoldsQ w w.heap.size A ss :=
  open_slice_of (StepIn w w.heap.size) 5 ht hc (by omega) (fun _ _ _ h hp => read_step he h0 h1 h2 h3 h4 hsz hc h hp) hval h hlt
end

/-- The steps at A, element by element. -/
theorem stepAt7 {w : World} {B : Nat} {A : Option Addr} {ss : List Step7} (h : HoldsQ w B A ss) {i : Nat} (hi : i < ss.length) :
    ∃ b off : Nat, A = some ⟨b, off, none⟩ ∧ b < B ∧ w.rangeAt b (off + i * 5) ss[i].cells ∧ (Lit.int .i64 ss[i].k).wf = true ∧ (Lit.int .i64 ss[i].x).wf = true ∧ (Lit.int .i64 ss[i].n).wf = true ∧
      (ss[i].bs.length ≤ ss[i].cap ∧ ss[i].cap ≤ maxLen ∧ Octets ss[i].bs ∧ Holds w B .u8 ss[i].A ss[i].bs) ∧ (ss[i].zs.length ≤ ss[i].cap2 ∧ ss[i].cap2 ≤ maxLen ∧ Octets ss[i].zs ∧ Holds w B .u8 ss[i].A2 ss[i].zs) := by
  obtain ⟨b, off, rfl, hb, hc⟩ := h (by omega)
  obtain ⟨cs, ⟨rfl, r1, r2, r3, r4, r5⟩, _, hcs⟩ := hc i ss[i] (List.getElem?_eq_getElem hi)
  exact ⟨b, off, rfl, hb, fun j c hj => hcs j c hj, r1, r2, r3, r4, r5⟩
theorem HoldsQ.below {w w' : World} {B : Nat} {A : Option Addr} {ss : List Step7} (h : HoldsQ w B A ss) (hb : Below B w w') : HoldsQ w' B A ss :=
  h.keep (fun _ hp => hb.cell hp) fun _ _ ⟨r0, r1, r2, r3, ⟨r4, r5, r6, r7⟩, ⟨t4, t5, t6, t7⟩⟩ => ⟨r0, r1, r2, r3, ⟨r4, r5, r6, r7.below hb⟩, ⟨t4, t5, t6, t7.below hb⟩⟩
end Go.Proofs.Ytchbgmpkdkecgaa.Pt
