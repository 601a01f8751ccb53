/-
  Layer 6, sector: the law's steps: how they come in; the law's great: contract. Conditions: as each theorem names.
-/
import Derived.Test.YtfngmdojogdodaaSeN
import Derived.Test.YtfngmdojogdodaaSfG
import Derived.Test.YtfngmdojogdodaaRec3
import Derived.OpenShut
namespace Go.Proofs.Ytfngmdojogdodaa.Sec
open Go.ChangeShapes Go.WideShapes Go.ChangeAt Go.RowKit Go.Proofs.Ytfngmdojogdodaa.Kit

/-- A step: its kind, a sector, a byte, whether it is too long, picks. -/
structure Step6 where
  k : Int
  i : Int
  b : Int
  long : Bool
  A : Option Addr
  cap : Nat
  zs : List Int
def Step6.cells (s : Step6) : List Value := [.int .i64 s.k, .int .i64 s.i, .int .u8 s.b, .bool s.long, .slice s.A s.zs.length s.cap]
/-- How it lies in memory. -/
def StepIn (w : World) (B : Nat) (s : Step6) (cs : List Value) : Prop :=
  cs = s.cells ∧ (Lit.int .i64 s.k).wf = true ∧ (Lit.int .i64 s.i).wf = true ∧ (Lit.int .u8 s.b).wf = true ∧ s.zs.length ≤ s.cap ∧ s.cap ≤ maxLen ∧ Octets s.zs ∧ Holds w B .u8 s.A s.zs
def HoldsQ (w : World) (B : Nat) (A : Option Addr) (ss : List Step6) : Prop := HoldsE (StepIn w B) 5 w B A ss

def isFlag (P : Program) (fs : Array Field) (i o : Nat) : Bool := match fs[i]? with
  | some f => f.offset == o && P.cellsOf f.type == 1 && (match P.underlying f.type with | some .bool => true | _ => false)
  | none => false
theorem isFlag_of {P : Program} {fs : Array Field} {i o : Nat} (h : isFlag P fs i o = true) : ∃ f, fs[i]? = some f ∧ f.offset = o ∧ P.cellsOf f.type = 1 ∧ P.underlying f.type = some .bool := by
  unfold isFlag at h
  cases hf : fs[i]? with
  | none => rw [hf] at h; simp at h
  | some f =>
    rw [hf] at h
    simp only [Bool.and_eq_true, beq_iff_eq] at h
    refine ⟨f, rfl, h.1.1, h.1.2, ?_⟩
    have h3 := h.2
    split at h3
    · assumption
    · cases h3

section
variable {H : Type} {enc : TypeId × Value → H} {P : Program} {w : World} {b0 : Nat}
theorem read_step {t : TypeId} {fs : Array Field} (ht : P.underlying t = some (.struct fs)) (h0 : isInt P fs 0 0 .i64 = true) (h1 : isInt P fs 1 1 .i64 = true) (h2 : isInt P fs 2 2 .u8 = true) (h3 : isFlag P fs 3 3 = true) (h4 : isBytes P fs 4 4 = true)
    (hsz : fs.size = 5) (hc : P.cellsOf t = 5) {n : Nat} {cs : List Value} {y : DataW H × List MemPlace} (h : DataW.trod enc P w 0 (fun _ => true) true n t cs = some y) (hlt : ∀ x ∈ y.2, x.block < w.heap.size) :
    ∃ s : Step6, StepIn w w.heap.size s cs := by
  obtain ⟨xs, m, _, hx, hl, hxl, hg⟩ := DataW.trod_struct ht h
  obtain ⟨f0, e0, o0, s0, u0⟩ := isInt_of h0
  obtain ⟨f1, e1, o1, s1, u1⟩ := isInt_of h1
  obtain ⟨f2, e2, o2, s2, u2⟩ := isInt_of h2
  obtain ⟨f3, e3, o3, s3, u3⟩ := isFlag_of h3
  obtain ⟨f4, e, e4, o4, s4, u4, ue, ce⟩ := isBytes_of h4
  have x0 : xs[0]? = some (xs[0]'(by omega)) := List.getElem?_eq_getElem (by omega)
  have x1 : xs[1]? = some (xs[1]'(by omega)) := List.getElem?_eq_getElem (by omega)
  have x2 : xs[2]? = some (xs[2]'(by omega)) := List.getElem?_eq_getElem (by omega)
  have x3 : xs[3]? = some (xs[3]'(by omega)) := List.getElem?_eq_getElem (by omega)
  have x4 : xs[4]? = some (xs[4]'(by omega)) := List.getElem?_eq_getElem (by omega)
  have g0 := hg 0 f0 e0
  have g1 := hg 1 f1 e1
  have g2 := hg 2 f2 e2
  have g3 := hg 3 f3 e3
  have g4 := hg 4 f4 e4
  rw [o0, s0, x0] at g0
  rw [o1, s1, x1] at g1
  rw [o2, s2, x2] at g2
  rw [o3, s3, x3] at g3
  rw [o4, s4, x4] at g4
  obtain ⟨a, ha, _, wa⟩ := DataW.trod_int u0 g0
  obtain ⟨b, hb, _, wb⟩ := DataW.trod_int u1 g1
  obtain ⟨x, hxx, _, wx⟩ := DataW.trod_int u2 g2
  obtain ⟨z, hz, _⟩ := DataW.trod_bool u3 g3
  obtain ⟨A, cap, zs, hs, r1, r2, r3, r4⟩ := octets_of u4 ue ce g4 (fun p hp => hlt p (by
    have hps : y.2 = xs.flatMap (·.2) := congrArg Prod.snd hx
    rw [hps]
    exact List.mem_flatMap.2 ⟨_, List.getElem_mem _, hp⟩))
  refine ⟨⟨a, b, x, z, A, cap, zs⟩, ?_, wa, wb, wx, r1, r2, r3, r4⟩
  have q0 := get_of_one ha
  have q1 := get_of_one hb
  have q2 := get_of_one hxx
  have q3 := get_of_one hz
  have q4 := get_of_one hs
  have hl5 : cs.length = 5 := by omega
  match cs, hl5, q0, q1, q2, q3, q4 with
  | [y0, y1, y2, y3, y4], _, q0, q1, q2, q3, q4 =>
    simp at q0 q1 q2 q3 q4
    subst q0 q1 q2 q3 q4
    rfl
/-- A slice of steps that came in. -/
theorem open_steps6 {t e : TypeId} {fs : Array Field} (ht : P.underlying t = some (.slice e)) (he : P.underlying e = some (.struct fs)) (h0 : isInt P fs 0 0 .i64 = true) (h1 : isInt P fs 1 1 .i64 = true) (h2 : isInt P fs 2 2 .u8 = true) (h3 : isFlag P fs 3 3 = true) (h4 : isBytes P fs 4 4 = true)
    (hsz : fs.size = 5) (hc : P.cellsOf e = 5) {v : Value} {d : DataW H} {ps : List MemPlace} (hval : Value.okWide P w .any b0 t v) (h : DataW.Trod enc P w 0 (fun _ => true) true t v d ps) (hlt : ∀ x ∈ ps, x.block < w.heap.size) :
    ∃ (A : Option Addr) (cap : Nat) (ss : List Step6), v = .slice A ss.length cap ∧ ss.length ≤ cap ∧ cap ≤ maxLen ∧ HoldsQ w w.heap.size A ss :=
  open_slice_of (StepIn w w.heap.size) 5 ht hc (by omega) (fun _ _ _ h hp => read_step he h0 h1 h2 h3 h4 hsz hc h hp) hval h hlt
end

/-- The steps at A, element by element. -/
theorem stepAt6 {w : World} {B : Nat} {A : Option Addr} {ss : List Step6} (h : HoldsQ w B A ss) {i : Nat} (hi : i < ss.length) :
    ∃ b off : Nat, A = some ⟨b, off, none⟩ ∧ b < B ∧ w.rangeAt b (off + i * 5) ss[i].cells ∧ (Lit.int .i64 ss[i].k).wf = true ∧ (Lit.int .i64 ss[i].i).wf = true ∧ (Lit.int .u8 ss[i].b).wf = true ∧
      ss[i].zs.length ≤ ss[i].cap ∧ ss[i].cap ≤ maxLen ∧ Octets ss[i].zs ∧ Holds w B .u8 ss[i].A ss[i].zs := by
  obtain ⟨b, off, rfl, hb, hc⟩ := h (by omega)
  obtain ⟨cs, ⟨rfl, r1, r2, r3, r4, r5, r6, r7⟩, _, hcs⟩ := hc i ss[i] (List.getElem?_eq_getElem hi)
  exact ⟨b, off, rfl, hb, fun j c hj => hcs j c hj, r1, r2, r3, r4, r5, r6, r7⟩
theorem HoldsQ.below {w w' : World} {B : Nat} {A : Option Addr} {ss : List Step6} (h : HoldsQ w B A ss) (hb : Below B w w') : HoldsQ w' B A ss :=
  h.keep (fun _ hp => hb.cell hp) fun _ _ ⟨r0, r1, r2, r3, r4, r5, r6, r7⟩ => ⟨r0, r1, r2, r3, r4, r5, r6, r7.below hb⟩

def greatB (ss : List Step6) : Bool := decide (60 < ss.length) || ss.any fun s => decide (60 < s.zs.length)
theorem great_no {ss : List Step6} (h : greatB ss = false) : ss.length ≤ 60 ∧ ∀ s ∈ ss, s.zs.length ≤ 60 := by
  unfold greatB at h
  rw [Bool.or_eq_false_iff] at h
  refine ⟨by have := of_decide_eq_false h.1; omega, fun s hs => ?_⟩
  have := of_decide_eq_false ((List.any_eq_false.1 h.2 s hs |> Bool.eq_false_iff.2))
  omega

set_option maxRecDepth 100000 in
set_option maxHeartbeats 1600000 in
theorem great_any (A : Option Addr) (ss : List Step6) (c : Nat) (B : Nat) (w : World) (hc : ss.length ≤ c) (hm : c ≤ maxLen) (hr : HoldsQ w B A ss) :
    Calls Try.prog 11 #[.slice A ss.length c] w (Tells (.bool (greatB ss)) w) := by
  unfold maxLen at hm
  by_cases h60 : (60 : Int) < ss.length
  · have hg : greatB ss = true := by unfold greatB; rw [decide_eq_true (by omega)]; rfl
    rw [hg]
    have hd : decide ((60 : Int) < (ss.length : Int)) = true := decide_eq_true h60
    go_enter Try.func11, Try.ntmps11
    go_wp2_with fail
    go_ret
    exact ⟨rfl, rfl⟩
  · have hd : decide ((60 : Int) < (ss.length : Int)) = false := decide_eq_false h60
    go_enter Try.func11, Try.ntmps11
    go_wp2_with fail
    go_loopw [3] (fun s wr => ∃ i : Nat, i ≤ ss.length ∧ s = .int .i64 i ∧ ((ss.take i).any fun s => decide (60 < s.zs.length)) = false ∧ wr = w) (fun s _ => ss.length - (intOf s).toNat)
    case atStart => exact ⟨0, Nat.zero_le _, rfl, by simp, rfl⟩
    case round =>
      obtain ⟨i, hi, rfl, hpre, rfl⟩ := hrel
      by_cases hlt : i < ss.length
      · obtain ⟨b, off, rfl, hbl, hra, k0, k1, k2, h1, h2, hoz, hrz⟩ := stepAt6 hr hlt
        have c4 : wr.cell? ⟨b, off + i * 5 + 4, none⟩ = some (.slice ss[i].A ss[i].zs.length ss[i].cap) := hra 4 _ rfl
        have hnext : ss.take (i + 1) = ss.take i ++ [ss[i]] := (List.take_append_getElem hlt).symm
        have hmem := List.getElem_mem hlt
        have d0 : decide ((i : Int) < (ss.length : Int)) = true := decide_eq_true (by omega)
        generalize ss[i] = s at *
        clear hra
        by_cases hz : (60 : Int) < s.zs.length
        · have hg : greatB ss = true := by
            unfold greatB
            rw [show (ss.any fun s => decide (60 < s.zs.length)) = true from List.any_eq_true.2 ⟨s, hmem, decide_eq_true (by omega)⟩, Bool.or_true]
          have hd2 : decide ((60 : Int) < (s.zs.length : Int)) = true := decide_eq_true hz
          have HG := Lib.hid hg
          clear hg hnext hmem hpre
          go_wp2_with fail
          go_ret
          exact ⟨by rw [HG.out]; rfl, rfl⟩
        · have hd2 : decide ((60 : Int) < (s.zs.length : Int)) = false := decide_eq_false hz
          have hpre2 : ((ss.take (i + 1)).any fun s => decide (60 < s.zs.length)) = false := by
            rw [hnext, List.any_append, hpre]
            simp
            omega
          have HP := Lib.hid hpre2
          clear hpre2 hnext hmem hpre
          go_wp2_with fail
          go_roundw
          case rel => exact ⟨i + 1, by omega, by go_num, HP.out, by first | rfl | trivial⟩
          case measure => simp [intOf]; omega
      · have d0 : decide ((i : Int) < (ss.length : Int)) = false := decide_eq_false (by omega)
        obtain rfl : i = ss.length := by omega
        rw [List.take_length] at hpre
        have hg : greatB ss = false := by
          unfold greatB
          rw [hpre, decide_eq_false (by omega)]
          rfl
        have HG := Lib.hid hg
        clear hg hpre
        go_wp2_with fail
        go_ret
        exact ⟨by rw [HG.out]; rfl, rfl⟩
end Go.Proofs.Ytfngmdojogdodaa.Sec
