/-
  Layer 22, manifest: a manifest's writing: plain lists; arrays of three sums. Conditions: as each theorem names.
-/
import Derived.Test.YtpdofegmobbipaaMnG
import Derived.Test.YtpdofegmobbipaaOct
import Derived.Great.FillDense
import Derived.Laws.Tables
namespace Go.Proofs.Ytpdofegmobbipaa.Mn
open Go.ChangeShapes Go.WideShapes Go.ChangeAt Go.RowKit Go.Proofs.Ytpdofegmobbipaa.Kit Go.Proofs.Ytpdofegmobbipaa.Ordr Go.Proofs.Ytpdofegmobbipaa.Blk Go.Proofs.Ytpdofegmobbipaa.Oct

/-- An order's writing. -/
def ordL (l : List Int) : List Int := l.flatMap fun i => [i / 256, i % 256]
theorem ordL_length (l : List Int) : (ordL l).length = 2 * l.length := by
  induction l with
  | nil => rfl
  | cons a l ih => unfold ordL at *; rw [List.flatMap_cons, List.length_append, ih]; simp; omega
theorem ordL_snoc (l : List Int) (i : Int) : ordL (l ++ [i]) = ordL l ++ [i / 256, i % 256] := by unfold ordL; simp
/-- A manifest's writing, part by part. -/
def Man.p0 (m : Man) : List Int := [1, m.md] ++ be 8 m.vr
def Man.p1 (m : Man) : List Int := m.p0 ++ be 4 m.bk
def Man.p2 (m : Man) : List Int := m.p1 ++ be 4 m.ol
def Man.p3 (m : Man) : List Int := m.p2 ++ be 4 m.nl
def Man.p4 (m : Man) : List Int := m.p3 ++ m.od
def Man.p5 (m : Man) : List Int := m.p4 ++ m.nd
def Man.p6 (m : Man) : List Int := m.p5 ++ m.rt
def Man.putL (m : Man) : List Int := m.p6 ++ ordL m.ord
theorem Man.pre_length (m : Man) (h : m.Ok) : m.p0.length = 10 ∧ m.p1.length = 14 ∧ m.p2.length = 18 ∧ m.p3.length = 22 ∧ m.p4.length = 54 ∧ m.p5.length = 86 ∧ m.p6.length = 118 := by
  unfold Man.p6 Man.p5 Man.p4 Man.p3 Man.p2 Man.p1 Man.p0
  simp [be_length, h.odl, h.ndl, h.rtl]

/-- An array of three sums, built. -/
theorem build_three (a b c : List Int) (ha : a.length = 32) (hb : b.length = 32) (hc : c.length = 32) (w : World) :
    (Instr.build 51 #[(0, arrV .u8 a), (1, arrV .u8 b), (2, arrV .u8 c)]).run Try.prog w = .ok (.agg ((a ++ (b ++ c)).map (Value.int .u8)).toArray) w := by
  refine run_build w _ _ _ ?_
  obtain ⟨it, hit⟩ : ∃ it, Try.prog.info? 51 = some it := Option.isSome_iff_exists.1 (by kernel_rfl)
  obtain ⟨ie, hie⟩ : ∃ ie, Try.prog.info? 24 = some ie := Option.isSome_iff_exists.1 (by kernel_rfl)
  have h1 : (Try.prog.info? 51).map (fun i => i.zero.map (fun z => z.cells.size)) = some (some 96) := by kernel_rfl
  have h2 : (Try.prog.info? 24).map (·.size) = some 32 := by kernel_rfl
  rw [hit] at h1
  rw [hie] at h2
  simp only [Option.map_some, Option.some.injEq] at h1 h2
  obtain ⟨z, hz, hz2⟩ := Option.map_eq_some_iff.1 h1
  have h3 := Great.fill_whole (s := 32) (by omega) [arrV .u8 a, arrV .u8 b, arrV .u8 c] z.cells (by
    intro v hv
    simp at hv
    rcases hv with rfl | rfl | rfl <;> simp [arrV, Value.cells, ha, hb, hc]) (by rw [hz2]; rfl)
  unfold Program.built
  rw [hit, Try.underlying51]
  simp only [hz, hie, h2]
  have e : ([(0, arrV .u8 a), (1, arrV .u8 b), (2, arrV .u8 c)] : List (Nat × Value)) = ([arrV .u8 a, arrV .u8 b, arrV .u8 c].zipIdx 0).map fun x => (x.2, x.1) := rfl
  show Instr.fill _ _ [(0, arrV .u8 a), (1, arrV .u8 b), (2, arrV .u8 c)] = _
  rw [e, h3]
  simp [arrV, Value.cells]

theorem index_dg (l : List Int) (j : Nat) (hj : j < 3) (hl : l.length = 96) (w : World) :
    (Instr.index 51 (.agg (l.map (Value.int .u8)).toArray) (.int .i64 (j : Int))).run Try.prog w = .ok (arrV .u8 ((l.drop (j * 32)).take 32)) w := by
  have ha : (isAgg 24).run Try.prog w = .ok true w := by
    unfold isAgg
    rw [Sem.run_bind, run_underlying Try.underlying24 w]
    rfl
  obtain ⟨ie, hie⟩ : ∃ ie, Try.prog.info? 24 = some ie := Option.isSome_iff_exists.1 (by kernel_rfl)
  have h2 : (Try.prog.info? 24).map (·.size) = some 32 := by kernel_rfl
  rw [hie] at h2
  simp only [Option.map_some, Option.some.injEq] at h2
  have hb : (0 : Int) ≤ (j : Int) ∧ (j : Int) < ((3 : Nat) : Int) := by omega
  unfold Instr.index
  simp [run_underlying Try.underlying51, asIntOf, Sem.run_bind, part, ha, sizeOf, typeInfo, hie, h2]
  rw [if_pos hj]
  unfold arrV
  rw [List.map_take, List.map_drop]
end Go.Proofs.Ytpdofegmobbipaa.Mn
