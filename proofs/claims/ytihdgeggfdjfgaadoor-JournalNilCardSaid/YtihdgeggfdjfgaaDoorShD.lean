/-
  Layer 1, sha: the document's: roots, what is padded: contracts. Conditions: as each theorem names.
-/
import Derived.Test.YtihdgeggfdjfgaaDoorShS
namespace Go.Proofs.YtihdgeggfdjfgaaDoor.Sha
open Go.ChangeShapes Go.WideShapes Go.ChangeAt Go.RowKit Go.Proofs.YtihdgeggfdjfgaaDoor.Kit

/-- A build whose value is known as a whole. -/
theorem wpList_build_known {P : Program} {w : World} {ops : Array Oper} {rest : List Oper} {o : Oper} {a : Act} {Q : Exit → Act → World → Prop} (hgd : o.guard = none) (ty : TypeId) (parts : Array (Nat × Operand)) (ho : o.op = .build ty parts)
    (V : Value) (hrun : ∀ W, (Instr.build ty (parts.map fun (i, x) => (i, a.eval x))).run P W = .ok V W) (h : wpList P ops Q rest (a.put o.dst V) w) : wpList P ops Q (o :: rest) a w := by
  refine wpList_plain hgd fun K hK => ?_
  unfold Oper.wp
  simp only [execOp, ho, Sem.run_bind, Sem.run_pure]
  rw [hrun]
  exact hK _ _ h

theorem zeros_more {n j : Nat} (h : j < tailZ n) : ¬ (n + 1 + j) % 64 = 56 := by unfold tailZ at h; omega
theorem zeros_done (n : Nat) : (n + 1 + tailZ n) % 64 = 56 := by unfold tailZ; omega

end Go.Proofs.YtihdgeggfdjfgaaDoor.Sha
