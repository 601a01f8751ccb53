/-
  Layer 13, inflate: the document's stored block from its beginning, as the machine takes it: plain. No conditions beyond what each theorem names.
  Layer 13, inflate: a symbol of the document's, as the machine takes it: plain. No conditions beyond what each theorem names.
-/
import Derived.Test.YthflefdchgpbdaaDoorMGIces25
import Derived.Test.YthflefdchgpbdaaDoorMIrF
namespace Go.Proofs.YthflefdchgpbdaaDoor.Inf
open Go.RowKit Go.Proofs.YthflefdchgpbdaaDoor.Kit Go.Proofs.YthflefdchgpbdaaDoor.Bits Go.Proofs.YthflefdchgpbdaaDoor.Huf Go.Proofs.YthflefdchgpbdaaDoor.Df

theorem stored_block {most : Int} {b : List Int} {s : St} {d d1 d2 d3 e1 e2 e3 e4 e5 : DS} {a n m : Int} (h0 : s.ph = 0) (he : d.e = 0) (hp : d.p ≤ b.length) (h8 : b.length % 8 = 0) (ho : d.out = s.out)
    (h1 : numD 1 b d = (a, d1)) (h2 : numD 2 b d1 = (0, d2)) (h3 : failD (decide ((0 : Int) = 3)) 11 d2 = d3) (he3 : d3.e = 0) (H : HeadD b most d3 e1 e2 e3 e4 e5 n m) :
    BlockTo most b s d.p (decide (a = 1)) (bytesD b n.toNat e5) := by
  obtain ⟨o3, p3, _, st⟩ := (open_head (most := most) h0 he hp h1 h2 h3 (fun _ => by omega)).2 he3
  rw [if_pos rfl] at st
  have g := head_goes h8 he3 p3 H.h1.symm H.h2 H.h3 H.h4 H.h5
  have ol : d3.out.length = s.out.length := by rw [o3, ho]
  rw [ol] at g
  by_cases c : e5.e = 0
  · obtain ⟨k1, k2, k3⟩ := g.ok c
    rw [bindG_ok _ k1] at st
    have := bytes_to (most := most) (b := b) n.toNat { s with ph := 1, last := decide (a = 1), left := n.toNat, ls := [], ds := [] } e5 rfl rfl c k3 (by rw [k2, o3, ho])
    exact this.more (.step .refl (by omega) st)
  · obtain ⟨k1, k2, k3⟩ := g.no c
    rw [bytesD_err c]
    refine BlockTo.wrong (ends_of_err (by omega) ?_) c (by rw [k2, o3, ho]) k3
    rw [st]
    exact k1.bind _
end Go.Proofs.YthflefdchgpbdaaDoor.Inf

namespace Go.Proofs.YthflefdchgpbdaaDoor.Inf
open Go.RowKit Go.Proofs.YthflefdchgpbdaaDoor.Kit Go.Proofs.YthflefdchgpbdaaDoor.Bits Go.Proofs.YthflefdchgpbdaaDoor.Huf Go.Proofs.YthflefdchgpbdaaDoor.Df

section
variable {most : Int} {b : List Int} {s : St} {d d1 d2 : DS} {x : Int}
theorem sym_wrong (h2 : s.ph = 2) (he : d.e = 0) (hp : d.p ≤ b.length) (ho : d.out = s.out) (h : symD s.ls b d = (x, d1)) (c : d1.e ≠ 0) : BlockTo most b s d.p s.last d1 := by
  have g := sym_goes h he hp
  exact BlockTo.wrong (code_err h2 g c) c (by rw [(g.no c).2.1, ho]) (g.no c).2.2
theorem sym_closed (h2 : s.ph = 2) (he : d.e = 0) (hp : d.p ≤ b.length) (ho : d.out = s.out) (h : symD s.ls b d = (256, d1)) (c : d1.e = 0) : BlockTo most b s d.p s.last d1 := by
  have g := sym_goes h he hp
  exact ⟨s.closed, d1.p, .step .refl (by omega) (code_end h2 g c), by rw [(g.ok c).2.1, ho]; rfl, (g.ok c).2.2, .inl ⟨c, rfl, rfl⟩⟩
theorem sym_lit (h2 : s.ph = 2) (he : d.e = 0) (hp : d.p ≤ b.length) (ho : d.out = s.out) (h : symD s.ls b d = (x, d1)) (c : d1.e = 0) (hx : x < 256) (hf : failD (decide (most ≤ d1.out.length)) 12 d1 = d2) :
    (d2.e ≠ 0 → BlockTo most b s d.p s.last d2) ∧ (d2.e = 0 → d2 = d1 ∧ Reach most b s d.p { s with out := s.out ++ [x] } d1.p ∧ d1.out = s.out ∧ d1.p ≤ b.length) := by
  have g := sym_goes h he hp
  obtain ⟨_, k2, k3⟩ := g.ok c
  have ol : d1.out = s.out := by rw [k2, ho]
  rw [ol] at hf
  obtain ⟨r1, r2, r3, r4⟩ := code_lit h2 g c hx hf
  refine ⟨fun e => BlockTo.wrong (r2 e) e (by rw [r4, ol]) (by rw [r3]; exact k3), fun e => ?_⟩
  obtain ⟨q1, q2⟩ := r1 e
  exact ⟨q1, .step .refl (by omega) q2, ol, k3⟩
theorem sym_match {d7 : DS} {n far : Int} (h2 : s.ph = 2) (he : d.e = 0) (hp : d.p ≤ b.length) (ho : d.out = s.out) (h : symD s.ls b d = (x, d1)) (c : d1.e = 0) (hx : ¬ x < 256) (hx2 : x ≠ 256) (g7 : Goes b d1 (matchG (x - 257) s.ds s.out.length most b d1.p) (n, far) d7) :
    (d7.e ≠ 0 → BlockTo most b s d.p s.last d7) ∧ (d7.e = 0 → Reach most b s d.p { s with out := rep s.out n.toNat far.toNat } d7.p ∧ d7.p ≤ b.length) := by
  have g := sym_goes h he hp
  obtain ⟨_, k2, _⟩ := g.ok c
  obtain ⟨r1, r2⟩ := code_match h2 g c hx hx2 g7
  refine ⟨fun e => BlockTo.wrong (r2 e) e (by rw [(g7.no e).2.1, k2, ho]) (g7.no e).2.2, fun e => ⟨.step .refl (by omega) (r1 e), (g7.ok e).2.2⟩⟩
end
end Go.Proofs.YthflefdchgpbdaaDoor.Inf
