/-
  ImagePlays: the step from the walk to the given statement; for every input, no condition.
-/
import Derived.Test.YtpnodocjpedcmaaDoorMWImagePlays
import Derived.Test.YtpnodocjpedcmaaDoorMGIays0
import Derived.JoinedOf
import Derived.JoinedAt
import Derived.Test.YtpnodocjpedcmaaDoorMGIays1
import Derived.Test.YtpnodocjpedcmaaDoorTie
import Derived.Test.YtpnodocjpedcmaaDoorCards
import Derived.SevenTiedAt
namespace Go.Proofs.YtpnodocjpedcmaaDoor.ImagePlays
open Go.ChangeShapes Go.WideShapes Go.ChangeAt Go.RowKit Go.Proofs.YtpnodocjpedcmaaDoor.Kit

theorem own : ownKnob Tryd.prog.godebug = none := by kernel_rfl
theorem laidOut : laidOutB Tryd.prog = true := by kernel_rfl
/-- What the program lays, where the call begins. -/
theorem of_laid {W : World} (h : laidMetH Tryd.prog Rows.imagePlaysRow.laid W) : (∀ i, i < Sha.cubesL.length → W.cell? ⟨0, i, none⟩ = some (.int .u32 (Sha.cubesL.getD i 0))) := by
  rw [MakeChecks.laidMetH_plain _ _ _ (by kernel_rfl)] at h
  obtain ⟨ps, h0, _, _⟩ := h
  obtain ⟨c0, q0, h1⟩ := laid_ints h0 Sha.cubesL (by kernel_rfl) (by kernel_rfl : Tryd.prog.globalNamed _ = some 0) (by kernel_rfl : (Tryd.prog.globals[0]?).map (·.type) = some 166) (by kernel_rfl : Tryd.prog.underlying 166 = some (.array _ 150)) Tryd.underlying150 (by kernel_rfl)
  exact c0

theorem door_met (os : Os) (args : Array Value) : laidMetH Tryd.prog Rows.imagePlaysRow.laid ((World.doorLaid Tryd.prog 4000 os).forCall (fun _ _ => 0) ⟨#[], args, []⟩).memory :=
  laidMetH_of_parts3 (fuel := 8) (laidMet_of_run' 8 (by kernel_rfl) (by kernel_rfl)) (by kernel_rfl) (by kernel_rfl)

set_option maxRecDepth 100000 in
theorem contract (H : Type) (enc : TypeId × Value → H) (W : World) (base : Nat) (args : Array Value) (ds gs : List (DataW H)) (before : List MemPlace)
    (hval : ∀ (j : Nat) t v, Tryd.f6.params[j]? = some t → args[j]? = some v → Value.okWide Tryd.prog W .any base t v)
    (hW : DataW.Whole enc Tryd.prog Tryd.f6.params.toList Rows.imagePlaysSpec.vars false W args.toList ds gs before) (hL : laidMetH Tryd.prog Rows.imagePlaysRow.laid W) :
    Calls Tryd.prog 6 args W fun e W' => ∃ v, e = .returned v ∧ Rows.imagePlaysSpec.post enc Tryd.prog Tryd.f6 false true false false W args v W' := by
  have hW' := hW
  obtain ⟨p, q, hA0, hV, rfl, hfz, hnd⟩ := hW
  have hlt : ∀ x ∈ p, x.block < W.heap.size := fun x hx => hW'.lt x (by simp [hx])
  have hA : DataW.TrodAll enc Tryd.prog W 0 (fun _ => true) true Tryd.f6.params.toList args.toList ds p := hA0
  rw [Tryd.params6] at hA hval
  obtain e0 := of_laid hL
  obtain ⟨v0, vs0, d0, ds0, p0, q0, hargs, rfl, rfl, h0, r0⟩ := trodAll_cons hA
  obtain ⟨v1, vs1, d1, ds1, p1, q1, rfl, rfl, rfl, h1, r1⟩ := trodAll_cons r0
  obtain ⟨rfl, rfl, rfl⟩ := trodAll_nil r1
  obtain rfl : args = #[v0, v1] := by cases args; simp_all
  obtain ⟨row0, hlen0, rfl, hwf0⟩ := open_struct (ks := [.i64, .i64, .i64]) Tryd.underlying61 (by kernel_rfl) (by kernel_rfl) (hval 0 _ v0 rfl rfl) h0
  obtain ⟨b0_0, b0_1, b0_2, rfl⟩ : ∃ b0_0 b0_1 b0_2, row0 = [b0_0, b0_1, b0_2] := by match row0, hlen0 with | [x0, x1, x2], _ => exact ⟨x0, x1, x2, rfl⟩
  obtain ⟨A1, c1, ss1, rfl, hl1, hm1, hr1⟩ := Im.open_steps25 Tryd.underlying62 Tryd.underlying73 (by kernel_rfl) (by kernel_rfl) (hval 1 _ v1 rfl rfl) h1 (fun x hx => hlt x (by simp [hx]))
  refine (walk b0_0 b0_1 b0_2 A1 ss1 c1 W (hwf0 0 _ rfl) (hwf0 1 _ rfl) (hwf0 2 _ rfl) hl1 hm1 hr1 e0).mono fun e W' ⟨he, hb⟩ => ?_
  subst he
  exact ⟨_, rfl, law_post laidOut (by kernel_rfl) hW' rfl rfl Tryd.underlying4 rfl hb⟩

set_option maxRecDepth 100000 in
theorem lifted (os : Os) (started : os.Started) (H : Type) (enc : TypeId × Value → H) :
    ReturnsInHanded {} Tryd.checked os 6 .any (fun w args => (Rows.imagePlaysSpec.pre enc Tryd.prog Tryd.f6 [] false w args ∧ laidMetH Tryd.prog Rows.imagePlaysRow.laid w) ∧ sizedMet enc Tryd.prog Tryd.f6 (OpenSpec.ofChange Rows.imagePlaysSpec) false w args)
      (Rows.imagePlaysSpec.post enc Tryd.prog Tryd.f6 false true false false) := by
  refine returnsInHanded_of_change_and (C := Tryd.checked) (X := fun w _ => laidMetH Tryd.prog Rows.imagePlaysRow.laid w) (fun _ _ _ hh h => h.of_heap hh) own started (by kernel_rfl) Tryd.func6
    (ChangeSpec.witness_shaped (enc := enc) (C := Tryd.checked) (os := os) (X := fun w _ => laidMetH Tryd.prog Rows.imagePlaysRow.laid w) false (World.doorLaid Tryd.prog 4000 os) #[.agg #[.int .i64 0, .int .i64 0, .int .i64 0], .slice none 0 0] 8 rfl (World.shaped_of_RefB (by kernel_rfl) (by kernel_rfl)) (by kernel_rfl) (by kernel_rfl) (by kernel_rfl) (door_met os _)) ?_
  intro W base args ds gs before hval hW _ _ hL _
  exact contract H enc W base args ds gs before hval hW hL

theorem row : Rows.ImagePlaysSaid :=
  OpenClaim.holds_of_wide 6 Tryd.f6 rfl rfl rfl rfl rfl rfl rfl ⟨rfl, rfl, rfl, rfl, rfl⟩ rfl rfl rfl rfl rfl (by kernel_rfl) Tryd.func6 (by kernel_rfl)
    (of_decide_eq_true (by kernel_rfl)) (by unfold Func.isWrapper; first | (rw [if_pos (by decide +kernel)]; kernel_rfl) | (rw [if_neg (by decide +kernel)]; exact ⟨rfl, rfl⟩))
    (fun os started H enc _ => lifted os started H enc)

theorem proved : Rows.ImagePlaysCardSaid :=
  Claim7.holds_tied_plain_at .later [] [.data] true Rows.imagePlaysCard.stood.harness Rows.imagePlaysCard.stood.looks
    row (fun _ h => by cases h) (by kernel_rfl) (fun _ h => by cases h) imagePlays_row_tie rfl ⟨rfl, rfl⟩ (by kernel_rfl) rfl
    (fun f fn hf hfn => by
      obtain rfl : f = 6 := (Option.some.inj ((show Tryd.prog.funcNamed Rows.imagePlaysRow.func = some 6 by kernel_rfl).symm.trans hf)).symm
      obtain rfl : fn = Tryd.f6 := (Option.some.inj (Tryd.func6.symm.trans hfn)).symm
      exact ⟨by kernel_rfl, fun j t ht => by
        rw [Tryd.params6] at ht
        have hall : ∀ x ∈ (#[61, 62] : Array TypeId), Tryd.prog.wantsStandIn x = false := by
          intro x hx
          simp only [List.mem_toArray, List.mem_cons, List.mem_nil_iff, or_false] at hx
          rcases hx with rfl | rfl
          all_goals kernel_rfl
        exact hall t (Array.mem_of_getElem? ht)⟩)
    (by kernel_rfl)
end Go.Proofs.YtpnodocjpedcmaaDoor.ImagePlays
