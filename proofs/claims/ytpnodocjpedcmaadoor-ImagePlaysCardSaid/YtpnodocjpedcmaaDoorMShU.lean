/-
  Layer 1, sha: the document's sum: contract; the program's sum of bytes. Conditions: as each theorem names.
-/
import Derived.Test.YtpnodocjpedcmaaDoorMShO
namespace Go.Proofs.YtpnodocjpedcmaaDoor.Sha
open Go.ChangeShapes Go.WideShapes Go.ChangeAt Go.RowKit Go.Proofs.YtpnodocjpedcmaaDoor.Kit

/-- New, behind the result's own block. -/
theorem new_at (w : World) (o : Obj) :
    Calls Tryd.prog 65 #[] (w.alloc o) fun e w' => e = .returned (.pointer (some ⟨w.heap.size + 1, 0, none⟩)) ∧ HashIs w' (w.heap.size + 1) [] ∧ Below (w.heap.size + 1) (w.alloc o) w' := by
  have h := new_any (w.alloc o)
  rwa [show (w.alloc o).heap.size = w.heap.size + 1 by simp] at h

theorem far_of {w : World} {k : IntKind} {A : Option Addr} {xs : List Int} {g : Nat} (hr : Holds w w.heap.size k A xs) (hg : w.heap.size ≤ g) : Far g A xs := fun hx a ha => by
  obtain ⟨b, off, rfl, hb, _⟩ := hr hx
  injection ha with ha
  subst ha
  show b ≠ g
  omega

set_option maxRecDepth 100000 in
set_option maxHeartbeats 3200000 in
theorem psum_any (A : Option Addr) (xs : List Int) (c : Nat) (w : World) (hx : xs.length ≤ 1000000000) (hc : xs.length ≤ c) (hm : c ≤ maxLen) (ho : Octets xs) (hr : Holds w w.heap.size .u8 A xs) (hL : LaidS w) :
    Calls Tryd.prog 92 #[.slice A xs.length c] w fun e w' => e = .returned (arrV .u8 (sumL xs)) ∧ Below w.heap.size w w' := by
  have hg0 : w.heap.size + 1 ≠ 0 := by have := hL.lt (by rw [cubes_length]; omega); omega
  have hfar : Far (w.heap.size + 1) A xs := far_of hr (by omega)
  have GW := fun w1 (h1 : HashIs w1 (w.heap.size + 1) []) (hb : Below w.heap.size w w1) => write_any (w.heap.size + 1) [] A xs c w1 h1 (by simp; omega) (fun _ h => absurd h (by simp)) hc hm ho ((hr.below hb).more hb.size) hfar (hL.below hb) hg0
  simp only [List.nil_append] at GW
  have GS := fun w1 (h1 : HashIs w1 (w.heap.size + 1) xs) (hl : LaidS w1) => hsum_any (w.heap.size + 1) xs w1 h1 hx ho hl hg0
  have GW := Lib.hid GW
  have GS := Lib.hid GS
  have hsl := Lib.hid (sumL_length xs)
  have arr32 : Tryd.prog.underlying 48 = some (.array 32 5) := Tryd.underlying48
  have hb0 : Below w.heap.size w (w.alloc (.cells ((List.replicate 32 (0 : Int)).map (Value.int .u8)).toArray 48)) := (Below.refl _ w).alloc (Nat.le_refl _) _
  have r0 : Arr (w.alloc (.cells ((List.replicate 32 (0 : Int)).map (Value.int .u8)).toArray 48)) w.heap.size 48 .u8 (List.replicate 32 0) := Arr.new w _ _ _
  go_enter Tryd.func92, Tryd.ntmps92
  go_wp2_with (first
    | (go_at_call 65; refine (new_at w _).mono ?_; rintro e w1 ⟨rfl, h1, hb1⟩; have r1 := Block.below r0 hb1 (by omega); have hb1 := hb0.trans (hb1.mono (by omega)))
    | (go_at_call 67; refine (GW.out _ h1 hb1).mono ?_; rintro e w2 ⟨rfl, h2, t2⟩; have hb2 := hb1.trans (t2.toBelow hb1.size (fun b hb he => by omega)); have hL2 := hL.below hb2; have r2 := Block.out r1 t2 (by omega))
    | (go_at_call 68; refine (GS.out _ h2 hL2).mono ?_; rintro e w3 ⟨rfl, hb3⟩; have r3 : Arr w3 w.heap.size 48 .u8 (List.replicate 32 0) := Block.below r2 hb3 (Block.lt r2))
    | (have _t := r3; refine wpList_store_arr rfl _ _ _ rfl r3 rfl rfl (by rw [hsl.out]; rfl) (by rw [hsl.out]; kernel_rfl) ?_; intro w9 r9 g9))
  refine bodyPost_ret (v := arrV .u8 (sumL xs)) (results_cell_row rfl _ _ w.heap.size 48 _ (0, 0) _ rfl r9 arr32 rfl (by rw [show ((sumL xs).map (Value.int .u8)).toArray.size = 32 by simp [sumL_length]]; kernel_rfl)) rfl ⟨rfl, ?_⟩
  have hb4 := hb2.trans (hb3.mono hb2.size)
  exact hb4.trans (below_of_grown g9 hb4.size fun b hb => by injection hb with hb; omega)
end Go.Proofs.YtpnodocjpedcmaaDoor.Sha
