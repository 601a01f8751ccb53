/-
  DeflateStores: the walk: any text in stored blocks is the document's.
-/
import Derived.Test.YtakfllfbodiagaaDoorDfA
import Derived.Deep.RegionWith
import Derived.Deep.CutRange
namespace Go.Proofs.YtakfllfbodiagaaDoor.DeflateStores
open Go.ChangeShapes Go.WideShapes Go.ChangeAt Go.RowKit Go.Proofs.YtakfllfbodiagaaDoor.Kit Go.Proofs.YtakfllfbodiagaaDoor.Bits Go.Proofs.YtakfllfbodiagaaDoor.Df

set_option maxRecDepth 100000 in
set_option maxHeartbeats 6400000 in
theorem walk (A : Option Addr) (b : List Int) (c : Nat) (w : World) (hl : b.length ≤ c) (hm : c ≤ maxLen) (ho : Octets b) (hr : Holds w w.heap.size .u8 A b) (hL : Laid 0 lens w) :
    Calls Tryd.prog 4 #[.slice A b.length c] w fun e w' => e = .returned (.bool true) ∧ Below w.heap.size w w' := by
  have h29 : 0 < lens.length := by decide
  by_cases h3 : b.length ≤ 3000
  · have own0 := Own.empty (B := w.heap.size) w 5 .u8 (Nat.le_refl _)
    have hb0 : Below w.heap.size w (w.alloc (.cells #[] 5)) := (Below.refl _ _).alloc (Nat.le_refl _) _
    have hr0 := hr.below hb0
    have d0 : ¬ (3000 : Int) < (b.length : Int) := by omega
    go_enter Tryd.func4, Tryd.ntmps4
    go_wp2_with (at_builtin; refine wpList_append_ints (xs := []) (ys := b) _ rfl _ _ _ rfl elem8 own0 rfl rfl hr0 (by simp; omega) (by simp) ?_; intro v3 w3 own3 hg3 hb3 hv3)
    rw [List.nil_append] at own3
    obtain ⟨A3, c3, rfl, hl3, hm3, hr3⟩ := own3.opened
    have hb03 := hb0.trans hb3
    go_wp2_with fail
    refine (stored_any A3 b c3 w3 ho (by omega) hl3 hm3 hr3).mono ?_
    rintro e w4 ⟨v4, rfl, own4, hb4⟩
    obtain ⟨A4, c4, rfl, hl4, hm4, hr4⟩ := own4.opened
    have hb04 := hb03.trans (hb4.mono hb03.size)
    have hra := (hr.below hb04).more hb04.size
    have hrb := (hr3.below hb4).more hb4.size
    have hL4 := hL.below h29 hb04
    have hob := ho
    have hcv : ∀ W', Below w4.heap.size w4 W' → (convert 28 9 (.slice A4 (stB b).length c4)).run Tryd.prog W' = .ok (.string (strOfNums (stB b))) W' ∧
        (convert 28 9 (.slice A3 b.length c3)).run Tryd.prog W' = .ok (.string (strOfNums b)) W' ∧ (convert 28 9 (.slice A b.length c)).run Tryd.prog W' = .ok (.string (strOfNums b)) W' :=
      fun W' hb' => ⟨conv_any _ _ _ _ _ (hr4.below hb'), conv_any _ _ _ _ _ (hrb.below hb'), conv_any _ _ _ _ _ (hra.below hb')⟩
    have hst : ∀ W', Below w4.heap.size w4 W' → Calls Tryd.prog 15 #[.slice A b.length c] W' (GivesRow (stB b) W') := fun W' hb' => rstored_any A b c W' hob (by omega) hl hm ((hra.below hb').more hb'.size)
    have haw : ∀ W', Below w4.heap.size w4 W' → Calls Tryd.prog 13 #[] W' (Gives (.bool true) W') := fun W' hb' => awake_any W' (hL4.below h29 hb')
    have h40 : Below w4.heap.size w4 w4.drew := (Below.refl w4.heap.size w4).drew
    have Hcv := Lib.hid hcv
    have Hst := Lib.hid hst
    have Haw := Lib.hid haw
    obtain ⟨f1, f2, f3⟩ := hcv w4.drew h40
    clear hcv hst haw own4 own3 hL4 hob hr4 hra hrb hr3 hr hr0 own0 hg3 hv3 hL ho
    generalize stB b = zs at *
    go_wp2_with fail
    go_region_with (first
      | (go_at_call 15; refine (Hst.out _ h40).mono ?_; rintro e w5 ⟨v5, rfl, own5, hb5⟩; obtain ⟨A5, c5, rfl, hl5, hm5, hr5⟩ := own5.opened; have h50 : Below w4.heap.size w4 w5 := h40.trans (hb5.mono h40.size); obtain ⟨f51, f52, f53⟩ := Hcv.out _ h50; have f5 := conv_any w5 A5 zs c5 _ hr5)
      | (go_at_call 13; refine (Haw.out _ h50).mono ?_; rintro e w6 ⟨rfl, hb6⟩))
    all_goals
      go_wp2_with fail
      go_ret
      exact ⟨rfl, hb04.trans ((h50.trans (hb6.mono h50.size)).mono hb04.size)⟩
  · have d0 : (3000 : Int) < (b.length : Int) := by omega
    go_enter Tryd.func4, Tryd.ntmps4
    go_wp2_with (go_at_call 13; refine (awake_any _ hL).mono ?_; rintro e w5 ⟨rfl, hb5⟩)
    go_ret
    exact ⟨rfl, hb5⟩
end Go.Proofs.YtakfllfbodiagaaDoor.DeflateStores
