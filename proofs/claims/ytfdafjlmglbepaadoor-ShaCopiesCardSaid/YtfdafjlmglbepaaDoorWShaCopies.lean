/-
  ShaCopies: the walk: what is done to a copy changes nothing of a hash, nor the other way round.
-/
import Derived.Test.YtfdafjlmglbepaaDoorShE
import Derived.Test.YtfdafjlmglbepaaDoorShJ
namespace Go.Proofs.YtfdafjlmglbepaaDoor.ShaCopies
open Go.ChangeShapes Go.WideShapes Go.ChangeAt Go.RowKit Go.Proofs.YtfdafjlmglbepaaDoor.Kit Go.Proofs.YtfdafjlmglbepaaDoor.Sha

set_option maxRecDepth 100000 in
set_option maxHeartbeats 3200000 in
theorem walk (A : Option Addr) (xs : List Int) (c : Nat) (B : Option Addr) (ys : List Int) (d : Nat) (C : Option Addr) (zs : List Int) (f : Nat) (w : World) (hc : xs.length ≤ c) (hm : c ≤ maxLen) (ho : Octets xs) (hr : Holds w w.heap.size .u8 A xs)
    (hd : ys.length ≤ d) (hn : d ≤ maxLen) (hp : Octets ys) (hs : Holds w w.heap.size .u8 B ys) (hf : zs.length ≤ f) (hfm : f ≤ maxLen) (hzo : Octets zs) (hzr : Holds w w.heap.size .u8 C zs) (hL : LaidS w) :
    Calls Tryd.prog 6 #[.slice A xs.length c, .slice B ys.length d, .slice C zs.length f] w fun e w' => e = .returned (.bool true) ∧ Below w.heap.size w w' := by
  by_cases hsz : xs.length ≤ 400 ∧ ys.length ≤ 400 ∧ zs.length ≤ 400
  · obtain ⟨s1, s2, s3⟩ := hsz
    have hd1 : decide ((400 : Int) < (xs.length : Int)) = false := decide_eq_false (by omega)
    have hd2 : decide ((400 : Int) < (ys.length : Int)) = false := decide_eq_false (by omega)
    have hd3 : decide ((400 : Int) < (zs.length : Int)) = false := decide_eq_false (by omega)
    have hg0 : ∀ g, w.heap.size ≤ g → g ≠ 0 := fun g h => by have := hL.lt (by rw [cubes_length]; omega); omega
    have heq1 := Lib.hid (sum_eq (xs ++ ys))
    have hgd1 := Lib.hid (sum_guard (xs ++ ys))
    have heq2 := Lib.hid (sum_eq (xs ++ zs))
    have hgd2 := Lib.hid (sum_guard (xs ++ zs))
    have G1 := Lib.hid (fun W g (hb : Below w.heap.size w W) (hg : w.heap.size ≤ g) (h : HashIs W g []) => write_any g [] A xs c W h (by simp; omega) (fun _ h => absurd h (by simp)) hc hm ho ((hr.below hb).more hb.size) (far_of hr hg) (hL.below hb) (hg0 g hg))
    have G2 := Lib.hid (fun W g (hb : Below w.heap.size w W) (hg : w.heap.size ≤ g) (h : HashIs W g xs) => write_any g xs B ys d W h (by omega) ho hd hn hp ((hs.below hb).more hb.size) (far_of hs hg) (hL.below hb) (hg0 g hg))
    have G3 := Lib.hid (fun W g (hb : Below w.heap.size w W) (hg : w.heap.size ≤ g) (h : HashIs W g xs) => write_any g xs C zs f W h (by omega) ho hf hfm hzo ((hzr.below hb).more hb.size) (far_of hzr hg) (hL.below hb) (hg0 g hg))
    have G4 := Lib.hid (fun W g (hb : Below w.heap.size w W) (hg : w.heap.size ≤ g) (h : HashIs W g (xs ++ ys)) => hsum_any g (xs ++ ys) W h (by rw [List.length_append]; omega) (fun x hx => (List.mem_append.1 hx).elim (ho x) (hp x)) (hL.below hb) (hg0 g hg))
    have G5 := Lib.hid (fun W g (hb : Below w.heap.size w W) (hg : w.heap.size ≤ g) (h : HashIs W g (xs ++ zs)) => hsum_any g (xs ++ zs) W h (by rw [List.length_append]; omega) (fun x hx => (List.mem_append.1 hx).elim (ho x) (hzo x)) (hL.below hb) (hg0 g hg))
    have G6 := Lib.hid (fun W A' (h : HoldsW W W.heap.size A' [⟨A, c, xs⟩, ⟨B, d, ys⟩]) => join_two W A' (by omega) (by omega) h)
    have G7 := Lib.hid (fun W A' (h : HoldsW W W.heap.size A' [⟨A, c, xs⟩, ⟨C, f, zs⟩]) => join_two W A' (by omega) (by omega) h)
    have G8 := Lib.hid (fun W A2 c2 (h2 : (xs ++ ys).length ≤ c2) (h3 : c2 ≤ maxLen) (h4 : Holds W W.heap.size .u8 A2 (xs ++ ys)) => rsum_any A2 (xs ++ ys) c2 W (by rw [List.length_append]; omega) h2 h3 (fun x hx => (List.mem_append.1 hx).elim (ho x) (hp x)) h4)
    have G9 := Lib.hid (fun W A2 c2 (h2 : (xs ++ zs).length ≤ c2) (h3 : c2 ≤ maxLen) (h4 : Holds W W.heap.size .u8 A2 (xs ++ zs)) => rsum_any A2 (xs ++ zs) c2 W (by rw [List.length_append]; omega) h2 h3 (fun x hx => (List.mem_append.1 hx).elim (ho x) (hzo x)) h4)
    have GR := Lib.hid (fun W (hb : Below w.heap.size w W) => two_rows (w := W) hc hm ho ((hr.below hb).more hb.size) hd hn hp ((hs.below hb).more hb.size))
    have GQ := Lib.hid (fun W (hb : Below w.heap.size w W) => two_rows (w := W) hc hm ho ((hr.below hb).more hb.size) hf hfm hzo ((hzr.below hb).more hb.size))
    unfold maxLen at hm hn hfm
    go_enter Tryd.func6, Tryd.ntmps6
    go_wp2_with fail
    refine (new_any w).mono ?_
    rintro e w3 ⟨rfl, h3, b3⟩
    have hg := Nat.le_refl w.heap.size
    have hw3 : w.heap.size < w3.heap.size := h3.lt
    go_wp2_with fail
    refine (G1.out _ _ b3 hg h3).mono ?_
    rintro e w4 ⟨rfl, h4, t4⟩
    rw [List.nil_append] at h4
    have b4 := b3.trans (t4.toBelow b3.size fun b hb he => by omega)
    have hw4 : w.heap.size < w4.heap.size := h4.lt
    clear b3 h3 t4 hw3
    go_wp2_with fail
    refine (copy_any _ _ _ h4).mono ?_
    rintro e w5 ⟨rfl, hx5, hb5⟩
    have h5 := h4.below hb5 h4.lt
    have b5 := b4.trans (hb5.mono b4.size)
    have hk := b4.size
    clear b4 h4 hb5
    generalize w4.heap.size = k at *
    go_wp2_with fail
    refine (G2.out _ _ b5 hg h5).mono ?_
    rintro e w6 ⟨rfl, h6, t6⟩
    have b6 := b5.trans (t6.toBelow b5.size fun b hb he => by omega)
    have hx6 := hx5.out t6 (by omega)
    clear b5 h5 hx5 t6
    go_wp2_with fail
    refine (G3.out _ _ b6 hk hx6).mono ?_
    rintro e w7 ⟨rfl, hx7, t7⟩
    have b7 := b6.trans (t7.toBelow b6.size fun b hb he => by omega)
    have h7 := h6.out t7 (by omega)
    clear b6 h6 hx6 t7
    go_wp2_with fail
    refine (G4.out _ _ b7 hg h7).mono ?_
    rintro e w8 ⟨rfl, hb8⟩
    have b8 := b7.trans (hb8.mono b7.size)
    have hx8 := hx7.below hb8 hx7.lt
    have rows8 := GR.out _ b8
    have hx9 := hx8.below ((Below.refl w8.heap.size w8).alloc (Nat.le_refl _) (.cells #[.slice A xs.length c, .slice B ys.length d] 22)) hx8.lt
    have b9 := b8.alloc b8.size (.cells #[.slice A xs.length c, .slice B ys.length d] 22)
    clear b7 h7 hx7 hb8 hx8
    go_wp2_with fail
    refine (G6.out _ _ rows8).mono ?_
    rintro e w10 ⟨v7, rfl, own7, hb10⟩
    obtain ⟨A7, c7, rfl, k7, m7, hr7⟩ := own7.opened
    have b10 := b9.trans (hb10.mono b9.size)
    have hx10 := hx9.below hb10 hx9.lt
    have G8 := Lib.hid (G8.out w10 A7 c7 k7 m7 hr7)
    have heq1 := heq1.out
    have hgd1 := hgd1.out
    generalize sumL (xs ++ ys) = us at *
    clear rows8 own7 hb10 hx9 b9 hr7
    rw [List.length_append] at *
    go_wp2_with fail
    refine G8.out.mono ?_
    rintro e w11 ⟨rfl, hb11⟩
    have b11 := b10.trans (hb11.mono b10.size)
    have hx11 := hx10.below hb11 hx10.lt
    clear hb11 hx10 b10
    go_wp2_with fail
    refine (G5.out _ _ b11 hk hx11).mono ?_
    rintro e w12 ⟨rfl, hb12⟩
    have b12 := b11.trans (hb12.mono b11.size)
    have rows12 := GQ.out _ b12
    have b13 := b12.alloc b12.size (.cells #[.slice A xs.length c, .slice C zs.length f] 22)
    clear b11 hx11 hb12
    go_wp2_with fail
    refine (G7.out _ _ rows12).mono ?_
    rintro e w14 ⟨v8, rfl, own8, hb14⟩
    obtain ⟨A8, c8, rfl, k8, m8, hr8⟩ := own8.opened
    have b14 := b13.trans (hb14.mono b13.size)
    rw [List.length_append] at k8
    have G9 := Lib.hid (G9.out w14 A8 c8 k8 m8 hr8)
    have heq2 := heq2.out
    have hgd2 := hgd2.out
    generalize sumL (xs ++ zs) = us2 at *
    clear rows12 own8 hb14 b13 hr8
    rw [List.length_append] at *
    go_wp2_with (first
      | (go_at_call 10; refine G9.out.mono ?_; rintro e w8 ⟨rfl, hb8⟩; have b8 := b14.trans (hb8.mono b14.size))
      | (go_at_call 8; refine (awake_any _ (hL.below b8)).mono ?_; rintro e w9 ⟨rfl, hb9⟩; have b9 := b8.trans (hb9.mono b8.size)))
    go_ret
    exact ⟨rfl, b9⟩
  · have hh : ∃ t1 t2 t3 : Bool, decide ((400 : Int) < (xs.length : Int)) = t1 ∧ decide ((400 : Int) < (ys.length : Int)) = t2 ∧ decide ((400 : Int) < (zs.length : Int)) = t3 ∧ (t1 = true ∨ t2 = true ∨ t3 = true) := ⟨_, _, _, rfl, rfl, rfl, by simp only [decide_eq_true_eq]; omega⟩
    obtain ⟨t1, t2, t3, hd1, hd2, hd3, ht⟩ := hh
    clear hsz
    unfold maxLen at hm hn hfm
    cases t1 <;> cases t2 <;> cases t3
    case false.false.false => simp at ht
    all_goals
      clear ht
      go_enter Tryd.func6, Tryd.ntmps6
      go_wp2_with (go_at_call 8; refine (awake_any _ hL).mono ?_; rintro e w1 ⟨rfl, hb1⟩)
      go_ret
      exact ⟨rfl, hb1⟩
end Go.Proofs.YtfdafjlmglbepaaDoor.ShaCopies
