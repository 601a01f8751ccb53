/-
  MerkleRoots: the walk: a leaf's sum, that of any two sums, and the root of any sums, are the document's.
-/
import Derived.Test.YtdfgdchmeikigaaDoorMkI
namespace Go.Proofs.YtdfgdchmeikigaaDoor.MerkleRoots
open Go.ChangeShapes Go.WideShapes Go.ChangeAt Go.RowKit Go.Proofs.YtdfgdchmeikigaaDoor.Kit Go.Proofs.YtdfgdchmeikigaaDoor.Sha Go.Proofs.YtdfgdchmeikigaaDoor.Mk

set_option maxRecDepth 100000 in
set_option maxHeartbeats 3200000 in
theorem walk (A : Option Addr) (xs : List Int) (c : Nat) (B : Option Addr) (l : List (List Int)) (d : Nat) (w : World) (hc : xs.length ≤ c) (hm : c ≤ maxLen) (ho : Octets xs) (hr : Holds w w.heap.size .u8 A xs)
    (hd : l.length ≤ d) (hn : d ≤ maxLen) (hs : HoldsD w w.heap.size B l) (hL : LaidS w) :
    Calls Tryd.prog 7 #[.slice A xs.length c, .slice B l.length d] w fun e w' => e = .returned (.bool true) ∧ Below w.heap.size w w' := by
  by_cases h3 : (500 : Int) < xs.length
  · have hd1 : decide ((500 : Int) < (xs.length : Int)) = true := decide_eq_true h3
    unfold maxLen at hm hn
    go_enter Tryd.func7, Tryd.ntmps7
    go_wp2_with (go_at_call 25; refine (awake_any _ hL).mono ?_; rintro e w1 ⟨rfl, hb1⟩)
    go_ret
    exact ⟨rfl, hb1⟩
  by_cases h4 : (100 : Int) < l.length
  · have hd1 : decide ((500 : Int) < (xs.length : Int)) = false := decide_eq_false h3
    have hd2 : decide ((100 : Int) < (l.length : Int)) = true := decide_eq_true h4
    unfold maxLen at hm hn
    go_enter Tryd.func7, Tryd.ntmps7
    go_wp2_with (go_at_call 25; refine (awake_any _ hL).mono ?_; rintro e w1 ⟨rfl, hb1⟩)
    go_ret
    exact ⟨rfl, hb1⟩
  have hd1 : decide ((500 : Int) < (xs.length : Int)) = false := decide_eq_false h3
  have hd2 : decide ((100 : Int) < (l.length : Int)) = false := decide_eq_false h4
  have hall := hs.all
  have g1 := Lib.hid (leaf_any A xs c w (by omega) hc hm ho hr hL)
  have g2 := Lib.hid (fun W (hb : Below w.heap.size w W) => rleaf_any A xs c W (by omega) hc hm ho ((hr.below hb).more hb.size))
  have g3 := Lib.hid (fun W (hb : Below w.heap.size w W) => digests_any B l d W hd hn (hs.on hb) (by omega))
  have g4 := Lib.hid (fun W A' c' (hb : Below w.heap.size w W) (h1 : l.length ≤ c') (h2 : c' ≤ maxLen) (h : HoldsD W W.heap.size A' l) => root_any l.length A' l c' W rfl h1 h2 h (hL.below hb))
  have g5 := Lib.hid (fun W (hb : Below w.heap.size w W) => rroot_any l.length B l d W rfl hd hn (hs.on hb))
  have hq1 : D32 (leafL xs) := leafL_d32 xs
  have hq2 : D32 (rootL l) := rootL_d32 hall (by omega)
  have e1 := fun W => dig_neq (leafL xs) hq1 W
  have e2 := fun W => dig_neq (rootL l) hq2 W
  have f1 := fun W x y => dig_guardn (leafL xs) x y W
  have f2 := fun W x y => dig_guardn (rootL l) x y W
  generalize leafL xs = u1 at *
  generalize rootL l = u2 at *
  have Hs := Lib.hid hs
  unfold maxLen at hm hn
  clear hq1 hq2 ho hr hs
  go_enter Tryd.func7, Tryd.ntmps7
  go_wp2_with (first
    | (go_at_call 26; refine g1.out.mono ?_; rintro e w1 ⟨rfl, hb1⟩)
    | (go_at_call 27; refine (g2.out _ hb1).mono ?_; rintro e w2 ⟨rfl, hb2⟩; have b2 := hb1.trans (hb2.mono hb1.size))
    | (go_at_call 29; refine (g3.out _ b2).mono ?_; rintro e w3 ⟨v3, rfl, own3, hb3⟩; have b3 := b2.trans (hb3.mono b2.size); obtain ⟨A3, c3, rfl, k3, m3, hr3⟩ := own3.opened; clear own3 hb3)
    | (go_at_call 28; refine (g4.out _ _ _ b3 k3 m3 hr3).mono ?_; rintro e w4 ⟨rfl, hb4⟩; have b4 := b3.trans (hb4.mono b3.size); clear hr3 hb4)
    | (go_at_call 30; refine (g5.out _ b4).mono ?_; rintro e w5 ⟨rfl, hb5⟩; have b5 := b4.trans (hb5.mono b4.size); clear hb5))
  have HL5 := Lib.hid (hL.below b5)
  by_cases h2 : (l.length : Int) < 2
  · have d2 : decide ((l.length : Int) < 2) = true := decide_eq_true h2
    refine wp_region_quiet_below (by kernel_rfl) (by kernel_rfl) ?_
    repeat (first | go_big_quiet_step (exact Calls.regrown_of (awake_any _ (HL5.out.below (below_regrown _ _ _)))))
    refine wpQuiet_nil ?_
    intro _ hw'
    obtain ⟨⟨dq, osq⟩, hw''⟩ := hw'
    have hbq := below_regrown w5 dq osq
    subst hw''
    go_wp2_with fail
    go_ret
    exact ⟨rfl, b5.trans (hbq.mono b5.size)⟩
  · have d2 : decide ((l.length : Int) < 2) = false := decide_eq_false h2
    obtain ⟨b, off, rfl, hbl, r0, q0⟩ := ((Hs.out).below b5).at_ (i := 0) (by omega)
    obtain ⟨b', off', he, _, r1, q1⟩ := ((Hs.out).below b5).at_ (i := 1) (by omega)
    injection he with he
    injection he with e1 e2
    subst e1 e2
    rw [Nat.zero_mul, Nat.add_zero] at r0
    rw [Nat.one_mul] at r1
    have G6 := Lib.hid (fun W (h : Below w5.heap.size w5 W) => pair_any l[0] l[1] W q0 q1 (HL5.out.below h))
    have G7 := Lib.hid (fun W => rpair_any l[0] l[1] W q0 q1)
    have e3 := fun W => dig_eq (pairL l[0] l[1]) (pairL_d32 _ _) W
    have f3 := fun W x y => dig_guard (pairL l[0] l[1]) x y W
    generalize pairL l[0] l[1] = u3 at *
    generalize l[0] = x0 at *
    generalize l[1] = x1 at *
    have n0 := Lib.hid q0.1
    have n1 := Lib.hid q1.1
    have i0 : (0 : Int) < (l.length : Int) := by omega
    have i1 : (1 : Int) < (l.length : Int) := by omega
    clear q0 q1
    refine wp_region_quiet_below (by kernel_rfl) (by kernel_rfl) ?_
    go_big_quiet_step (fail)
    go_big_quiet_step (fail)
    go_big_quiet_step (fail)
    go_big_quiet_step (fail)
    go_big_quiet_step (fail)
    go_big_quiet_step (fail)
    refine wpQuiet_step (fun K hK => ?_)
    refine quiet_load_row (by rfl) 24 _ (by rfl) b off (by rfl) (dcells x0) _ (range_regrown r0) arr32A (by rfl) (by unfold dcells; rw [List.length_map, n0.out]; kernel_rfl) ?_
    go_simp
    refine hK _ ?_
    clear hK K
    go_big_quiet_step (fail)
    go_big_quiet_step (fail)
    refine wpQuiet_step (fun K hK => ?_)
    refine quiet_load_row (by rfl) 24 _ (by rfl) b (off + 32) (by rfl) (dcells x1) _ (range_regrown r1) arr32A (by rfl) (by unfold dcells; rw [List.length_map, n1.out]; kernel_rfl) ?_
    go_simp
    refine hK _ ?_
    clear hK K
    quiet_step (exact Calls.regrown_of (G6.out _ (below_regrown _ _ _)))
    go_big_quiet_step (fail)
    go_big_quiet_step (fail)
    refine wpQuiet_step (fun K hK => ?_)
    refine quiet_load_row (by rfl) 24 _ (by rfl) b off (by rfl) (dcells x0) _ (range_regrown r0) arr32A (by rfl) (by unfold dcells; rw [List.length_map, n0.out]; kernel_rfl) ?_
    go_simp
    refine hK _ ?_
    clear hK K
    go_big_quiet_step (fail)
    go_big_quiet_step (fail)
    refine wpQuiet_step (fun K hK => ?_)
    refine quiet_load_row (by rfl) 24 _ (by rfl) b (off + 32) (by rfl) (dcells x1) _ (range_regrown r1) arr32A (by rfl) (by unfold dcells; rw [List.length_map, n1.out]; kernel_rfl) ?_
    go_simp
    refine hK _ ?_
    clear hK K
    quiet_step (exact Calls.regrown_of (G7.out _))
    repeat (first | go_big_quiet_step (exact Calls.regrown_of (awake_any _ (HL5.out.below (below_regrown _ _ _)))))
    refine wpQuiet_nil ?_
    intro _ hw'
    obtain ⟨⟨dq, osq⟩, hw''⟩ := hw'
    have hbq := below_regrown w5 dq osq
    subst hw''
    go_wp2_with fail
    go_ret
    exact ⟨rfl, b5.trans (hbq.mono b5.size)⟩
end Go.Proofs.YtdfgdchmeikigaaDoor.MerkleRoots
