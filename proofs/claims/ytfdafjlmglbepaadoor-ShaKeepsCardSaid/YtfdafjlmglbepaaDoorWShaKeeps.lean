/-
  ShaKeeps: the walk: bytes that were taken aren't kept.
-/
import Derived.Test.YtfdafjlmglbepaaDoorShE
import Derived.Test.YtfdafjlmglbepaaDoorShJ
namespace Go.Proofs.YtfdafjlmglbepaaDoor.ShaKeeps
open Go.ChangeShapes Go.WideShapes Go.ChangeAt Go.RowKit Go.Proofs.YtfdafjlmglbepaaDoor.Kit Go.Proofs.YtfdafjlmglbepaaDoor.Sha

set_option maxRecDepth 100000 in
set_option maxHeartbeats 3200000 in
theorem walk (A : Option Addr) (xs : List Int) (c : Nat) (B : Option Addr) (ys : List Int) (d : Nat) (w : World) (hc : xs.length ≤ c) (hm : c ≤ maxLen) (ho : Octets xs) (hr : Holds w w.heap.size .u8 A xs)
    (hd : ys.length ≤ d) (hn : d ≤ maxLen) (hp : Octets ys) (hs : Holds w w.heap.size .u8 B ys) (hL : LaidS w) :
    Calls Tryd.prog 5 #[.slice A xs.length c, .slice B ys.length d] w fun e w' => e = .returned (.bool true) ∧ Below w.heap.size w w' := by
  by_cases h3 : (400 : Int) < xs.length
  · have hd1 : decide ((400 : Int) < (xs.length : Int)) = true := decide_eq_true h3
    unfold maxLen at hm hn
    go_enter Tryd.func5, Tryd.ntmps5
    go_wp2_with (go_at_call 8; refine (awake_any _ hL).mono ?_; rintro e w1 ⟨rfl, hb1⟩)
    go_ret
    exact ⟨rfl, hb1⟩
  by_cases h4 : (400 : Int) < ys.length
  · have hd1 : decide ((400 : Int) < (xs.length : Int)) = false := decide_eq_false h3
    have hd2 : decide ((400 : Int) < (ys.length : Int)) = true := decide_eq_true h4
    unfold maxLen at hm hn
    go_enter Tryd.func5, Tryd.ntmps5
    go_wp2_with (go_at_call 8; refine (awake_any _ hL).mono ?_; rintro e w1 ⟨rfl, hb1⟩)
    go_ret
    exact ⟨rfl, hb1⟩
  have hd1 : decide ((400 : Int) < (xs.length : Int)) = false := decide_eq_false h3
  have hd2 : decide ((400 : Int) < (ys.length : Int)) = false := decide_eq_false h4
  have hg0 : ∀ W g, Below w.heap.size w W → w.heap.size ≤ g → g ≠ 0 := fun W g _ h => by have := hL.lt (by rw [cubes_length]; omega); omega
  have o0 := Own.empty (B := w.heap.size) w 5 .u8 (Nat.le_refl _)
  have b0 := (Below.refl w.heap.size w).alloc (Nat.le_refl _) (.cells #[] 5)
  have heq := Lib.hid (sum_eq (xs ++ ys))
  have hgd := Lib.hid (sum_guard (xs ++ ys))
  have G4 := Lib.hid (fun W g (hb : Below w.heap.size w W) (hg : w.heap.size ≤ g) (h : HashIs W g (xs ++ ys)) => hsum_any g (xs ++ ys) W h (by rw [List.length_append]; omega) (fun x hx => (List.mem_append.1 hx).elim (ho x) (hp x)) (hL.below hb) (hg0 W g hb hg))
  have G1 := Lib.hid (fun W g A2 c2 (hb : Below w.heap.size w W) (hg : w.heap.size ≤ g) (h : HashIs W g []) (h2 : xs.length ≤ c2) (h3 : c2 ≤ maxLen) (h4 : Holds W W.heap.size .u8 A2 xs) (h5 : Far g A2 xs) => write_any g [] A2 xs c2 W h (by simp; omega) (fun _ h => absurd h (by simp)) h2 h3 ho h4 h5 (hL.below hb) (hg0 W g hb hg))
  have G2 := Lib.hid (fun W g (hb : Below w.heap.size w W) (hg : w.heap.size ≤ g) (h : HashIs W g xs) => write_any g xs B ys d W h (by omega) ho hd hn hp ((hs.below hb).more hb.size) (far_of hs hg) (hL.below hb) (hg0 W g hb hg))
  have hjl : joinL [⟨A, c, xs⟩, ⟨B, d, ys⟩] = xs ++ ys := by simp [joinL]
  have G5 : ∀ W A', HoldsW W W.heap.size A' [⟨A, c, xs⟩, ⟨B, d, ys⟩] → Calls Tryd.prog 16 #[.slice A' 2 2] W (Rowed (xs ++ ys) W) := fun W A' h => by
    have := joins_any A' [⟨A, c, xs⟩, ⟨B, d, ys⟩] 2 W (Nat.le_refl _) (by decide) h (by simp) (by intro r hr; simp at hr; rcases hr with rfl | rfl <;> (show List.length _ ≤ _; simp only []; omega))
    rwa [hjl] at this
  have G5 := Lib.hid G5
  have G6 := Lib.hid (fun W A2 c2 (h2 : (xs ++ ys).length ≤ c2) (h3 : c2 ≤ maxLen) (h4 : Holds W W.heap.size .u8 A2 (xs ++ ys)) => rsum_any A2 (xs ++ ys) c2 W (by rw [List.length_append]; omega) h2 h3 (fun x hx => (List.mem_append.1 hx).elim (ho x) (hp x)) h4)
  have GR := Lib.hid (fun W (hb : Below w.heap.size w W) => two_rows (w := W) hc hm ho ((hr.below hb).more hb.size) hd hn hp ((hs.below hb).more hb.size))
  clear hjl
  unfold maxLen at hm hn
  go_enter Tryd.func5, Tryd.ntmps5
  go_wp2_with (first
    | (refine wpList_append_ints _ rfl _ _ 22 rfl elem8j o0 rfl rfl ((hr.below b0)) (by simp; omega) b0.size ?_; intro v2 w2 own2 g2 b2 n2; clear o0))
  have b2 := b0.trans b2
  rw [List.nil_append] at own2
  obtain ⟨A2, c2, rfl, k1, k2, hr2⟩ := own2.opened
  refine (new_any w2).mono ?_
  rintro e w3 ⟨rfl, h3, hb3⟩
  have own3 := own2.below hb3
  have hlt2 := own2.lt
  have b3 := b2.trans (hb3.mono b2.size)
  have hg := b2.size
  have hr3 := (hr2.below hb3).more hb3.size
  have hf2 := far_of hr2 (Nat.le_refl _)
  clear n2 g2 own2 hr2
  generalize w2.heap.size = g at *
  go_wp2_with (go_at_call 13; refine (G1.out _ _ _ _ b3 hg h3 k1 k2 hr3 hf2).mono ?_; rintro e w4 ⟨rfl, h4, t4⟩; have b4 := b3.trans (t4.toBelow b3.size fun b hb he => by omega); have own4 := own3.out t4 (fun b hb he => by have := hlt2 b hb; omega); rw [List.nil_append] at h4; clear b3 h3 t4 own3 hr3)
  go_loopw [7] (fun s wr => ∃ (i : Nat) (zs : List Int), i ≤ xs.length ∧ s = .int .i64 i ∧ zs.length = xs.length ∧ Own wr w.heap.size 5 .u8 (.slice A2 xs.length c2) zs ∧ HashIs wr g xs ∧ Below w.heap.size w wr) (fun s _ => xs.length - (intOf s).toNat)
  case atStart => exact ⟨0, xs, by omega, rfl, rfl, own4, h4, b4⟩
  case round =>
    clear own4 h4 b4
    obtain ⟨i, zs, hi, rfl, hzl, own, hh, hb⟩ := hrel
    by_cases hlt : i < xs.length
    · obtain ⟨q, cap, he, hq1, hq2, _, _⟩ := own.form (by omega)
      injection he with e1 e2 e3
      subst e1 e3
      have hq : q < g := (hlt2 q rfl).2
      have cc := own.cellAt (i := i) hzl.symm (by omega)
      have ff := own.frozenAt hzl.symm i
      have own9 := (own.stored hzl.symm i 99).1
      have h9 := hh.out ((TurnsIn.refl (· = q) wr).setCell (p := ⟨q, i, none⟩) (.inl rfl) (.int .u8 99)) (by omega)
      have hb9 := hb.setCell (p := ⟨q, i, none⟩) hq1 (.int .u8 99)
      have hz9 : (zs.set i 99).length = xs.length := by rw [List.length_set]; exact hzl
      have Hz9 := Lib.hid hz9
      clear hzl hz9 own hh hb
      go_wp2_with fail
      go_roundw
      case rel => exact ⟨i + 1, zs.set i 99, by omega, by go_num, Hz9.out, own9, h9, hb9⟩
      case measure => simp [intOf] <;> omega
    · obtain rfl : i = xs.length := by omega
      clear hzl own hlt
      go_wp2_with (first
        | (go_at_call 13; refine (G2.out _ _ hb hg hh).mono ?_; rintro e w4 ⟨rfl, h4, t4⟩; have b4 := hb.trans (t4.toBelow hb.size fun b hb he => by omega); clear hh t4)
        | (go_at_call 15; refine (G4.out _ _ b4 hg h4).mono ?_; rintro e w5 ⟨rfl, hb5⟩; have b5 := b4.trans (hb5.mono b4.size); have rows5 := GR.out _ b5; have b6 := b5.alloc b5.size (.cells #[.slice A xs.length c, .slice B ys.length d] 22)))
      refine (G5.out _ _ rows5).mono ?_
      rintro e w7 ⟨v7, rfl, own7, hb7⟩
      obtain ⟨A7, c7, rfl, k7, m7, hr7⟩ := own7.opened
      have b7 := b6.trans (hb7.mono b6.size)
      clear rows5 own7 hb7
      have G7 := Lib.hid (G6.out w7 A7 c7 k7 m7 hr7)
      have heq := heq.out
      have hgd := hgd.out
      rw [List.length_append] at *
      generalize sumL (xs ++ ys) = zs at *
      go_wp2_with (first
        | (go_at_call 10; refine G7.out.mono ?_; rintro e w8 ⟨rfl, hb8⟩; have b8 := b7.trans (hb8.mono b7.size))
        | (go_at_call 8; refine (awake_any _ (hL.below b8)).mono ?_; rintro e w9 ⟨rfl, hb9⟩; have b9 := b8.trans (hb9.mono b8.size)))
      go_ret
      exact ⟨rfl, b9⟩
end Go.Proofs.YtfdafjlmglbepaaDoor.ShaKeeps
