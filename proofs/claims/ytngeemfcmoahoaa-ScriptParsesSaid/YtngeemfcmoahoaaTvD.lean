/-
  Layer 30, the kind of a first word, as the program finds it: a contract. Conditions: as each theorem names.
-/
import Derived.Test.YtngeemfcmoahoaaTvC
import Derived.Test.YtngeemfcmoahoaaTzB
namespace Go.Proofs.Ytngeemfcmoahoaa.Tv
open Go.ChangeShapes Go.WideShapes Go.ChangeAt Go.RowKit Go.Proofs.Ytngeemfcmoahoaa.Kit Go.Proofs.Ytngeemfcmoahoaa.Tx Go.Proofs.Ytngeemfcmoahoaa.Ty Go.Proofs.Ytngeemfcmoahoaa.Tz

theorem form_word (k : Nat) (h1 : 1 ≤ k) (h2 : k ≤ 10) : ∃ f, formL (wordP k) = some (f, (k : Int)) := by
  obtain rfl | rfl | rfl | rfl | rfl | rfl | rfl | rfl | rfl | rfl : k = 1 ∨ k = 2 ∨ k = 3 ∨ k = 4 ∨ k = 5 ∨ k = 6 ∨ k = 7 ∨ k = 8 ∨ k = 9 ∨ k = 10 := by omega
  all_goals exact ⟨_, rfl⟩
theorem form_none {cs : List Int} (h : ∀ k : Nat, 1 ≤ k → k ≤ 10 → wordP k ≠ cs) : formL cs = none := by
  unfold formL
  rw [if_neg (fun e => h 1 (by omega) (by omega) e.symm), if_neg (fun e => h 2 (by omega) (by omega) e.symm), if_neg (fun e => h 3 (by omega) (by omega) e.symm), if_neg (fun e => h 4 (by omega) (by omega) e.symm), if_neg (fun e => h 5 (by omega) (by omega) e.symm), if_neg (fun e => h 6 (by omega) (by omega) e.symm), if_neg (fun e => h 7 (by omega) (by omega) e.symm), if_neg (fun e => h 8 (by omega) (by omega) e.symm), if_neg (fun e => h 9 (by omega) (by omega) e.symm), if_neg (fun e => h 10 (by omega) (by omega) e.symm)]
def kindE (cs : List Int) : Ending := match formL cs with
  | some (_, k) => .returned (.int .u8 k)
  | none => .panicked [{ v := .iface 71 (.agg #[]), recovered := false }]

set_option maxRecDepth 100000 in
set_option maxHeartbeats 6400000 in
theorem kind_any (s : ByteArray) (w : World) : Calls Try.prog 33 #[.string s] w fun e w' => e = kindE (numsOf s) ∧ w = w' := by
  have GW := Lib.hid (fun k => word_any k w)
  go_enter Try.func33, Try.ntmps33
  go_wp2_with fail
  go_loop [3] (fun u => ∃ k : Nat, 1 ≤ k ∧ k ≤ 11 ∧ u = .int .u8 k ∧ Hid (∀ j : Nat, 1 ≤ j → j < k → wordP j ≠ numsOf s)) (fun u => 11 - (intOf u).toNat)
  case atStart => exact ⟨1, by omega, by omega, rfl, Lib.hid fun j h1 h2 => by omega⟩
  case round =>
    obtain ⟨k, hk1, hk, rfl, HA⟩ := hrel
    by_cases hlt : k ≤ 10
    · have dj : decide ((k : Int) ≤ 10) = true := decide_eq_true (by omega)
      have dj2 : decide (k ≤ 10) = true := decide_eq_true hlt
      have q1 : IntKind.u8.wrap ((k : Int) + 1) = ((k + 1 : Nat) : Int) := by rw [IntKind.wrap_u8]; omega
      have G := GW.out (k : Int)
      obtain ⟨sw, hsw⟩ : ∃ sw, strOfNums (wordP k) = sw := ⟨_, rfl⟩
      have hnw : numsOf sw = wordP k := by rw [← hsw]; exact nums_str (word_octets _)
      rw [hsw] at G
      have GH := Lib.hid G
      by_cases hq : wordP k = numsOf s
      · obtain ⟨f, hf⟩ := form_word k hk1 hlt
        have HE := Lib.hid (show kindE (numsOf s) = .returned (.int .u8 k) by unfold kindE; rw [← hq, hf])
        have hss : sw = s := by rw [← hsw, hq, str_nums]
        subst hss
        have kb : (sw.toList == sw.toList) = true := beq_self_eq_true _
        clear hsw hnw hq hf G
        go_wp2_with fail
        refine GH.out.mono ?_
        rintro e w2 ⟨rfl, hw2⟩
        obtain rfl := hw2
        go_wp2_with fail
        go_ret
        exact ⟨HE.out.symm, rfl⟩
      · have kb : (sw.toList == s.toList) = false := by
          rw [beq_eq_false_iff_ne]
          intro he
          apply hq
          rw [← hnw]
          unfold numsOf
          rw [← ByteArray.toList_eq, ← ByteArray.toList_eq, he]
        have HA2 := Lib.hid (show ∀ j : Nat, 1 ≤ j → j < k + 1 → wordP j ≠ numsOf s by
          intro j h1 h2
          rcases Nat.lt_or_ge j k with h3 | h3
          · exact HA.out j h1 h3
          · obtain rfl : j = k := by omega
            exact hq)
        clear hsw hnw hq G
        go_wp2_with fail
        refine GH.out.mono ?_
        rintro e w2 ⟨rfl, hw2⟩
        obtain rfl := hw2
        go_wp2_with fail
        go_round
        case rel => exact ⟨k + 1, by omega, by omega, by go_num, HA2⟩
        case measure => simp [intOf] <;> omega
    · obtain rfl : k = 11 := by omega
      have HE := Lib.hid (show kindE (numsOf s) = .panicked [{ v := .iface 71 (.agg #[]), recovered := false }] by
        unfold kindE
        rw [form_none (fun j h1 h2 => HA.out j h1 (by omega))])
      go_wp2_with fail
      exact ⟨rfl, HE.out.symm, rfl⟩
end Go.Proofs.Ytngeemfcmoahoaa.Tv
