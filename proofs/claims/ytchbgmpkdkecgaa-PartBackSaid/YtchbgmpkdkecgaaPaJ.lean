/-
  Layer 7, part: the law's great: contract. Conditions: as each theorem names.
-/
import Derived.Test.YtchbgmpkdkecgaaPaI
namespace Go.Proofs.Ytchbgmpkdkecgaa.Pt
open Go.ChangeShapes Go.WideShapes Go.ChangeAt Go.RowKit Go.Proofs.Ytchbgmpkdkecgaa.Kit
open Go.Proofs.Ytchbgmpkdkecgaa.Sec (Tells)

def bigB (s : Step7) : Bool := decide (2000 < s.bs.length) || decide (60 < s.zs.length)
def greatB (ss : List Step7) : Bool := decide (40 < ss.length) || ss.any bigB
theorem great_no {ss : List Step7} (h : greatB ss = false) : ss.length ≤ 40 ∧ ∀ s ∈ ss, s.bs.length ≤ 2000 ∧ s.zs.length ≤ 60 := by
  unfold greatB at h
  rw [Bool.or_eq_false_iff] at h
  refine ⟨by have := of_decide_eq_false h.1; omega, fun s hs => ?_⟩
  have := (List.any_eq_false.1 h.2 s hs |> Bool.eq_false_iff.2)
  unfold bigB at this
  rw [Bool.or_eq_false_iff] at this
  have h1 := of_decide_eq_false this.1
  have h2 := of_decide_eq_false this.2
  omega

set_option maxRecDepth 100000 in
set_option maxHeartbeats 3200000 in
theorem great_any (A : Option Addr) (ss : List Step7) (c : Nat) (B : Nat) (w : World) (hc : ss.length ≤ c) (hm : c ≤ maxLen) (hr : HoldsQ w B A ss) :
    Calls Try.prog 12 #[.slice A ss.length c] w (Tells (.bool (greatB ss)) w) := by
  unfold maxLen at hm
  by_cases h40 : (40 : Int) < ss.length
  · have hg : greatB ss = true := by unfold greatB; rw [decide_eq_true (by omega)]; rfl
    rw [hg]
    have hd : decide ((40 : Int) < (ss.length : Int)) = true := decide_eq_true h40
    go_enter Try.func12, Try.ntmps12
    go_wp2_with fail
    go_ret
    exact ⟨rfl, rfl⟩
  · have hd : decide ((40 : Int) < (ss.length : Int)) = false := decide_eq_false h40
    go_enter Try.func12, Try.ntmps12
    go_wp2_with fail
    go_loopw [3] (fun s wr => ∃ i : Nat, i ≤ ss.length ∧ s = .int .i64 i ∧ ((ss.take i).any bigB) = false ∧ wr = w) (fun s _ => ss.length - (intOf s).toNat)
    case atStart => exact ⟨0, Nat.zero_le _, rfl, by simp, rfl⟩
    case round =>
      obtain ⟨i, hi, rfl, hpre, rfl⟩ := hrel
      by_cases hlt : i < ss.length
      · obtain ⟨b, off, rfl, hbl, hra, -⟩ := stepAt7 hr hlt
        have c3 : wr.cell? ⟨b, off + i * 5 + 3, none⟩ = some (.slice ss[i].A ss[i].bs.length ss[i].cap) := hra 3 _ rfl
        have c4 : wr.cell? ⟨b, off + i * 5 + 4, none⟩ = some (.slice ss[i].A2 ss[i].zs.length ss[i].cap2) := hra 4 _ rfl
        have hnext : ss.take (i + 1) = ss.take i ++ [ss[i]] := (List.take_append_getElem hlt).symm
        have hmem := List.getElem_mem hlt
        have d0 : decide ((i : Int) < (ss.length : Int)) = true := decide_eq_true (by omega)
        generalize ss[i] = s at *
        clear hra
        have hpre2 : ((ss.take (i + 1)).any bigB) = bigB s := by rw [hnext, List.any_append, hpre]; simp
        have hgt : bigB s = true → greatB ss = true := fun h => by
          unfold greatB
          rw [List.any_eq_true.2 ⟨s, hmem, h⟩, Bool.or_true]
        have HP := Lib.hid hpre2
        have HG := Lib.hid hgt
        clear hnext hmem hpre hpre2 hgt
        cases h1 : decide ((2000 : Int) < (s.bs.length : Int)) with
        | true =>
          have h3 : Hid (bigB s = true) := Lib.hid (by unfold bigB; rw [decide_eq_true (by have := of_decide_eq_true h1; omega)]; rfl)
          go_wp2_with fail
          go_ret
          exact ⟨by rw [HG.out h3.out]; rfl, rfl⟩
        | false =>
          cases h2 : decide ((60 : Int) < (s.zs.length : Int)) with
          | true =>
            have h3 : Hid (bigB s = true) := Lib.hid (by unfold bigB; rw [decide_eq_true (show 60 < s.zs.length by have := of_decide_eq_true h2; omega), Bool.or_true])
            go_wp2_with fail
            go_ret
            exact ⟨by rw [HG.out h3.out]; rfl, rfl⟩
          | false =>
            have h3 : Hid (bigB s = false) := Lib.hid (by unfold bigB; rw [decide_eq_false (show ¬ 2000 < s.bs.length by have := of_decide_eq_false h1; omega), decide_eq_false (show ¬ 60 < s.zs.length by have := of_decide_eq_false h2; omega)]; rfl)
            go_wp2_with fail
            go_roundw
            case rel => exact ⟨i + 1, by omega, by go_num, HP.out.trans h3.out, by first | rfl | trivial⟩
            case measure => simp [intOf]; omega
      · have d0 : decide ((i : Int) < (ss.length : Int)) = false := decide_eq_false (by omega)
        obtain rfl : i = ss.length := by omega
        rw [List.take_length] at hpre
        have hg : greatB ss = false := by
          unfold greatB
          rw [hpre, decide_eq_false (by omega)]
          rfl
        have HG := Lib.hid hg
        clear hg hpre
        go_wp2_with fail
        go_ret
        exact ⟨by rw [HG.out]; rfl, rfl⟩
end Go.Proofs.Ytchbgmpkdkecgaa.Pt
