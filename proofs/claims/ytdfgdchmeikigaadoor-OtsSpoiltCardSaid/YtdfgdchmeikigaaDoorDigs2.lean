/-
  Layer 2, octet: contracts of the lists of digits, and of the checks. Conditions: as each theorem names.
-/
import Derived.Test.YtdfgdchmeikigaaDoorDigs
namespace Go.Proofs.YtdfgdchmeikigaaDoor.Oct
open Go.ChangeShapes Go.WideShapes Go.ChangeAt Go.RowKit Go.Proofs.YtdfgdchmeikigaaDoor.Kit


theorem rdigits_no (A : Option Addr) (n c : Nat) (w : Int) (W : World) (hw : ¬ (w = 1 ∨ w = 2 ∨ w = 4 ∨ w = 8)) :
    Calls Tryd.prog 89 #[.slice A n c, .int .i64 w] W fun e W' => ∃ v, e = .returned v ∧ Own W' W.heap.size 3 .i64 v [] ∧ Below W.heap.size W W' := by
  have h1 : (w != 1) = true := by simp; omega
  have h2 : (w != 2) = true := by simp; omega
  have h3 : (w != 4) = true := by simp; omega
  have h4 : (w != 8) = true := by simp; omega
  clear hw
  go_enter Tryd.func89, Tryd.ntmps89
  go_wp2
  go_ret
  exact ⟨_, rfl, Own.empty W _ _ (Nat.le_refl _), (Below.refl _ _).alloc (Nat.le_refl _) _⟩

set_option maxHeartbeats 1600000 in
theorem rdigits_1 (A : Option Addr) (xs : List Int) (c : Nat) (W : World) (hn : xs.length ≤ 1000000) (ho : Octets xs) (hr : Holds W W.heap.size .u8 A xs) :
    Calls Tryd.prog 89 #[.slice A xs.length c, .int .i64 1] W fun e W' => ∃ v, e = .returned v ∧ Own W' W.heap.size 3 .i64 v (all xs 1) ∧ Below W.heap.size W W' := by
  have own0 := Own.empty (B := W.heap.size) W 3 .i64 (Nat.le_refl _)
  have hb0 : Below W.heap.size W (W.alloc (.cells #[] 3)) := (Below.refl _ _).alloc (Nat.le_refl _) _
  go_enter Tryd.func89, Tryd.ntmps89
  go_wp2
  go_loopw [5, 27] (fun v s wr => ∃ i : Nat, i ≤ xs.length ∧ s = .int .i64 i ∧ Own wr W.heap.size 3 .i64 v (all (xs.take i) 1) ∧ Below W.heap.size W wr) (fun _ s _ => xs.length - (intOf s).toNat)
  case atStart => exact ⟨0, Nat.zero_le _, rfl, by simpa [all] using own0, hb0⟩
  case round =>
    obtain ⟨i, hi, rfl, own1, hb1⟩ := hrel
    by_cases hlt : i < xs.length
    · obtain ⟨b, off, rfl, hbl, hc⟩ := hr (by omega)
      have hci := hc i hlt
      have hx := ho.at_ i
      have hsn := take_snoc xs i hlt
      rw [show xs.getD i 0 = xs[i]?.getD 0 by simp [List.getD]] at hci
      generalize xs[i]?.getD 0 = x at *
      have hlen1 : (all (xs.take i) 1).length ≤ 8000000 := by
        rw [← dgs_all 1 (by decide), dgs_length]; simp; omega
      generalize xs.take i = pre at *
      have Hsn := Lib.hid hsn
      clear hc hsn
      go_wp2_with fail
      go_loopw [5, 7, 8] (fun v d s wr => ∃ k : Nat, k ≤ 8 ∧ s = .int .i64 k ∧ d = .int .i64 (part x 1 k) ∧ Own wr W.heap.size 3 .i64 v (all pre 1 ++ (one x 1).take (k / 1)) ∧ Below W.heap.size W wr) (fun _ _ s _ => 8 - (intOf s).toNat)
      case atStart => exact ⟨0, by omega, rfl, by simp [part], by simpa using own1, hb1⟩
      case round =>
        obtain ⟨k, hk, rfl, rfl, own2, hb2⟩ := hrel
        by_cases hk8 : k < 8
        · have hp := part_bd x 1 k (by decide)
          have hsz := hb2.size
          have hq := div_bd x (7 - k) hx
          have hlen2 : (all pre 1 ++ (one x 1).take (k / 1)).length ≤ 8000008 := by rw [List.length_append, List.length_take, one_length]; omega
          have hcw := (hb2.cell (p := ⟨b, off + i, none⟩) hbl).trans hci
          by_cases hkw : k % 1 = 1 - 1
          · have hE := part_end x 1 k (by decide) hk8 hkw hx
            have hT : ((k : Int) % 1 == 1 - 1) = true := by rw [beq_iff_eq]; omega
            have HE := Lib.hid hE
            clear hE
            generalize part x 1 k = y at *
            go_wp2_with (at_builtin; refine wpList_append_one _ rfl _ _ _ rfl elemi own2 rfl rfl (by omega) (by omega) ?_; intro v3 w3 own3 hg3 hb3)
            go_roundw
            case rel => exact ⟨k + 1, by omega, by go_num, by rw [HE.out.1], by rw [HE.out.2, ← List.append_assoc]; exact own3, hb2.trans hb3⟩
            case measure => simp [intOf]; omega
          · exact absurd (Nat.mod_one k) hkw
        · go_wp2_with fail
          obtain rfl : k = 8 := by omega
          go_roundw
          case rel =>
            refine ⟨i + 1, by omega, by go_num, ?_, hb2⟩
            rw [Hsn.out, all_snoc]
            rwa [List.take_of_length_le (by rw [one_length]; decide)] at own2
          case measure => simp [intOf]; omega
    · go_wp2_with fail
      obtain rfl : i = xs.length := by omega
      go_ret
      exact ⟨_, rfl, by rwa [List.take_of_length_le (Nat.le_refl _)] at own1, hb1⟩

set_option maxHeartbeats 1600000 in
theorem rdigits_2 (A : Option Addr) (xs : List Int) (c : Nat) (W : World) (hn : xs.length ≤ 1000000) (ho : Octets xs) (hr : Holds W W.heap.size .u8 A xs) :
    Calls Tryd.prog 89 #[.slice A xs.length c, .int .i64 2] W fun e W' => ∃ v, e = .returned v ∧ Own W' W.heap.size 3 .i64 v (all xs 2) ∧ Below W.heap.size W W' := by
  have own0 := Own.empty (B := W.heap.size) W 3 .i64 (Nat.le_refl _)
  have hb0 : Below W.heap.size W (W.alloc (.cells #[] 3)) := (Below.refl _ _).alloc (Nat.le_refl _) _
  go_enter Tryd.func89, Tryd.ntmps89
  go_wp2
  go_loopw [5, 27] (fun v s wr => ∃ i : Nat, i ≤ xs.length ∧ s = .int .i64 i ∧ Own wr W.heap.size 3 .i64 v (all (xs.take i) 2) ∧ Below W.heap.size W wr) (fun _ s _ => xs.length - (intOf s).toNat)
  case atStart => exact ⟨0, Nat.zero_le _, rfl, by simpa [all] using own0, hb0⟩
  case round =>
    obtain ⟨i, hi, rfl, own1, hb1⟩ := hrel
    by_cases hlt : i < xs.length
    · obtain ⟨b, off, rfl, hbl, hc⟩ := hr (by omega)
      have hci := hc i hlt
      have hx := ho.at_ i
      have hsn := take_snoc xs i hlt
      rw [show xs.getD i 0 = xs[i]?.getD 0 by simp [List.getD]] at hci
      generalize xs[i]?.getD 0 = x at *
      have hlen1 : (all (xs.take i) 2).length ≤ 8000000 := by
        rw [← dgs_all 2 (by decide), dgs_length]; simp; omega
      generalize xs.take i = pre at *
      have Hsn := Lib.hid hsn
      clear hc hsn
      go_wp2_with fail
      go_loopw [5, 7, 8] (fun v d s wr => ∃ k : Nat, k ≤ 8 ∧ s = .int .i64 k ∧ d = .int .i64 (part x 2 k) ∧ Own wr W.heap.size 3 .i64 v (all pre 2 ++ (one x 2).take (k / 2)) ∧ Below W.heap.size W wr) (fun _ _ s _ => 8 - (intOf s).toNat)
      case atStart => exact ⟨0, by omega, rfl, by simp [part], by simpa using own1, hb1⟩
      case round =>
        obtain ⟨k, hk, rfl, rfl, own2, hb2⟩ := hrel
        by_cases hk8 : k < 8
        · have hp := part_bd x 2 k (by decide)
          have hsz := hb2.size
          have hq := div_bd x (7 - k) hx
          have hlen2 : (all pre 2 ++ (one x 2).take (k / 2)).length ≤ 8000008 := by rw [List.length_append, List.length_take, one_length]; omega
          have hcw := (hb2.cell (p := ⟨b, off + i, none⟩) hbl).trans hci
          by_cases hkw : k % 2 = 2 - 1
          · have hE := part_end x 2 k (by decide) hk8 hkw hx
            have hT : ((k : Int) % 2 == 2 - 1) = true := by rw [beq_iff_eq]; omega
            have HE := Lib.hid hE
            clear hE
            generalize part x 2 k = y at *
            go_wp2_with (at_builtin; refine wpList_append_one _ rfl _ _ _ rfl elemi own2 rfl rfl (by omega) (by omega) ?_; intro v3 w3 own3 hg3 hb3)
            go_roundw
            case rel => exact ⟨k + 1, by omega, by go_num, by rw [HE.out.1], by rw [HE.out.2, ← List.append_assoc]; exact own3, hb2.trans hb3⟩
            case measure => simp [intOf]; omega
          · have hE := part_in x 2 k (by decide) hk8 hkw hx
            have hT : ((k : Int) % 2 == 2 - 1) = false := by rw [beq_eq_false_iff_ne]; omega
            have HE := Lib.hid hE
            clear hE
            generalize part x 2 k = y at *
            go_wp2_with fail
            go_roundw
            case rel => exact ⟨k + 1, by omega, by go_num, by rw [HE.out.1], by rw [HE.out.2]; exact own2, hb2⟩
            case measure => simp [intOf]; omega
        · go_wp2_with fail
          obtain rfl : k = 8 := by omega
          go_roundw
          case rel =>
            refine ⟨i + 1, by omega, by go_num, ?_, hb2⟩
            rw [Hsn.out, all_snoc]
            rwa [List.take_of_length_le (by rw [one_length]; decide)] at own2
          case measure => simp [intOf]; omega
    · go_wp2_with fail
      obtain rfl : i = xs.length := by omega
      go_ret
      exact ⟨_, rfl, by rwa [List.take_of_length_le (Nat.le_refl _)] at own1, hb1⟩

set_option maxHeartbeats 1600000 in
theorem rdigits_4 (A : Option Addr) (xs : List Int) (c : Nat) (W : World) (hn : xs.length ≤ 1000000) (ho : Octets xs) (hr : Holds W W.heap.size .u8 A xs) :
    Calls Tryd.prog 89 #[.slice A xs.length c, .int .i64 4] W fun e W' => ∃ v, e = .returned v ∧ Own W' W.heap.size 3 .i64 v (all xs 4) ∧ Below W.heap.size W W' := by
  have own0 := Own.empty (B := W.heap.size) W 3 .i64 (Nat.le_refl _)
  have hb0 : Below W.heap.size W (W.alloc (.cells #[] 3)) := (Below.refl _ _).alloc (Nat.le_refl _) _
  go_enter Tryd.func89, Tryd.ntmps89
  go_wp2
  go_loopw [5, 27] (fun v s wr => ∃ i : Nat, i ≤ xs.length ∧ s = .int .i64 i ∧ Own wr W.heap.size 3 .i64 v (all (xs.take i) 4) ∧ Below W.heap.size W wr) (fun _ s _ => xs.length - (intOf s).toNat)
  case atStart => exact ⟨0, Nat.zero_le _, rfl, by simpa [all] using own0, hb0⟩
  case round =>
    obtain ⟨i, hi, rfl, own1, hb1⟩ := hrel
    by_cases hlt : i < xs.length
    · obtain ⟨b, off, rfl, hbl, hc⟩ := hr (by omega)
      have hci := hc i hlt
      have hx := ho.at_ i
      have hsn := take_snoc xs i hlt
      rw [show xs.getD i 0 = xs[i]?.getD 0 by simp [List.getD]] at hci
      generalize xs[i]?.getD 0 = x at *
      have hlen1 : (all (xs.take i) 4).length ≤ 8000000 := by
        rw [← dgs_all 4 (by decide), dgs_length]; simp; omega
      generalize xs.take i = pre at *
      have Hsn := Lib.hid hsn
      clear hc hsn
      go_wp2_with fail
      go_loopw [5, 7, 8] (fun v d s wr => ∃ k : Nat, k ≤ 8 ∧ s = .int .i64 k ∧ d = .int .i64 (part x 4 k) ∧ Own wr W.heap.size 3 .i64 v (all pre 4 ++ (one x 4).take (k / 4)) ∧ Below W.heap.size W wr) (fun _ _ s _ => 8 - (intOf s).toNat)
      case atStart => exact ⟨0, by omega, rfl, by simp [part], by simpa using own1, hb1⟩
      case round =>
        obtain ⟨k, hk, rfl, rfl, own2, hb2⟩ := hrel
        by_cases hk8 : k < 8
        · have hp := part_bd x 4 k (by decide)
          have hsz := hb2.size
          have hq := div_bd x (7 - k) hx
          have hlen2 : (all pre 4 ++ (one x 4).take (k / 4)).length ≤ 8000008 := by rw [List.length_append, List.length_take, one_length]; omega
          have hcw := (hb2.cell (p := ⟨b, off + i, none⟩) hbl).trans hci
          by_cases hkw : k % 4 = 4 - 1
          · have hE := part_end x 4 k (by decide) hk8 hkw hx
            have hT : ((k : Int) % 4 == 4 - 1) = true := by rw [beq_iff_eq]; omega
            have HE := Lib.hid hE
            clear hE
            generalize part x 4 k = y at *
            go_wp2_with (at_builtin; refine wpList_append_one _ rfl _ _ _ rfl elemi own2 rfl rfl (by omega) (by omega) ?_; intro v3 w3 own3 hg3 hb3)
            go_roundw
            case rel => exact ⟨k + 1, by omega, by go_num, by rw [HE.out.1], by rw [HE.out.2, ← List.append_assoc]; exact own3, hb2.trans hb3⟩
            case measure => simp [intOf]; omega
          · have hE := part_in x 4 k (by decide) hk8 hkw hx
            have hT : ((k : Int) % 4 == 4 - 1) = false := by rw [beq_eq_false_iff_ne]; omega
            have HE := Lib.hid hE
            clear hE
            generalize part x 4 k = y at *
            go_wp2_with fail
            go_roundw
            case rel => exact ⟨k + 1, by omega, by go_num, by rw [HE.out.1], by rw [HE.out.2]; exact own2, hb2⟩
            case measure => simp [intOf]; omega
        · go_wp2_with fail
          obtain rfl : k = 8 := by omega
          go_roundw
          case rel =>
            refine ⟨i + 1, by omega, by go_num, ?_, hb2⟩
            rw [Hsn.out, all_snoc]
            rwa [List.take_of_length_le (by rw [one_length]; decide)] at own2
          case measure => simp [intOf]; omega
    · go_wp2_with fail
      obtain rfl : i = xs.length := by omega
      go_ret
      exact ⟨_, rfl, by rwa [List.take_of_length_le (Nat.le_refl _)] at own1, hb1⟩

set_option maxHeartbeats 1600000 in
theorem rdigits_8 (A : Option Addr) (xs : List Int) (c : Nat) (W : World) (hn : xs.length ≤ 1000000) (ho : Octets xs) (hr : Holds W W.heap.size .u8 A xs) :
    Calls Tryd.prog 89 #[.slice A xs.length c, .int .i64 8] W fun e W' => ∃ v, e = .returned v ∧ Own W' W.heap.size 3 .i64 v (all xs 8) ∧ Below W.heap.size W W' := by
  have own0 := Own.empty (B := W.heap.size) W 3 .i64 (Nat.le_refl _)
  have hb0 : Below W.heap.size W (W.alloc (.cells #[] 3)) := (Below.refl _ _).alloc (Nat.le_refl _) _
  go_enter Tryd.func89, Tryd.ntmps89
  go_wp2
  go_loopw [5, 27] (fun v s wr => ∃ i : Nat, i ≤ xs.length ∧ s = .int .i64 i ∧ Own wr W.heap.size 3 .i64 v (all (xs.take i) 8) ∧ Below W.heap.size W wr) (fun _ s _ => xs.length - (intOf s).toNat)
  case atStart => exact ⟨0, Nat.zero_le _, rfl, by simpa [all] using own0, hb0⟩
  case round =>
    obtain ⟨i, hi, rfl, own1, hb1⟩ := hrel
    by_cases hlt : i < xs.length
    · obtain ⟨b, off, rfl, hbl, hc⟩ := hr (by omega)
      have hci := hc i hlt
      have hx := ho.at_ i
      have hsn := take_snoc xs i hlt
      rw [show xs.getD i 0 = xs[i]?.getD 0 by simp [List.getD]] at hci
      generalize xs[i]?.getD 0 = x at *
      have hlen1 : (all (xs.take i) 8).length ≤ 8000000 := by
        rw [← dgs_all 8 (by decide), dgs_length]; simp; omega
      generalize xs.take i = pre at *
      have Hsn := Lib.hid hsn
      clear hc hsn
      go_wp2_with fail
      go_loopw [5, 7, 8] (fun v d s wr => ∃ k : Nat, k ≤ 8 ∧ s = .int .i64 k ∧ d = .int .i64 (part x 8 k) ∧ Own wr W.heap.size 3 .i64 v (all pre 8 ++ (one x 8).take (k / 8)) ∧ Below W.heap.size W wr) (fun _ _ s _ => 8 - (intOf s).toNat)
      case atStart => exact ⟨0, by omega, rfl, by simp [part], by simpa using own1, hb1⟩
      case round =>
        obtain ⟨k, hk, rfl, rfl, own2, hb2⟩ := hrel
        by_cases hk8 : k < 8
        · have hp := part_bd x 8 k (by decide)
          have hsz := hb2.size
          have hq := div_bd x (7 - k) hx
          have hlen2 : (all pre 8 ++ (one x 8).take (k / 8)).length ≤ 8000008 := by rw [List.length_append, List.length_take, one_length]; omega
          have hcw := (hb2.cell (p := ⟨b, off + i, none⟩) hbl).trans hci
          by_cases hkw : k % 8 = 8 - 1
          · have hE := part_end x 8 k (by decide) hk8 hkw hx
            have hT : ((k : Int) % 8 == 8 - 1) = true := by rw [beq_iff_eq]; omega
            have HE := Lib.hid hE
            clear hE
            generalize part x 8 k = y at *
            go_wp2_with (at_builtin; refine wpList_append_one _ rfl _ _ _ rfl elemi own2 rfl rfl (by omega) (by omega) ?_; intro v3 w3 own3 hg3 hb3)
            go_roundw
            case rel => exact ⟨k + 1, by omega, by go_num, by rw [HE.out.1], by rw [HE.out.2, ← List.append_assoc]; exact own3, hb2.trans hb3⟩
            case measure => simp [intOf]; omega
          · have hE := part_in x 8 k (by decide) hk8 hkw hx
            have hT : ((k : Int) % 8 == 8 - 1) = false := by rw [beq_eq_false_iff_ne]; omega
            have HE := Lib.hid hE
            clear hE
            generalize part x 8 k = y at *
            go_wp2_with fail
            go_roundw
            case rel => exact ⟨k + 1, by omega, by go_num, by rw [HE.out.1], by rw [HE.out.2]; exact own2, hb2⟩
            case measure => simp [intOf]; omega
        · go_wp2_with fail
          obtain rfl : k = 8 := by omega
          go_roundw
          case rel =>
            refine ⟨i + 1, by omega, by go_num, ?_, hb2⟩
            rw [Hsn.out, all_snoc]
            rwa [List.take_of_length_le (by rw [one_length]; decide)] at own2
          case measure => simp [intOf]; omega
    · go_wp2_with fail
      obtain rfl : i = xs.length := by omega
      go_ret
      exact ⟨_, rfl, by rwa [List.take_of_length_le (Nat.le_refl _)] at own1, hb1⟩

/-- The digits for whatever width: none where it is no width. -/
def digs (xs : List Int) (w : Int) : List Int := if w = 1 ∨ w = 2 ∨ w = 4 ∨ w = 8 then dgs xs w.toNat else []

/-- What a caller is told of a list of ints: a slice that reads zs. -/
def ReadsI (w : World) (zs : List Int) (e : Ending) (w' : World) : Prop :=
  ∃ (A : Option Addr) (c : Nat), e = .returned (.slice A zs.length c) ∧ zs.length ≤ c ∧ c ≤ maxLen ∧ Holds w' w'.heap.size .i64 A zs ∧ Below w.heap.size w w'

theorem ReadsI.of_own {w w' : World} {e : Ending} {v : Value} {zs : List Int} {B : Nat} {t : TypeId} (he : e = .returned v) (own : Own w' B t .i64 v zs) (hb : Below w.heap.size w w') : ReadsI w zs e w' := by
  obtain ⟨A', c', rfl, hl, hm, hr'⟩ := own.opened
  exact ⟨A', c', he, hl, hm, hr', hb⟩

theorem digs_len (xs : List Int) (w : Int) (hn : xs.length ≤ 1000000) : (digs xs w).length ≤ 8000000 := by
  unfold digs
  split
  · rename_i h
    rw [dgs_length]
    rcases h with rfl | rfl | rfl | rfl
    · show xs.length * 8 ≤ _; omega
    · show xs.length * 4 ≤ _; omega
    · show xs.length * 2 ≤ _; omega
    · show xs.length * 1 ≤ _; omega
  · simp

theorem digits_as (A : Option Addr) (xs zs : List Int) (c : Nat) (w : Int) (W : World) (hz : digs xs w = zs) (hn : xs.length ≤ 1000000) (ho : Octets xs) (hr : Holds W W.heap.size .u8 A xs) :
    Calls Tryd.prog 86 #[.slice A xs.length c, .int .i64 w] W (ReadsI W zs) := by
  subst hz
  unfold digs
  split
  · rename_i h
    have key := fun (n : Nat) (hn' : n = 1 ∨ n = 2 ∨ n = 4 ∨ n = 8) => (digits_any A xs c n W hn hn' ho hr).mono (R' := ReadsI W (dgs xs n)) fun e w' ⟨v, he, own, hb⟩ => ReadsI.of_own he own hb
    rcases h with rfl | rfl | rfl | rfl
    · exact key 1 (by omega)
    · exact key 2 (by omega)
    · exact key 4 (by omega)
    · exact key 8 (by omega)
  · rename_i h
    refine (digits_no A xs.length c w W h).mono fun e w' ⟨he, hw⟩ => ?_
    subst hw
    exact ⟨none, 0, he, Nat.le_refl _, Nat.zero_le _, Holds.nil, Below.refl _ _⟩

theorem rdigits_as (A : Option Addr) (xs zs : List Int) (c : Nat) (w : Int) (W : World) (hz : digs xs w = zs) (hn : xs.length ≤ 1000000) (ho : Octets xs) (hr : Holds W W.heap.size .u8 A xs) :
    Calls Tryd.prog 89 #[.slice A xs.length c, .int .i64 w] W (ReadsI W zs) := by
  subst hz
  unfold digs
  split
  · rename_i h
    rcases h with rfl | rfl | rfl | rfl
    · exact (rdigits_1 A xs c W hn ho hr).mono fun e w' ⟨v, he, own, hb⟩ => .of_own he (by rw [show Int.toNat 1 = 1 by rfl, dgs_all 1 (by decide)]; exact own) hb
    · exact (rdigits_2 A xs c W hn ho hr).mono fun e w' ⟨v, he, own, hb⟩ => .of_own he (by rw [show Int.toNat 2 = 2 by rfl, dgs_all 2 (by decide)]; exact own) hb
    · exact (rdigits_4 A xs c W hn ho hr).mono fun e w' ⟨v, he, own, hb⟩ => .of_own he (by rw [show Int.toNat 4 = 4 by rfl, dgs_all 4 (by decide)]; exact own) hb
    · exact (rdigits_8 A xs c W hn ho hr).mono fun e w' ⟨v, he, own, hb⟩ => .of_own he (by rw [show Int.toNat 8 = 8 by rfl, dgs_all 8 (by decide)]; exact own) hb
  · rename_i h
    exact (rdigits_no A xs.length c w W h).mono fun e w' ⟨v, he, own, hb⟩ => .of_own he own hb

/-- Digit, at whatever place and width. -/
def digOr (zs : List Int) (i : Int) : Int := if 0 ≤ i ∧ i < zs.length then zs[i.toNat]?.getD 0 else 0

theorem digit_as (A : Option Addr) (xs zs : List Int) (c B : Nat) (i w : Int) (W : World) (hz : digs xs w = zs) (hn : xs.length ≤ 1000000) (hi : -9223372036854775808 ≤ i ∧ i ≤ 9223372036854775807) (ho : Octets xs) (hr : Holds W B .u8 A xs) :
    Calls Tryd.prog 96 #[.slice A xs.length c, .int .i64 i, .int .i64 w] W fun e W' => e = .returned (.int .i64 (digOr zs i)) ∧ ∃ n, W' = W.drewN n := by
  have hout : ∀ q : Calls Tryd.prog 96 #[.slice A xs.length c, .int .i64 i, .int .i64 w] W (fun e W' => e = .returned (.int .i64 0) ∧ W = W'), digOr zs i = 0 →
      Calls Tryd.prog 96 #[.slice A xs.length c, .int .i64 i, .int .i64 w] W fun e W' => e = .returned (.int .i64 (digOr zs i)) ∧ ∃ n, W' = W.drewN n :=
    fun q h => q.mono fun e W' ⟨he, hw⟩ => ⟨by rw [he, h], 0, by rw [← hw]; rfl⟩
  by_cases h : w = 1 ∨ w = 2 ∨ w = 4 ∨ w = 8
  · have hd : zs = dgs xs w.toNat := by rw [← hz]; unfold digs; rw [if_pos h]
    have hl : zs.length = xs.length * (8 / w.toNat) := by rw [hd, dgs_length]
    by_cases hb : 0 ≤ i ∧ i < zs.length
    · obtain ⟨k, rfl⟩ := Int.eq_ofNat_of_zero_le hb.1
      have hk : k < xs.length * (8 / w.toNat) := by omega
      refine (digit_at A xs c k B w W hn h hk ho hr).mono fun e W' ⟨he, hq⟩ => ⟨?_, hq⟩
      rw [he]
      unfold digOr
      rw [if_pos hb, Int.toNat_natCast, hd, dgs_get xs _ k hk]
    · refine hout (digit_out A xs.length c i w W hn hi (.inr ⟨h, ?_⟩)) (by unfold digOr; rw [if_neg hb])
      have hl' : (zs.length : Int) = (xs.length : Int) * (8 / w) := by
        rw [hl]
        rcases h with rfl | rfl | rfl | rfl
        · show ((xs.length * 8 : Nat) : Int) = (xs.length : Int) * 8; omega
        · show ((xs.length * 4 : Nat) : Int) = (xs.length : Int) * 4; omega
        · show ((xs.length * 2 : Nat) : Int) = (xs.length : Int) * 2; omega
        · show ((xs.length * 1 : Nat) : Int) = (xs.length : Int) * 1; omega
      rw [← hl']
      omega
  · have hd : zs = [] := by rw [← hz]; unfold digs; rw [if_neg h]
    exact hout (digit_out A xs.length c i w W hn hi (.inl h)) (by unfold digOr; rw [if_neg (by subst hd; simp)])
end Go.Proofs.YtdfgdchmeikigaaDoor.Oct
