/-
  Layer 2, octet: contracts of the program's and the document's functions. Conditions: as each theorem names.
-/
import Derived.Test.YtpdofegmobbipaaRows
import Derived.Test.YtpdofegmobbipaaOctM
import Derived.Test.YtpdofegmobbipaaMem
import Derived.LoopTactic
namespace Go.Proofs.Ytpdofegmobbipaa.Oct
open Go.ChangeShapes Go.WideShapes Go.ChangeAt Go.RowKit Go.Proofs.Ytpdofegmobbipaa.Kit

theorem get_bad (A : Option Addr) (n c : Nat) (at_ m : Int) (w : World) (hm : m < 1 ∨ 8 < m) :
    Calls Try.prog 38 #[.slice A n c, .int .i64 at_, .int .i64 m] w fun e w' => e = .returned (.tuple #[.int .u64 0, .int .i64 1]) ∧ w = w' := by
  rcases hm with hm | hm
  · go_enter Try.func38, Try.ntmps38
    go_wp2
    go_ret2
    exact ⟨rfl, rfl⟩
  · have hm' : ¬ m < 1 := by omega
    go_enter Try.func38, Try.ntmps38
    go_wp2
    go_ret2
    exact ⟨rfl, rfl⟩

theorem get_far (A : Option Addr) (n c : Nat) (at_ m : Int) (w : World) (hn : n ≤ 1000000) (hm : 1 ≤ m ∧ m ≤ 8) (h : at_ < 0 ∨ (n : Int) - m < at_) :
    Calls Try.prog 38 #[.slice A n c, .int .i64 at_, .int .i64 m] w fun e w' => e = .returned (.tuple #[.int .u64 0, .int .i64 5]) ∧ w = w' := by
  have h1 : ¬ m < 1 := by omega
  have h2 : ¬ 8 < m := by omega
  rcases h with h | h
  · go_enter Try.func38, Try.ntmps38
    go_wp2
    go_ret2
    exact ⟨rfl, rfl⟩
  · by_cases h0 : at_ < 0
    all_goals
      go_enter Try.func38, Try.ntmps38
      go_wp2
      go_ret2
      exact ⟨rfl, rfl⟩

theorem get_any (A : Option Addr) (xs : List Int) (c at_ m B : Nat) (w : World) (hn : xs.length ≤ 1000000) (hl : xs.length ≤ c) (hm : 1 ≤ m ∧ m ≤ 8) (h : at_ + m ≤ xs.length)
    (ho : Octets xs) (hr : Holds w B .u8 A xs) :
    Calls Try.prog 38 #[.slice A xs.length c, .int .i64 at_, .int .i64 m] w fun e w' => e = .returned (.tuple #[.int .u64 (val ((xs.drop at_).take m)), .int .i64 0]) ∧ w = w' := by
  obtain ⟨b, off, rfl, hb, hc⟩ := hr (by omega)
  have h1 : ¬ (m : Int) < 1 := by omega
  have h2 : ¬ 8 < (m : Int) := by omega
  have h3 : ¬ (at_ : Int) < 0 := by omega
  have h4 : ¬ (xs.length : Int) - m < at_ := by omega
  go_enter Try.func38, Try.ntmps38
  go_wp2
  go_loop [8, 34] (fun x i => ∃ k : Nat, k ≤ m ∧ i = .int .i64 k ∧ x = .int .u64 (val ((xs.drop at_).take k))) (fun _ i => m - (intOf i).toNat)
  case atStart => exact ⟨0, Nat.zero_le _, rfl, rfl⟩
  case round =>
    obtain ⟨k, hk, rfl, rfl⟩ := hrel
    have hcell : k < m → w.cell? ⟨b, off + at_ + k, none⟩ = some (.int .u8 (xs.getD (at_ + k) 0)) := fun _ => by rw [Nat.add_assoc]; exact hc _ (by omega)
    by_cases hlt : k < m
    · go_wp2
      go_round
      case rel =>
        refine ⟨k + 1, by omega, by go_num, ?_⟩
        have e1 := val_take (xs.drop at_) k (by simp; omega)
        have e2 := shl8_or (val ((xs.drop at_).take k)) (xs[at_ + k]?.getD 0) (val_lt _ (ho.tail _) k (by simp; omega) (by omega)) (ho.at_ _)
        rw [e2, e1]
        simp
      case measure => simp [intOf]; omega
    · go_wp2
      have : k = m := by omega
      subst this
      go_ret2
      exact ⟨rfl, rfl⟩

theorem rget_bad (A : Option Addr) (n c : Nat) (at_ m : Int) (w : World) (hm : m < 1 ∨ 8 < m) :
    Calls Try.prog 35 #[.slice A n c, .int .i64 at_, .int .i64 m] w fun e w' => e = .returned (.tuple #[.int .u64 0, .int .i64 1]) ∧ w = w' := by
  rcases hm with hm | hm
  · go_enter Try.func35, Try.ntmps35
    go_wp2
    go_ret2
    exact ⟨rfl, rfl⟩
  · have hm' : ¬ m < 1 := by omega
    go_enter Try.func35, Try.ntmps35
    go_wp2
    go_ret2
    exact ⟨rfl, rfl⟩

theorem rget_far (A : Option Addr) (n c : Nat) (at_ m : Int) (w : World) (hn : n ≤ 1000000) (hm : 1 ≤ m ∧ m ≤ 8) (h : at_ < 0 ∨ (n : Int) - m < at_) :
    Calls Try.prog 35 #[.slice A n c, .int .i64 at_, .int .i64 m] w fun e w' => e = .returned (.tuple #[.int .u64 0, .int .i64 5]) ∧ w = w' := by
  have h1 : ¬ m < 1 := by omega
  have h2 : ¬ 8 < m := by omega
  by_cases h0 : at_ < 0
  · go_enter Try.func35, Try.ntmps35
    go_wp2
    go_ret2
    exact ⟨rfl, rfl⟩
  · by_cases h3 : (n : Int) < at_
    · go_enter Try.func35, Try.ntmps35
      go_wp2
      go_ret2
      exact ⟨rfl, rfl⟩
    · have h4 : (n : Int) - at_ < m := by omega
      go_enter Try.func35, Try.ntmps35
      go_wp2
      go_ret2
      exact ⟨rfl, rfl⟩

theorem rget_any (A : Option Addr) (xs : List Int) (c at_ m B : Nat) (w : World) (hn : xs.length ≤ 1000000) (hl : xs.length ≤ c) (hm : 1 ≤ m ∧ m ≤ 8) (h : at_ + m ≤ xs.length)
    (ho : Octets xs) (hr : Holds w B .u8 A xs) :
    Calls Try.prog 35 #[.slice A xs.length c, .int .i64 at_, .int .i64 m] w fun e w' => e = .returned (.tuple #[.int .u64 (val ((xs.drop at_).take m)), .int .i64 0]) ∧ w = w' := by
  obtain ⟨b, off, rfl, hb, hc⟩ := hr (by omega)
  have h1 : ¬ (m : Int) < 1 := by omega
  have h2 : ¬ 8 < (m : Int) := by omega
  have h3 : ¬ (at_ : Int) < 0 := by omega
  have h4 : ¬ (xs.length : Int) < at_ := by omega
  have h5 : ¬ (xs.length : Int) - at_ < m := by omega
  go_enter Try.func35, Try.ntmps35
  go_wp2
  go_loop [8, 9] (fun x i => ∃ k : Nat, k ≤ m ∧ i = .int .i64 k ∧ x = .int .u64 (val ((xs.drop at_).take k))) (fun _ i => m - (intOf i).toNat)
  case atStart => exact ⟨0, Nat.zero_le _, rfl, rfl⟩
  case round =>
    obtain ⟨k, hk, rfl, rfl⟩ := hrel
    have hcell : k < m → w.cell? ⟨b, off + (at_ + k), none⟩ = some (.int .u8 (xs.getD (at_ + k) 0)) := fun _ => hc _ (by omega)
    by_cases hlt : k < m
    · have hv := val_lt _ (ho.tail at_) k (by simp; omega) (by omega)
      have hx := ho.at_ (at_ + k)
      go_wp2
      go_round
      case rel =>
        refine ⟨k + 1, by omega, by go_num, ?_⟩
        have e1 := val_take (xs.drop at_) k (by simp; omega)
        rw [e1]
        simp
      case measure => simp [intOf]; omega
    · go_wp2
      have : k = m := by omega
      subst this
      go_ret2
      exact ⟨rfl, rfl⟩

theorem elem8 : IntElem Try.prog 29 5 .u8 1 := ⟨Try.underlying29, by kernel_rfl, by omega⟩

/-- n, brought between 1 and 8. -/
def clamp (n : Int) : Nat := if n < 1 then 1 else if 8 < n then 8 else n.toNat

theorem clamp_bd (n : Int) : 1 ≤ clamp n ∧ clamp n ≤ 8 := by unfold clamp; split <;> (try split) <;> omega

theorem put_any (A : Option Addr) (xs : List Int) (c B : Nat) (n x : Int) (w : World) (hn : xs.length ≤ 1000000) (hr : Holds w w.heap.size .u8 A xs) (hx : 0 ≤ x ∧ x < 18446744073709551616) :
    Calls Try.prog 24 #[.slice A xs.length c, .int .i64 n, .int .u64 x] w fun e w' => ∃ v, e = .returned v ∧ Own w' w.heap.size 5 .u8 v (xs ++ be (clamp n) x) ∧ Below w.heap.size w w' := by
  obtain ⟨p, hp⟩ : ∃ p, (if n < 1 then (1 : Int) else n) = p := ⟨_, rfl⟩
  have hq : (if 8 < p then (8 : Int) else p) = (clamp n : Int) := by subst hp; unfold clamp; split <;> split <;> (try split) <;> omega
  have hm := clamp_bd n
  generalize clamp n = m at *
  go_enter Try.func24, Try.ntmps24
  go_wp2_with (first
    | (at_make; refine wpList_make_ints _ rfl _ _ _ rfl elem8 xs.length (xs.length + m) rfl rfl rfl (by omega) (by omega) (by omega) ?_; intro w1 own1 hb1 hz1)
    | (have _t := own1; refine wpList_copy_ints _ rfl (.tmp 19) (.tmp 20) 29 rfl elem8 own1 rfl rfl (hr.below hb1) (by simp) (by omega) ?_; clear _t; intro w2 own2 hg2 hb2))
  have own3 : Own w2 w.heap.size 5 .u8 (.slice (some ⟨w.heap.size, 0, none⟩) xs.length (xs.length + m)) xs := by simpa using own2
  have hb3 := hb1.trans hb2
  clear own1 own2 hg2 hb1 hb2
  go_wp2_with fail
  go_loopw [7, 23] (fun v i wr => ∃ j : Nat, j ≤ m ∧ i = .int .i64 j ∧ Own wr w.heap.size 5 .u8 v (xs ++ (be m x).take j) ∧ Below w.heap.size w wr) (fun _ i _ => m - (intOf i).toNat)
  case atStart => exact ⟨0, Nat.zero_le _, rfl, by simpa using own3, hb3⟩
  case round =>
    obtain ⟨j, hj, rfl, own, hb⟩ := hrel
    by_cases hlt : j < m
    · have hsz := hb.size
      have e1 := be_take m x j hlt
      have hbx := byteAt_bd x (m - 1 - j)
      go_wp2_with (at_builtin; refine wpList_append_one _ rfl _ _ _ rfl elem8 own rfl rfl (by simp [be_length]; omega) (by omega) ?_; intro v2 w2 own2 hg2 hb2)
      go_roundw
      case rel => exact ⟨j + 1, by omega, by go_num, by rw [e1, ← List.append_assoc]; exact own2, hb.trans hb2⟩
      case measure => simp [intOf]; omega
    · go_wp2_with fail
      obtain rfl : j = m := by omega
      go_ret
      exact ⟨_, rfl, by rwa [List.take_of_length_le (by rw [be_length]; exact Nat.le_refl _)] at own, hb⟩

theorem rput_any (A : Option Addr) (xs : List Int) (c B : Nat) (n x : Int) (w : World) (hn : xs.length ≤ 1000000) (hr : Holds w w.heap.size .u8 A xs) (hx : 0 ≤ x ∧ x < 18446744073709551616) :
    Calls Try.prog 25 #[.slice A xs.length c, .int .i64 n, .int .u64 x] w fun e w' => ∃ v, e = .returned v ∧ Own w' w.heap.size 5 .u8 v (xs ++ be (clamp n) x) ∧ Below w.heap.size w w' := by
  have hc : (n < 1 ∧ clamp n ≤ 1) ∨ (8 < n ∧ 8 ≤ clamp n) ∨ (1 ≤ n ∧ n ≤ 8 ∧ n = clamp n) := by
    unfold clamp; split
    · exact .inl ⟨by omega, by omega⟩
    · split
      · exact .inr (.inl ⟨by omega, by omega⟩)
      · exact .inr (.inr ⟨by omega, by omega, by omega⟩)
  have hm := clamp_bd n
  have own0 := Own.empty (B := w.heap.size) w 5 .u8 (Nat.le_refl _)
  have hb0 : Below w.heap.size w (w.alloc (.cells #[] 5)) := (Below.refl _ _).alloc (Nat.le_refl _) _
  generalize clamp n = m at *
  have hcc : (n < 1 ∧ m ≤ 1 ∧ m ≤ 1) ∨ (8 < n ∧ ¬ n < 1 ∧ 8 ≤ m) ∨ (¬ n < 1 ∧ ¬ 8 < n ∧ n = m) := by omega
  clear hc
  rcases hcc with ⟨h1, h2, h3⟩ | ⟨h1, h2, h3⟩ | ⟨h1, h2, rfl⟩
  all_goals
    go_enter Try.func25, Try.ntmps25
    go_wp2_with (have _t := own0; refine wpList_append_ints _ rfl (.tmp 11) (.tmp 12) 29 rfl elem8 own0 rfl rfl (hr.below hb0) (by simp; omega) (by simp) ?_; clear _t; intro v1 w1 own1 hg1 hb1 _)
    have hb3 := hb0.trans hb1
    simp only [List.nil_append] at own1
    clear own0 hg1 hb0 hb1
    go_loopw [7, 9] (fun v i wr => ∃ j : Nat, j ≤ m ∧ i = .int .i64 ((m : Int) - 1 - j) ∧ Own wr w.heap.size 5 .u8 v (xs ++ (be m x).take j) ∧ Below w.heap.size w wr) (fun _ i _ => (intOf i + 1).toNat)
    case atStart => exact ⟨0, Nat.zero_le _, by first | rfl | (simp; done) | (congr 1; omega), by simpa using own1, hb3⟩
    case round =>
      obtain ⟨j, hj, rfl, own, hb⟩ := hrel
      by_cases hlt : j < m
      · have hsz := hb.size
        have e1 := be_take m x j hlt
        have hbx := byteAt_bd x (m - 1 - j)
        go_wp2_with (at_builtin; refine wpList_append_one _ rfl _ _ _ rfl elem8 own rfl rfl (by simp [be_length]; omega) (by omega) ?_; intro v2 w2 own2 hg2 hb2)
        go_roundw
        case rel => exact ⟨j + 1, by omega, by congr 1; omega, by rw [e1, ← List.append_assoc]; first | exact own2 | (rw [show m - 1 - j = 0 by omega, show byteAt x 0 = x % 256 by simp [byteAt]]; exact own2), hb.trans hb2⟩
        case measure => simp [intOf]; omega
      · go_wp2_with fail
        obtain rfl : j = m := by omega
        go_ret
        exact ⟨_, rfl, by rwa [List.take_of_length_le (by rw [be_length]; exact Nat.le_refl _)] at own, hb⟩

/-- What a caller of Put is told: a slice that reads zs. -/
def Reads (w : World) (zs : List Int) (e : Ending) (w' : World) : Prop :=
  ∃ (A : Option Addr) (c : Nat), e = .returned (.slice A zs.length c) ∧ zs.length ≤ c ∧ c ≤ maxLen ∧ Holds w' w'.heap.size .u8 A zs ∧ Below w.heap.size w w'

theorem put_as (A : Option Addr) (xs zs : List Int) (c : Nat) (n x : Int) (w : World) (hz : xs ++ be (clamp n) x = zs) (hn : xs.length ≤ 1000000) (hr : Holds w w.heap.size .u8 A xs) (hx : 0 ≤ x ∧ x < 18446744073709551616) :
    Calls Try.prog 24 #[.slice A xs.length c, .int .i64 n, .int .u64 x] w (Reads w zs) :=
  (put_any A xs c 0 n x w hn hr hx).mono fun e w' ⟨v, he, own, hb⟩ => by
    subst hz
    obtain ⟨A', c', rfl, hl, hm, hr'⟩ := own.opened
    exact ⟨A', c', he, hl, hm, hr', hb⟩

theorem rput_as (A : Option Addr) (xs zs : List Int) (c : Nat) (n x : Int) (w : World) (hz : xs ++ be (clamp n) x = zs) (hn : xs.length ≤ 1000000) (hr : Holds w w.heap.size .u8 A xs) (hx : 0 ≤ x ∧ x < 18446744073709551616) :
    Calls Try.prog 25 #[.slice A xs.length c, .int .i64 n, .int .u64 x] w (Reads w zs) :=
  (rput_any A xs c 0 n x w hn hr hx).mono fun e w' ⟨v, he, own, hb⟩ => by
    subst hz
    obtain ⟨A', c', rfl, hl, hm, hr'⟩ := own.opened
    exact ⟨A', c', he, hl, hm, hr', hb⟩
end Go.Proofs.Ytpdofegmobbipaa.Oct
