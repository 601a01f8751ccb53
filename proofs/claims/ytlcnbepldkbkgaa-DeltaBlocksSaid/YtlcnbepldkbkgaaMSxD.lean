/-
  Layer 14: bytes.Compare, suffix.common, sort.Search: contracts. Conditions: as each theorem names.
-/
import Derived.Test.YtlcnbepldkbkgaaMSxC
import Derived.Test.YtlcnbepldkbkgaaMGDcks7
import Derived.Lib.BytesEntry
import Derived.Lib.Bytealg
namespace Go.Proofs.Ytlcnbepldkbkgaa.Sx
open Go.ChangeShapes Go.WideShapes Go.ChangeAt Go.RowKit Go.Proofs.Ytlcnbepldkbkgaa.Kit

theorem run_bytesOf_slice {P : Program} {w : World} {B : Nat} (A : Option Addr) (xs : List Int) (c : Nat) (hr : Holds w B .u8 A xs) : (Extern.Bytes.bytesOf (.slice A xs.length c)).run P w = .ok ⟨(Lib.bytesOf xs).toArray⟩ w := by
  rcases Nat.eq_zero_or_pos xs.length with h0 | h0
  · obtain rfl : xs = [] := List.eq_nil_of_length_eq_zero h0
    cases A with
    | none => rfl
    | some a => rfl
  · obtain ⟨b, off, rfl, _, hc⟩ := hr h0
    have hl := Lib.run_loadBytesX (P := P) w xs ⟨b, off, none⟩ .empty (fun j x hj => by
      have hjl : j < xs.length := (List.getElem?_eq_some_iff.1 hj).1
      have e : (⟨b, off, none⟩ : Addr).add j = ⟨b, off + j, none⟩ := by unfold Addr.add; split <;> simp_all
      rw [e, hc j (by omega), List.getD_eq_getElem?_getD, hj]
      rfl)
    have he : (⟨ByteArray.empty.data ++ (Lib.bytesOf xs).toArray⟩ : ByteArray) = ⟨(Lib.bytesOf xs).toArray⟩ := by
      apply ByteArray.ext
      show (#[] : Array UInt8) ++ (Lib.bytesOf xs).toArray = (Lib.bytesOf xs).toArray
      simp
    rw [he] at hl
    exact hl
theorem run_compare {P : Program} {w : World} {B C : Nat} (A1 A2 : Option Addr) (xs ys : List Int) (c1 c2 : Nat) (h1 : Holds w B .u8 A1 xs) (h2 : Holds w C .u8 A2 ys) :
    (Extern.BytealgCompare.compare #[.slice A1 xs.length c1, .slice A2 ys.length c2]).run P w = .ok (.int .i64 (Lib.compareBytes (Lib.bytesOf xs) (Lib.bytesOf ys))) w := by
  change Sem.run P (do pure (goInt (Extern.BytealgCompare.cmp (← Extern.Bytes.bytesOf (.slice A1 xs.length c1)) (← Extern.Bytes.bytesOf (.slice A2 ys.length c2))))) w = _
  simp only [Sem.run_bind, Sem.run_pure, run_bytesOf_slice A1 xs c1 h1, run_bytesOf_slice A2 ys c2 h2, Result.andThen]
  rw [Lib.cmp_eq]
  rfl
theorem compare_any {w : World} {B C : Nat} (A1 A2 : Option Addr) (xs ys : List Int) (c1 c2 : Nat) (h1 : Holds w B .u8 A1 xs) (h2 : Holds w C .u8 A2 ys) :
    Calls Try.prog 32 #[.slice A1 xs.length c1, .slice A2 ys.length c2] w fun e w' => e = .returned (.int .i64 (Lib.compareBytes (Lib.bytesOf xs) (Lib.bytesOf ys))) ∧ w = w' := by
  have hc := run_compare (P := Try.prog) A1 A2 xs ys c1 c2 h1 h2
  go_enter Try.func32, Try.ntmps32
  go_wp2_with fail
  rw [run_callFunc_extern Try.func42 (by kernel_rfl) (by kernel_rfl) (by kernel_rfl) (e := Extern.BytealgCompare.compare) (by kernel_rfl)]
  rw [hc]
  simp only [Result.andThen]
  rw [Oper.upon_value]
  go_wp2
  go_ret
  exact ⟨rfl, rfl⟩

set_option maxRecDepth 100000 in
set_option maxHeartbeats 6400000 in
theorem common_any {w : World} {B C : Nat} (A1 A2 : Option Addr) (xs ys : List Int) (c1 c2 : Nat) (h1 : Holds w B .u8 A1 xs) (h2 : Holds w C .u8 A2 ys) (l1 : xs.length ≤ 1000000) (l2 : ys.length ≤ 1000000) :
    Calls Try.prog 33 #[.slice A1 xs.length c1, .slice A2 ys.length c2] w fun e w' => e = .returned (.int .i64 (comL xs ys)) ∧ ∃ m, w' = w.drewN m := by
  have HS := Lib.hid (fun k => comL_spec k xs ys)
  generalize comL xs ys = R at *
  have H1 := Lib.hid h1
  have H2 := Lib.hid h2
  clear h1 h2
  go_enter Try.func33, Try.ntmps33
  go_wp2_with fail
  go_loopw [5] (fun s wr => ∃ k : Nat, k ≤ xs.length ∧ k ≤ ys.length ∧ s = .int .i64 k ∧ (∀ j, j < k → xs.getD j 0 = ys.getD j 0) ∧ ∃ m, wr = w.drewN m) (fun s _ => xs.length - (intOf s).toNat)
  case atStart => exact ⟨0, Nat.zero_le _, Nat.zero_le _, rfl, fun j hj => absurd hj (by omega), 0, rfl⟩
  case round =>
    obtain ⟨k, k1, k2, rfl, hall, m, hm⟩ := hrel
    have HALL := Lib.hid hall
    have HM := Lib.hid hm
    have HR0 := Lib.hid (HS.out k k1 k2 hall)
    clear hall
    by_cases a1 : k < xs.length
    · have d1 : decide ((k : Int) < (xs.length : Int)) = true := decide_eq_true (by omega)
      obtain ⟨b1, o1, rfl, -, hc1⟩ := H1.out (by omega)
      have q1 : wr.cell? ⟨b1, o1 + k, none⟩ = some (.int .u8 (xs.getD k 0)) := by rw [hm]; exact hc1 k a1
      by_cases a2 : k < ys.length
      · have d2 : decide ((k : Int) < (ys.length : Int)) = true := decide_eq_true (by omega)
        obtain ⟨b2, o2, rfl, -, hc2⟩ := H2.out (by omega)
        have q2 : wr.cell? ⟨b2, o2 + k, none⟩ = some (.int .u8 (ys.getD k 0)) := by rw [hm]; exact hc2 k a2
        have i1 : (k : Int) < (xs.length : Int) := by omega
        have i2 : (k : Int) < (ys.length : Int) := by omega
        by_cases a3 : xs.getD k 0 = ys.getD k 0
        · have HN : Hid (∀ j, j < k + 1 → xs.getD j 0 = ys.getD j 0) := Lib.hid (fun j hj => by
            by_cases e : j = k
            · subst e; exact a3
            · exact HALL.out j (by omega))
          rw [a3] at q1
          have d3 : (ys.getD k 0 == ys.getD k 0) = true := by simp
          generalize ys.getD k 0 = y at *
          clear hc1 hc2 a3 hm
          go_wp2_with fail
          go_quiet (fail)
          go_wp2_with fail
          go_roundw
          case rel => exact ⟨k + 1, a1, a2, by go_num, HN.out, m + nq, by rw [HM.out, World.drewN_drewN]⟩
          case measure => simp [intOf] <;> omega
        · have d3 : (xs.getD k 0 == ys.getD k 0) = false := by rw [beq_eq_false_iff_ne]; exact a3
          have HR := Lib.hid (HR0.out (fun _ _ => a3))
          generalize xs.getD k 0 = x at *
          generalize ys.getD k 0 = y at *
          clear hc1 hc2 a3 hm
          go_wp2_with fail
          go_quiet (fail)
          go_wp2_with fail
          go_ret
          exact ⟨by have e := HR.out; subst e; rfl, m + nq, by rw [HM.out, World.drewN_drewN]⟩
      · have d2 : decide ((k : Int) < (ys.length : Int)) = false := decide_eq_false (by omega)
        have HR := Lib.hid (HR0.out (fun _ h => absurd h a2))
        clear hc1 q1 hm
        go_wp2_with fail
        go_quiet (fail)
        go_wp2_with fail
        go_ret
        exact ⟨by have e := HR.out; subst e; rfl, m + nq, by rw [HM.out, World.drewN_drewN]⟩
    · have d1 : decide ((k : Int) < (xs.length : Int)) = false := decide_eq_false (by omega)
      have HR := Lib.hid (HR0.out (fun h => absurd h a1))
      clear hm
      go_wp2_with fail
      go_quiet (fail)
      go_wp2_with fail
      go_ret
      exact ⟨by have e := HR.out; subst e; rfl, m + nq, by rw [HM.out, World.drewN_drewN]⟩

set_option maxRecDepth 100000 in
set_option maxHeartbeats 6400000 in
theorem search_any {w : World} {n : Nat} {p : Nat → Bool} {c1 c2 : Value} (hn : n ≤ 1000000) (hm : ∀ u v, u ≤ v → v < n → p u = true → p v = true)
    (hf : ∀ (u : Nat), u < n → ∀ m : Nat, Calls Try.prog 31 #[.int .i64 u, c1, c2] (w.drewN m) fun e w' => e = .returned (.bool (p u)) ∧ ∃ m, w' = w.drewN m) :
    Calls Try.prog 30 #[.int .i64 n, .func (.func 31) #[] #[c1, c2]] w fun e w' => (∃ k, e = .returned (.int .i64 (k : Nat)) ∧ LeastAt n p k) ∧ ∃ m, w' = w.drewN m := by
  have HF := Lib.hid hf
  have HM := Lib.hid hm
  clear hf hm
  go_enter Try.func30, Try.ntmps30
  go_wp2_with fail
  go_loopw [5, 6] (fun si sj wr => ∃ i j : Nat, i ≤ j ∧ j ≤ n ∧ si = .int .i64 i ∧ sj = .int .i64 j ∧ (∀ u, u < i → p u = false) ∧ (∀ u, j ≤ u → u < n → p u = true) ∧ ∃ m, wr = w.drewN m) (fun si sj _ => (intOf sj).toNat - (intOf si).toNat)
  case atStart => exact ⟨0, n, Nat.zero_le _, Nat.le_refl _, rfl, rfl, fun u hu => absurd hu (by omega), fun u h1 h2 => absurd h1 (by omega), 0, rfl⟩
  case round =>
    obtain ⟨i, j, hij, hjn, rfl, rfl, hlo, hhi, m, hm⟩ := hrel
    have HLO := Lib.hid hlo
    have HHI := Lib.hid hhi
    by_cases hlt : i < j
    · have d1 : decide ((i : Int) < (j : Int)) = true := decide_eq_true (by omega)
      have d2 : decide (i < j) = true := decide_eq_true hlt
      obtain ⟨h, hh⟩ : ∃ h, (i + j) / 2 = h := ⟨_, rfl⟩
      have hh1 : i ≤ h := by omega
      have hh2 : h < j := by omega
      have G := Lib.hid (HF.out h (by omega) m)
      rw [← hm] at G
      have HX := Lib.hid (fun (hp : p h = true) u (h1 : h ≤ u) (h2 : u < n) => HM.out h u h1 h2 hp)
      have HY := Lib.hid (fun (hp : p h = false) u (h1 : u < h + 1) => show p u = false by
        cases e : p u with
        | false => rfl
        | true => have := HM.out u h (by omega) (by omega) e; rw [hp] at this; exact absurd this (by simp))
      have HW := Lib.hid hm
      have HE := Lib.hid (show ((i : Int) + (j : Int)) / 2 = (h : Int) by omega)
      clear hlo hhi hm
      go_upto_region 4 with fail
      rw [HE.out]
      cases hp : p h with
      | true =>
        rw [hp] at G
        have HX2 := Lib.hid (HX.out hp)
        go_wp2_with (go_at_call 31; refine G.out.mono ?_; rintro e w1 ⟨rfl, m1, rfl⟩)
        go_roundw
        case rel => exact ⟨i, h, hh1, by omega, rfl, by go_num, HLO.out, HX2.out, m1, rfl⟩
        case measure => simp [intOf] <;> omega
      | false =>
        rw [hp] at G
        have HY2 := Lib.hid (HY.out hp)
        go_wp2_with (go_at_call 31; refine G.out.mono ?_; rintro e w1 ⟨rfl, m1, rfl⟩)
        go_roundw
        case rel => exact ⟨h + 1, j, by omega, hjn, by go_num, rfl, HY2.out, HHI.out, m1, rfl⟩
        case measure => simp [intOf] <;> omega
    · have d1 : decide ((i : Int) < (j : Int)) = false := decide_eq_false (by omega)
      have d2 : decide (i < j) = false := decide_eq_false hlt
      obtain rfl : i = j := by omega
      have HW := Lib.hid hm
      clear hlo hhi hm
      go_wp2_with fail
      go_ret
      exact ⟨⟨i, rfl, hjn, HLO.out, HHI.out⟩, m, HW.out⟩
end Go.Proofs.Ytlcnbepldkbkgaa.Sx
