/-
  Layer 30, script.Unhex: a contract. Conditions: as each theorem names.
-/
import Derived.Test.YtngeemfcmoahoaaTxA
namespace Go.Proofs.Ytngeemfcmoahoaa.Tx
open Go.ChangeShapes Go.WideShapes Go.ChangeAt Go.RowKit Go.Proofs.Ytngeemfcmoahoaa.Kit

theorem elem8 : IntElem Try.prog 22 5 .u8 1 := ⟨Try.underlying22, by kernel_rfl, by omega⟩
theorem str46 (s : ByteArray) : s = ⟨#[46]⟩ ↔ numsOf s = [46] := by
  constructor
  · rintro rfl; rfl
  · intro h
    have := str_nums s
    rw [h] at this
    exact this.symm
theorem or16' : ∀ y v : Fin 16, bits BinOp.or IntKind.u8 ((y.val : Int) * 16) (v.val : Int) = 16 * (y.val : Int) + (v.val : Int) := by decide +kernel
theorem or16 {y v : Int} (hy : 0 ≤ y ∧ y < 16) (hv : 0 ≤ v ∧ v < 16) : bits BinOp.or IntKind.u8 (y * 16) v = 16 * y + v := by
  have h := or16' ⟨y.toNat, by omega⟩ ⟨v.toNat, by omega⟩
  have e1 : ((y.toNat : Nat) : Int) = y := by omega
  have e2 : ((v.toNat : Nat) : Int) = v := by omega
  simp only [e1, e2] at h
  exact h
/-- The bytes of a text, and whether it is one. -/
def UnTo (s : ByteArray) (w : World) (e : Ending) (w' : World) : Prop :=
  ∃ (A : Option Addr) (c : Nat), e = .returned (.tuple #[.slice A (unL (numsOf s)).length c, .bool (unB (numsOf s))]) ∧ Holds w' w'.heap.size .u8 A (unL (numsOf s)) ∧ (unL (numsOf s)).length ≤ c ∧ Below w.heap.size w w'

def UnOwn (s : ByteArray) (w : World) (e : Ending) (w' : World) : Prop :=
  ∃ v : Value, e = .returned (.tuple #[v, .bool (unB (numsOf s))]) ∧ Own w' w.heap.size 5 .u8 v (unL (numsOf s)) ∧ Below w.heap.size w w'
theorem UnOwn.to {s : ByteArray} {w w' : World} {e : Ending} (h : UnOwn s w e w') : UnTo s w e w' := by
  obtain ⟨v, rfl, own, hb⟩ := h
  obtain ⟨A, c, rfl, k, _, hh⟩ := own.opened
  exact ⟨A, c, rfl, hh, k, hb⟩

set_option maxRecDepth 100000 in
set_option maxHeartbeats 6400000 in
theorem unhex_own (s : ByteArray) (w : World) (hs : s.size ≤ 1000000) : Calls Try.prog 7 #[.string s] w (UnOwn s w) := by
  have hnl := numsOf_length s
  by_cases h46 : s = ⟨#[46]⟩
  · subst h46
    go_enter Try.func7, Try.ntmps7
    go_wp2
    go_ret2
    exact ⟨.slice none 0 0, rfl, Own.nil _ _ _ _, Below.refl _ _⟩
  have hn46 : numsOf s ≠ [46] := fun h => h46 ((str46 s).2 h)
  have d46 : (s.toList == [46]) = false := by
    rw [beq_eq_false_iff_ne]
    intro h
    apply h46
    have h2 : s.data.toList = [46] := by rw [← ByteArray.toList_eq]; exact h
    obtain ⟨⟨l⟩⟩ := s
    simp at h2
    rw [h2]
  have HN46 := Lib.hid hn46
  have HNL := Lib.hid hnl
  clear h46 hn46 hnl
  by_cases h0 : s.size = 0
  · have e0 : ((s.size : Int) == 0) = true := by rw [beq_iff_eq]; omega
    have e1 : (s.size == 0) = true := by rw [beq_iff_eq]; omega
    have HU := Lib.hid (unhex_none HN46.out (.inl (List.eq_nil_of_length_eq_zero (by rw [HNL.out]; exact h0))))
    clear h0
    go_enter Try.func7, Try.ntmps7
    go_wp2
    go_ret2
    refine ⟨.slice none 0 0, ?_, ?_, Below.refl _ _⟩
    · rw [HU.out.1]; rfl
    · rw [HU.out.2]; exact Own.nil _ _ _ _
  have e0 : ((s.size : Int) == 0) = false := by rw [beq_eq_false_iff_ne]; omega
  have e1 : (s.size == 0) = false := by rw [beq_eq_false_iff_ne]; omega
  by_cases h2 : s.size % 2 = 1
  · have e2 : decide ((0 : Int) < (s.size : Int) % 2) = true := decide_eq_true (by omega)
    have e3 : decide (0 < s.size % 2) = true := decide_eq_true (by omega)
    have HU := Lib.hid (unhex_none HN46.out (.inr (.inl (by rw [HNL.out]; exact h2))))
    clear h2 h0
    go_enter Try.func7, Try.ntmps7
    go_wp2
    go_ret2
    refine ⟨.slice none 0 0, ?_, ?_, Below.refl _ _⟩
    · rw [HU.out.1]; rfl
    · rw [HU.out.2]; exact Own.nil _ _ _ _
  have e2 : decide ((0 : Int) < (s.size : Int) % 2) = false := decide_eq_false (by omega)
  have e3 : decide (0 < s.size % 2) = false := decide_eq_false (by omega)
  obtain ⟨n, hn⟩ : ∃ n, s.size = 2 * n := ⟨s.size / 2, by omega⟩
  have hn0 : 0 < n := by omega
  have e4 : (s.size : Int) / 2 = (n : Int) := by omega
  have HN := Lib.hid hn
  have hnb : n ≤ 500000 := by omega
  have hsz2 : (s.size : Int) = 2 * (n : Int) := by omega
  have HSZ := Lib.hid hsz2
  clear h0 h2 hn hsz2
  go_enter Try.func7, Try.ntmps7
  go_wp2_with (at_make; refine wpList_make_ints _ rfl _ _ _ rfl elem8 n n rfl rfl (by omega) (by omega) (Nat.le_refl _) (by omega) ?_; intro w1 own1 hb1 hz1)
  have HO1 := Lib.hid (show Own w1 w.heap.size 5 .u8 (.slice (some ⟨w.heap.size, 0, none⟩) n n) (fillH (numsOf s) n 0) by rw [fillH_zero]; exact own1)
  have HB1 := Lib.hid hb1
  clear own1 hb1 hz1
  go_loopw [24] (fun t wr => ∃ i : Nat, i ≤ s.size ∧ t = .int .i64 i ∧ Own wr w.heap.size 5 .u8 (.slice (some ⟨w.heap.size, 0, none⟩) n n) (fillH (numsOf s) n i) ∧ Hid (∀ j, j < i → 0 ≤ valD ((numsOf s).getD j 0)) ∧ Below w.heap.size w wr) (fun t _ => s.size - (intOf t).toNat)
  case atStart => exact ⟨0, Nat.zero_le _, rfl, HO1.out, Lib.hid (fun j hj => absurd hj (by omega)), HB1.out⟩
  case round =>
    obtain ⟨i, hi, rfl, own, HV, hB⟩ := hrel
    have HB := Lib.hid hB
    clear hB HO1
    by_cases hlt : i < s.size
    · have dj : decide ((i : Int) < (s.size : Int)) = true := decide_eq_true (by omega)
      have dj2 : decide (i < s.size) = true := decide_eq_true hlt
      have hcg := numsOf_get s i hlt
      have hch : 0 ≤ (numsOf s).getD i 0 ∧ (numsOf s).getD i 0 ≤ 255 := by rw [hcg]; have := s[i].toNat_lt; omega
      have GI := Lib.hid (fun W => indexByte_any ((numsOf s).getD i 0) W hch)
      rw [hcg] at GI
      have HCG := Lib.hid hcg
      clear hcg hch
      obtain ⟨V, hV⟩ : ∃ V, valD ((s[i].toNat : Nat) : Int) = V := ⟨_, rfl⟩
      rw [hV] at GI
      have hVb := valD_bd ((s[i].toNat : Nat) : Int)
      rw [hV] at hVb
      have HVV := Lib.hid hV
      clear hV
      by_cases hv : V < 0
      · have dv : decide (V < 0) = true := decide_eq_true hv
        have HU := Lib.hid (unhex_none HN46.out (.inr (.inr ⟨i, by rw [HNL.out]; exact hlt, by rw [HCG.out, HVV.out]; exact hv⟩)))
        go_wp2_with (go_at_call 15; (with_reducible refine (GI.out _).mono ?_); rintro e w3 ⟨rfl, rfl⟩)
        go_ret2
        refine ⟨.slice none 0 0, ?_, ?_, HB.out⟩
        · rw [HU.out.1]; rfl
        · rw [HU.out.2]; exact Own.nil _ _ _ _
      · have dv : decide (V < 0) = false := decide_eq_false hv
        have hi2 : i < 2 * n := by have := HN.out; omega
        have x1 : 0 ≤ (i : Int) / 2 := by omega
        have x2 : (i : Int) / 2 < (n : Int) := by omega
        have hlen : n = (fillH (numsOf s) n i).length := (fillH_length _ _ _).symm
        have cy := own.cellAt hlen (i := i / 2) (by omega)
        have fy := own.frozenAt hlen (i / 2)
        rw [fillH_get _ _ _ hi2] at cy
        obtain ⟨y, hy⟩ : ∃ y, (if i % 2 = 0 then 0 else valD ((numsOf s).getD (i - 1) 0)) = y := ⟨_, rfl⟩
        rw [hy] at cy
        have hyb : 0 ≤ y ∧ y < 16 := by
          by_cases he : i % 2 = 0
          · rw [if_pos he] at hy; omega
          · rw [if_neg he] at hy
            have h1 := HV.out (i - 1) (by omega)
            have h2 := valD_bd ((numsOf s).getD (i - 1) 0)
            omega
        have HY := Lib.hid hy
        have HLEN := Lib.hid hlen
        have HST := Lib.hid (fun z => (own.stored hlen (i / 2) z).1)
        clear hy hlen own
        go_wp2_with (go_at_call 15; (with_reducible refine (GI.out _).mono ?_); rintro e w3 ⟨rfl, rfl⟩)
        go_roundw
        case rel =>
          rw [or16 hyb (by omega)]
          have hst := HST.out (16 * y + V)
          have hnx := fillH_next (numsOf s) n i hi2
          rw [show (if i % 2 = 0 then valD ((numsOf s).getD i 0) else 16 * valD ((numsOf s).getD (i - 1) 0) + valD ((numsOf s).getD i 0)) = 16 * y + V by
            rw [← HY.out, HCG.out, HVV.out]
            by_cases he : i % 2 = 0
            · rw [if_pos he, if_pos he]; omega
            · rw [if_neg he, if_neg he]] at hnx
          rw [← hnx] at hst
          refine ⟨i + 1, hlt, by go_num, hst, Lib.hid fun j hj => ?_, HB.out.setCell (Nat.le_refl _) _⟩
          by_cases hji : j < i
          · exact HV.out j hji
          · obtain rfl : j = i := by omega
            rw [HCG.out, HVV.out]; omega
        case measure => simp [intOf] <;> omega
    · obtain rfl : i = s.size := by omega
      have dj : decide ((s.size : Int) < (s.size : Int)) = false := decide_eq_false (by omega)
      have dj2 : decide (s.size < s.size) = false := decide_eq_false (by omega)
      have HU := Lib.hid (unhex_full HN46.out (by rw [HNL.out]; exact HN.out) hn0 (fun j hj => HV.out j (by have := HN.out; omega)))
      have HO := Lib.hid own
      have HFL := Lib.hid (fillH_length (numsOf s) n (2 * n))
      clear own
      go_wp2_with fail
      go_ret2
      have hown := HO.out
      rw [HN.out, ← HU.out.2] at hown
      refine ⟨_, ?_, hown, HB.out⟩
      rw [HU.out.1]
      rfl
theorem unhex_any (s : ByteArray) (w : World) (hs : s.size ≤ 1000000) : Calls Try.prog 7 #[.string s] w (UnTo s w) := (unhex_own s w hs).mono fun _ _ h => h.to
end Go.Proofs.Ytngeemfcmoahoaa.Tx
