/-
  Layer 20, safe: the document's Write: contract. Conditions: as each theorem names.
-/
import Derived.Test.YtheofegmbajmkaaSaK
namespace Go.Proofs.Ytheofegmbajmkaa.Sa
open Go.ChangeShapes Go.WideShapes Go.ChangeAt Go.RowKit Go.Proofs.Ytheofegmbajmkaa.Kit Go.Proofs.Ytheofegmbajmkaa.Ordr Go.Proofs.Ytheofegmbajmkaa.Blk Go.Proofs.Ytheofegmbajmkaa.Pl

theorem pad_none (I : List Int) {n : Nat} (h : n ≤ I.length) : pad I n = I := by
  unfold pad
  rw [show n - I.length = 0 by omega]
  simp
theorem pad_snoc (I : List Int) {n : Nat} (h : I.length ≤ n) : pad I n ++ [0] = pad I (n + 1) := by
  unfold pad
  rw [show n + 1 - I.length = (n - I.length) + 1 by omega, List.replicate_succ', List.append_assoc]
/-- The first k bytes put in. -/
theorem putAt_none (J : List Int) (p : Nat) : putAt J p [] = J := by
  unfold putAt; simp
theorem putAt_next {J x : List Int} {p k : Nat} (hk : k < x.length) (h : p + x.length ≤ J.length) : (putAt J p (x.take k)).set (p + k) (x.getD k 0) = putAt J p (x.take (k + 1)) := by
  have e : x.getD k 0 = x[k] := by simp [List.getD, List.getElem?_eq_getElem hk]
  have h1 : (x.take k).length = k := by rw [List.length_take]; omega
  have h2 : (x.take (k + 1)).length = k + 1 := by rw [List.length_take]; omega
  have h3 : (J.take p).length = p := by rw [List.length_take]; omega
  unfold putAt
  rw [h1, h2, e, List.set_append_right _ _ (by omega), h3, show p + k - p = k by omega, List.set_append_right _ _ (by omega), h1, show k - k = 0 by omega, List.take_succ_eq_append_getElem hk,
    show J.drop (p + k) = J[p + k] :: J.drop (p + k + 1) from List.drop_eq_getElem_cons (by omega)]
  simp only [List.set_cons_zero, List.append_assoc, List.cons_append, List.nil_append, Nat.add_assoc]

def lenV : Value → Nat
  | .slice _ n _ => n
  | _ => 0
set_option maxRecDepth 100000 in
set_option maxHeartbeats 3200000 in
theorem write_any (Ai : Option Addr) (I : List Int) (ci p : Nat) (Ax : Option Addr) (x : List Int) (cx : Nat) (w : World) (hI : I.length ≤ 10000) (hT : p + x.length ≤ 10000) (hri : Holds w w.heap.size .u8 Ai I) (hrx : Holds w w.heap.size .u8 Ax x) :
    Calls Try.prog 22 #[.slice Ai I.length ci, .int .i64 p, .slice Ax x.length cx] w fun e w' => ∃ v, e = .returned v ∧ Own w' w.heap.size 5 .u8 v (writeL I p x) ∧ Below w.heap.size w w' := by
  obtain ⟨RW, hRW⟩ : ∃ R, writeL I p x = R := ⟨_, rfl⟩
  rw [hRW]
  have HRW := Lib.hid hRW
  clear hRW
  have own0 := Own.empty (B := w.heap.size) w 5 .u8 (Nat.le_refl _)
  have hb0 : Below w.heap.size w (w.alloc (.cells #[] 5)) := (Below.refl _ _).alloc (Nat.le_refl _) _
  have hri0 := hri.below hb0
  have hs0 := hb0.size
  have HRX := Lib.hid hrx
  clear hri
  go_enter Try.func22, Try.ntmps22
  go_wp2_with (at_builtin; refine wpList_append_ints (xs := []) (ys := I) _ rfl _ _ _ rfl elem8 own0 rfl rfl hri0 (by simp; omega) hs0 ?_; intro v1 w1 own1 g1 hb1 hv1)
  have B1 := hb0.trans hb1
  rw [List.nil_append] at own1
  go_loopw [7] (fun v wr => ∃ (m : Nat) (A : Option Addr) (c : Nat), I.length ≤ m ∧ (m = I.length ∨ m ≤ p + x.length) ∧ v = .slice A m c ∧ Own wr w.heap.size 5 .u8 (.slice A m c) (pad I m) ∧ Below w.heap.size w wr) (fun v _ => p + x.length - lenV v)
  case atStart =>
    obtain ⟨A1, c1, rfl, _⟩ := own1.opened
    exact ⟨I.length, A1, c1, Nat.le_refl _, .inl rfl, rfl, by rw [pad_none I (Nat.le_refl _)]; exact own1, B1⟩
  case round =>
    clear own1 B1 own0 hb1 g1 hv1 hri0 hb0 hs0
    obtain ⟨m, A2, c2, hm1, hm2, rfl, own2, B2⟩ := hrel
    have hs2 := B2.size
    have HLM : Hid ((pad I m).length = m) := Lib.hid (by rw [pad_length]; omega)
    by_cases hlt : m < p + x.length
    · have d1 : decide ((m : Int) < (p : Int) + (x.length : Int)) = true := decide_eq_true (by omega)
      have d2 : decide (m < p + x.length) = true := decide_eq_true hlt
      have HS := Lib.hid (pad_snoc I hm1)
      have hql : (pad I m).length ≤ 10000 := by have := HLM.out; omega
      generalize pad I m = q at *
      go_wp2_with (at_builtin; refine wpList_append_one (z := 0) _ rfl _ _ _ rfl elem8 own2 rfl rfl (by omega) (by omega) ?_; intro v3 w3 own3 hg3 hb3)
      obtain ⟨A3, c3, rfl, _⟩ := own3.opened
      have HL3 : Hid ((q ++ [0]).length = m + 1) := Lib.hid (by rw [List.length_append, HLM.out]; rfl)
      rw [HL3.out] at own3 ⊢
      go_roundw
      case rel => exact ⟨m + 1, A3, c3, by omega, .inr (by omega), rfl, by rw [← HS.out]; exact own3, B2.trans hb3⟩
      case measure => simp [lenV] <;> omega
    · have d1 : decide ((m : Int) < (p : Int) + (x.length : Int)) = false := decide_eq_false (by omega)
      have d2 : decide (m < p + x.length) = false := decide_eq_false hlt
      have hJ : pad I m = pad I (p + x.length) := by
        rcases hm2 with h | h
        · rw [h, pad_none I (Nat.le_refl _), pad_none I (by omega)]
        · rw [show m = p + x.length by omega]
      have HW2 : Hid (RW = putAt (pad I m) p x) := Lib.hid (HRW.out.symm.trans (by unfold writeL; rw [hJ]))
      have HNX := Lib.hid (fun (k : Nat) (hk : k < x.length) => putAt_next (J := pad I m) (p := p) hk (by rw [HLM.out]; omega))
      have HLJ := Lib.hid (fun (k : Nat) (hk : k ≤ x.length) => putAt_length (L := pad I m) (x := x.take k) (p := p) (by rw [HLM.out, List.length_take]; omega))
      have HE : Hid (x.take x.length = x) := Lib.hid List.take_length
      clear hJ hm2
      generalize pad I m = J at *
      go_wp2_with fail
      go_loopw [25] (fun s wr => ∃ k : Nat, k ≤ x.length ∧ s = .int .i64 k ∧ Own wr w.heap.size 5 .u8 (.slice A2 m c2) (putAt J p (x.take k)) ∧ Below w.heap.size w wr) (fun s _ => x.length - (intOf s).toNat)
      case atStart => exact ⟨0, Nat.zero_le _, rfl, by rw [List.take_zero, putAt_none]; exact own2, B2⟩
      case round =>
        clear own2 B2 hs2
        obtain ⟨k, hk, rfl, own3, B3⟩ := hrel
        have hs3 := B3.size
        by_cases hkx : k < x.length
        · have d3 : decide ((k : Int) < (x.length : Int)) = true := decide_eq_true (by omega)
          have d4 : decide (k < x.length) = true := decide_eq_true hkx
          have hl3 := HLJ.out k hk
          rw [HLM.out] at hl3
          obtain ⟨g, cap, hv, hge, -, -, -⟩ := own3.form (by omega)
          injection hv with hv1 hv2 hv3
          subst hv1 hv3
          clear hv2
          obtain ⟨bx, ox, rfl, hbx, hcx⟩ := (HRX.out.below B3) (by omega)
          have hck := hcx k hkx
          have hpx := HNX.out k hkx
          obtain ⟨n, hn⟩ : ∃ n : Nat, p + k = n := ⟨_, rfl⟩
          have p1 : IntKind.i64.wrap ((p : Int) + (k : Int)) = (n : Int) := by rw [IntWalk.i64_in _ (by omega)]; omega
          rw [hn] at hpx
          have hnm : n < m := by omega
          have hnm2 : (n : Int) < (m : Int) := by omega
          have hn0 : (0 : Int) ≤ (n : Int) := by omega
          have fz := own3.frozenAt hl3.symm n
          have tc := own3.cellAt hl3.symm (i := n) (by omega)
          have st := own3.stored hl3.symm n (x.getD k 0)
          rw [hpx] at st
          clear hpx hn
          generalize x.getD k 0 = z at *
          have ST := Lib.hid st.1
          have B4 := B3.setCell (p := ⟨g, n, none⟩) hge (.int .u8 z)
          clear st hcx own3
          go_wp2_with fail
          go_roundw
          case rel => exact ⟨k + 1, hkx, by go_num, ST.out, B4⟩
          case measure => simp [intOf] <;> omega
        · obtain rfl : k = x.length := by omega
          have d3 : decide ((x.length : Int) < (x.length : Int)) = false := decide_eq_false (by omega)
          have d4 : decide (x.length < x.length) = false := decide_eq_false (by omega)
          rw [HE.out] at own3
          go_wp2_with fail
          go_ret
          exact ⟨_, rfl, by rw [HW2.out]; exact own3, B3⟩
end Go.Proofs.Ytheofegmbajmkaa.Sa
