/-
  Layer 30, script.Hex: a contract. Conditions: as each theorem names.
  Layer 30, script.Unhex: a contract. Conditions: as each theorem names.
  Layer 30, the document's digits and texts: contracts. Conditions: as each theorem names.
  Layer 30, the document's Unhex: a contract. Conditions: as each theorem names.
-/
import Derived.Test.YtpdlibegjkbknaaMTxS
import Derived.LoopTactic
import Derived.Deep.LoopGhost
import Derived.Lib.Hide
import Derived.Outline
import Derived.Deep.RegionLaw
import Derived.Laws.Concat
namespace Go.Proofs.Ytpdlibegjkbknaa.Tx
open Go.ChangeShapes Go.WideShapes Go.ChangeAt Go.RowKit Go.Proofs.Ytpdlibegjkbknaa.Kit

theorem isB_new (w : World) : IsB w.heap.size w.heap.size [] (w.alloc (.cells #[.pointer none, .slice none 0 0] 44)) :=
  .inl ⟨Nat.le_refl _, .slice none 0 0, Block.new w 44 #[.pointer none, .slice none 0 0], World.ownsRow_nil _ _ _ 1, by simp [Value.ownBlock]⟩

theorem digits_size : (⟨#[48, 49, 50, 51, 52, 53, 54, 55, 56, 57, 97, 98, 99, 100, 101, 102]⟩ : ByteArray).size = 16 := by decide
theorem dig_at' : ∀ p : Fin 16, (((⟨#[48, 49, 50, 51, 52, 53, 54, 55, 56, 57, 97, 98, 99, 100, 101, 102]⟩ : ByteArray)[p.val]'(by rw [digits_size]; exact p.isLt)).toNat : Int) = dig p.val := by decide +kernel
theorem dig_at {n : Int} (h0 : 0 ≤ n) (h : n.toNat < (⟨#[48, 49, 50, 51, 52, 53, 54, 55, 56, 57, 97, 98, 99, 100, 101, 102]⟩ : ByteArray).size) : (((⟨#[48, 49, 50, 51, 52, 53, 54, 55, 56, 57, 97, 98, 99, 100, 101, 102]⟩ : ByteArray)[n.toNat]'h).toNat : Int) = dig n := by
  rw [digits_size] at h
  have := dig_at' ⟨n.toNat, h⟩
  rw [this]
  congr 1
  show ((n.toNat : Nat) : Int) = n
  omega

set_option maxRecDepth 100000 in
set_option maxHeartbeats 6400000 in
theorem hex_any (A : Option Addr) (xs : List Int) (c : Nat) (w : World) (hl : xs.length ≤ 100000) (ho : Octets xs) (hr : Holds w w.heap.size .u8 A xs) :
    Calls Try.prog 6 #[.slice A xs.length c] w fun e w' => e = .returned (.string (strOfNums (hexL xs))) ∧ Below w.heap.size w w' := by
  by_cases h0 : xs.length = 0
  · obtain rfl : xs = [] := List.eq_nil_of_length_eq_zero h0
    go_enter Try.func6, Try.ntmps6
    go_wp2
    go_ret
    exact ⟨rfl, Below.refl _ _⟩
  have d0 : ((xs.length : Int) == 0) = false := by rw [beq_eq_false_iff_ne]; omega
  have d1 : (xs.length == 0) = false := by rw [beq_eq_false_iff_ne]; omega
  have HN := Lib.hid (isB_new w)
  have HB0 := Lib.hid ((Below.refl w.heap.size w).alloc (Nat.le_refl _) (.cells #[.pointer none, .slice none 0 0] 44))
  have HR := Lib.hid hr
  have HO := Lib.hid ho
  clear hr ho
  go_enter Try.func6, Try.ntmps6
  go_wp2_with fail
  go_loopw [11] (fun s wr => ∃ j : Nat, j ≤ xs.length ∧ s = .int .i64 j ∧ IsB w.heap.size w.heap.size ((xs.take j).flatMap twoD) wr ∧ Below w.heap.size w wr) (fun s _ => xs.length - (intOf s).toNat)
  case atStart => exact ⟨0, Nat.zero_le _, rfl, HN.out, HB0.out⟩
  case round =>
    obtain ⟨j, hj, rfl, hib, hB⟩ := hrel
    have HIB := Lib.hid hib
    have HB := Lib.hid hB
    have hsz := hB.size
    clear hib hB
    by_cases hlt : j < xs.length
    · have dj : decide ((j : Int) < (xs.length : Int)) = true := decide_eq_true (by omega)
      have dj2 : decide (j < xs.length) = true := decide_eq_true hlt
      obtain ⟨b, off, rfl, hb, hc⟩ := (HR.out.below HB.out) (by omega)
      have cx := hc j hlt
      have hx := HO.out (xs.getD j 0) (by rw [List.getD_eq_getElem?_getD, List.getElem?_eq_getElem hlt]; exact List.getElem_mem hlt)
      have HT := Lib.hid (show (xs.take (j + 1)).flatMap twoD = (xs.take j).flatMap twoD ++ [dig (xs.getD j 0 / 16)] ++ [dig (xs.getD j 0 % 16)] by
        rw [List.take_succ_eq_append_getElem hlt, List.flatMap_append, List.getD_eq_getElem?_getD, List.getElem?_eq_getElem hlt]
        simp [twoD])
      have hlen : ((xs.take j).flatMap twoD).length ≤ 200000 := by rw [flat_length, List.length_take]; omega
      clear hc
      generalize xs.getD j 0 = x at *
      go_wp2_with fail
      refine (writeByte_any _ _ _ _ _ HIB.out (by omega) hsz).mono ?_
      rintro e w3 ⟨rfl, hib3, hb3⟩
      rw [dig_at (by omega)] at hib3
      have HIB3 := Lib.hid hib3
      have HB3 := Lib.hid (HB.out.trans hb3)
      clear hib3 hb3
      go_wp2_with fail
      refine (writeByte_any _ _ _ _ _ HIB3.out (by rw [List.length_append]; simp only [List.length_cons, List.length_nil]; omega) HB3.out.size).mono ?_
      rintro e w4 ⟨rfl, hib4, hb4⟩
      rw [dig_at (by omega), ← HT.out] at hib4
      have HIB4 := Lib.hid hib4
      have HB4 := Lib.hid (HB3.out.trans hb4)
      clear hib4 hb4
      go_wp2_with fail
      go_roundw
      case rel => exact ⟨j + 1, hlt, by go_num, HIB4.out, HB4.out⟩
      case measure => simp [intOf] <;> omega
    · obtain rfl : j = xs.length := by omega
      have dj : decide ((xs.length : Int) < (xs.length : Int)) = false := decide_eq_false (by omega)
      have dj2 : decide (xs.length < xs.length) = false := decide_eq_false (by omega)
      have hxe : ¬ xs = [] := by intro he; rw [he] at h0; exact h0 rfl
      have HE := Lib.hid (show (xs.take xs.length).flatMap twoD = hexL xs by unfold hexL; rw [if_neg hxe, List.take_length])
      have GS := Lib.hid (string_any _ _ _ wr (flat_octets (fun x hx => HO.out x (List.mem_of_mem_take hx))) HIB.out hsz)
      rw [HE.out] at GS
      go_wp2_with (go_at_call 14; refine GS.out.mono ?_; rintro e w5 ⟨rfl, hb5⟩)
      go_ret
      exact ⟨rfl, HB.out.trans hb5⟩
end Go.Proofs.Ytpdlibegjkbknaa.Tx

namespace Go.Proofs.Ytpdlibegjkbknaa.Tx
open Go.ChangeShapes Go.WideShapes Go.ChangeAt Go.RowKit Go.Proofs.Ytpdlibegjkbknaa.Kit

theorem elem8 : IntElem Try.prog 22 5 .u8 1 := ⟨Try.underlying22, by kernel_rfl, by omega⟩
theorem str46 (s : ByteArray) : s = ⟨#[46]⟩ ↔ numsOf s = [46] := by
  constructor
  · rintro rfl; rfl
  · intro h
    have := str_nums s
    rw [h] at this
    exact this.symm
theorem or16' : ∀ y v : Fin 16, bits BinOp.or IntKind.u8 ((y.val : Int) * 16) (v.val : Int) = 16 * (y.val : Int) + (v.val : Int) := by decide +kernel
theorem or16 {y v : Int} (hy : 0 ≤ y ∧ y < 16) (hv : 0 ≤ v ∧ v < 16) : bits BinOp.or IntKind.u8 (y * 16) v = 16 * y + v := by
  have h := or16' ⟨y.toNat, by omega⟩ ⟨v.toNat, by omega⟩
  have e1 : ((y.toNat : Nat) : Int) = y := by omega
  have e2 : ((v.toNat : Nat) : Int) = v := by omega
  simp only [e1, e2] at h
  exact h
/-- The bytes of a text, and whether it is one. -/
def UnTo (s : ByteArray) (w : World) (e : Ending) (w' : World) : Prop :=
  ∃ (A : Option Addr) (c : Nat), e = .returned (.tuple #[.slice A (unL (numsOf s)).length c, .bool (unB (numsOf s))]) ∧ Holds w' w'.heap.size .u8 A (unL (numsOf s)) ∧ (unL (numsOf s)).length ≤ c ∧ Below w.heap.size w w'

set_option maxRecDepth 100000 in
set_option maxHeartbeats 6400000 in
theorem unhex_any (s : ByteArray) (w : World) (hs : s.size ≤ 1000000) : Calls Try.prog 7 #[.string s] w (UnTo s w) := by
  have hnl := numsOf_length s
  by_cases h46 : s = ⟨#[46]⟩
  · subst h46
    go_enter Try.func7, Try.ntmps7
    go_wp2
    go_ret2
    exact ⟨none, 0, rfl, Holds.nil, Nat.le_refl _, Below.refl _ _⟩
  have hn46 : numsOf s ≠ [46] := fun h => h46 ((str46 s).2 h)
  have d46 : (s.toList == [46]) = false := by
    rw [beq_eq_false_iff_ne]
    intro h
    apply h46
    have h2 : s.data.toList = [46] := by rw [← ByteArray.toList_eq]; exact h
    obtain ⟨⟨l⟩⟩ := s
    simp at h2
    rw [h2]
  have HN46 := Lib.hid hn46
  have HNL := Lib.hid hnl
  clear h46 hn46 hnl
  by_cases h0 : s.size = 0
  · have e0 : ((s.size : Int) == 0) = true := by rw [beq_iff_eq]; omega
    have e1 : (s.size == 0) = true := by rw [beq_iff_eq]; omega
    have HU := Lib.hid (unhex_none HN46.out (.inl (List.eq_nil_of_length_eq_zero (by rw [HNL.out]; exact h0))))
    clear h0
    go_enter Try.func7, Try.ntmps7
    go_wp2
    go_ret2
    refine ⟨none, 0, ?_, ?_, ?_, Below.refl _ _⟩ <;> rw [HU.out.2]
    · rw [HU.out.1]; rfl
    · exact Holds.nil
    · exact Nat.le_refl _
  have e0 : ((s.size : Int) == 0) = false := by rw [beq_eq_false_iff_ne]; omega
  have e1 : (s.size == 0) = false := by rw [beq_eq_false_iff_ne]; omega
  by_cases h2 : s.size % 2 = 1
  · have e2 : decide ((0 : Int) < (s.size : Int) % 2) = true := decide_eq_true (by omega)
    have e3 : decide (0 < s.size % 2) = true := decide_eq_true (by omega)
    have HU := Lib.hid (unhex_none HN46.out (.inr (.inl (by rw [HNL.out]; exact h2))))
    clear h2 h0
    go_enter Try.func7, Try.ntmps7
    go_wp2
    go_ret2
    refine ⟨none, 0, ?_, ?_, ?_, Below.refl _ _⟩ <;> rw [HU.out.2]
    · rw [HU.out.1]; rfl
    · exact Holds.nil
    · exact Nat.le_refl _
  have e2 : decide ((0 : Int) < (s.size : Int) % 2) = false := decide_eq_false (by omega)
  have e3 : decide (0 < s.size % 2) = false := decide_eq_false (by omega)
  obtain ⟨n, hn⟩ : ∃ n, s.size = 2 * n := ⟨s.size / 2, by omega⟩
  have hn0 : 0 < n := by omega
  have e4 : (s.size : Int) / 2 = (n : Int) := by omega
  have HN := Lib.hid hn
  have hnb : n ≤ 500000 := by omega
  have hsz2 : (s.size : Int) = 2 * (n : Int) := by omega
  have HSZ := Lib.hid hsz2
  clear h0 h2 hn hsz2
  go_enter Try.func7, Try.ntmps7
  go_wp2_with (at_make; refine wpList_make_ints _ rfl _ _ _ rfl elem8 n n rfl rfl (by omega) (by omega) (Nat.le_refl _) (by omega) ?_; intro w1 own1 hb1 hz1)
  have HO1 := Lib.hid (show Own w1 w.heap.size 5 .u8 (.slice (some ⟨w.heap.size, 0, none⟩) n n) (fillH (numsOf s) n 0) by rw [fillH_zero]; exact own1)
  have HB1 := Lib.hid hb1
  clear own1 hb1 hz1
  go_loopw [24] (fun t wr => ∃ i : Nat, i ≤ s.size ∧ t = .int .i64 i ∧ Own wr w.heap.size 5 .u8 (.slice (some ⟨w.heap.size, 0, none⟩) n n) (fillH (numsOf s) n i) ∧ Hid (∀ j, j < i → 0 ≤ valD ((numsOf s).getD j 0)) ∧ Below w.heap.size w wr) (fun t _ => s.size - (intOf t).toNat)
  case atStart => exact ⟨0, Nat.zero_le _, rfl, HO1.out, Lib.hid (fun j hj => absurd hj (by omega)), HB1.out⟩
  case round =>
    obtain ⟨i, hi, rfl, own, HV, hB⟩ := hrel
    have HB := Lib.hid hB
    clear hB HO1
    by_cases hlt : i < s.size
    · have dj : decide ((i : Int) < (s.size : Int)) = true := decide_eq_true (by omega)
      have dj2 : decide (i < s.size) = true := decide_eq_true hlt
      have hcg := numsOf_get s i hlt
      have hch : 0 ≤ (numsOf s).getD i 0 ∧ (numsOf s).getD i 0 ≤ 255 := by rw [hcg]; have := s[i].toNat_lt; omega
      have GI := Lib.hid (fun W => indexByte_any ((numsOf s).getD i 0) W hch)
      rw [hcg] at GI
      have HCG := Lib.hid hcg
      clear hcg hch
      obtain ⟨V, hV⟩ : ∃ V, valD ((s[i].toNat : Nat) : Int) = V := ⟨_, rfl⟩
      rw [hV] at GI
      have hVb := valD_bd ((s[i].toNat : Nat) : Int)
      rw [hV] at hVb
      have HVV := Lib.hid hV
      clear hV
      by_cases hv : V < 0
      · have dv : decide (V < 0) = true := decide_eq_true hv
        have HU := Lib.hid (unhex_none HN46.out (.inr (.inr ⟨i, by rw [HNL.out]; exact hlt, by rw [HCG.out, HVV.out]; exact hv⟩)))
        go_wp2_with (go_at_call 15; (with_reducible refine (GI.out _).mono ?_); rintro e w3 ⟨rfl, rfl⟩)
        go_ret2
        refine ⟨none, 0, ?_, ?_, ?_, HB.out⟩ <;> rw [HU.out.2]
        · rw [HU.out.1]; rfl
        · exact Holds.nil
        · exact Nat.le_refl _
      · have dv : decide (V < 0) = false := decide_eq_false hv
        have hi2 : i < 2 * n := by have := HN.out; omega
        have x1 : 0 ≤ (i : Int) / 2 := by omega
        have x2 : (i : Int) / 2 < (n : Int) := by omega
        have hlen : n = (fillH (numsOf s) n i).length := (fillH_length _ _ _).symm
        have cy := own.cellAt hlen (i := i / 2) (by omega)
        have fy := own.frozenAt hlen (i / 2)
        rw [fillH_get _ _ _ hi2] at cy
        obtain ⟨y, hy⟩ : ∃ y, (if i % 2 = 0 then 0 else valD ((numsOf s).getD (i - 1) 0)) = y := ⟨_, rfl⟩
        rw [hy] at cy
        have hyb : 0 ≤ y ∧ y < 16 := by
          by_cases he : i % 2 = 0
          · rw [if_pos he] at hy; omega
          · rw [if_neg he] at hy
            have h1 := HV.out (i - 1) (by omega)
            have h2 := valD_bd ((numsOf s).getD (i - 1) 0)
            omega
        have HY := Lib.hid hy
        have HLEN := Lib.hid hlen
        have HST := Lib.hid (fun z => (own.stored hlen (i / 2) z).1)
        clear hy hlen own
        go_wp2_with (go_at_call 15; (with_reducible refine (GI.out _).mono ?_); rintro e w3 ⟨rfl, rfl⟩)
        go_roundw
        case rel =>
          rw [or16 hyb (by omega)]
          have hst := HST.out (16 * y + V)
          have hnx := fillH_next (numsOf s) n i hi2
          rw [show (if i % 2 = 0 then valD ((numsOf s).getD i 0) else 16 * valD ((numsOf s).getD (i - 1) 0) + valD ((numsOf s).getD i 0)) = 16 * y + V by
            rw [← HY.out, HCG.out, HVV.out]
            by_cases he : i % 2 = 0
            · rw [if_pos he, if_pos he]; omega
            · rw [if_neg he, if_neg he]] at hnx
          rw [← hnx] at hst
          refine ⟨i + 1, hlt, by go_num, hst, Lib.hid fun j hj => ?_, HB.out.setCell (Nat.le_refl _) _⟩
          by_cases hji : j < i
          · exact HV.out j hji
          · obtain rfl : j = i := by omega
            rw [HCG.out, HVV.out]; omega
        case measure => simp [intOf] <;> omega
    · obtain rfl : i = s.size := by omega
      have dj : decide ((s.size : Int) < (s.size : Int)) = false := decide_eq_false (by omega)
      have dj2 : decide (s.size < s.size) = false := decide_eq_false (by omega)
      have HU := Lib.hid (unhex_full HN46.out (by rw [HNL.out]; exact HN.out) hn0 (fun j hj => HV.out j (by have := HN.out; omega)))
      have HO := Lib.hid own
      have HFL := Lib.hid (fillH_length (numsOf s) n (2 * n))
      clear own
      go_wp2_with fail
      go_ret2
      have hown := HO.out
      rw [HN.out, ← HU.out.2] at hown
      have hul : (unL (numsOf s)).length = n := by rw [HU.out.2]; exact HFL.out
      obtain ⟨A9, c9, e9, k9, _, hh⟩ := hown.opened
      injection e9 with e1 e2 e3
      subst e1 e3
      refine ⟨_, n, ?_, hh, by omega, HB.out⟩
      rw [HU.out.1, hul]
      rfl
end Go.Proofs.Ytpdlibegjkbknaa.Tx

namespace Go.Proofs.Ytpdlibegjkbknaa.Tx
open Go.ChangeShapes Go.WideShapes Go.ChangeAt Go.RowKit Go.Proofs.Ytpdlibegjkbknaa.Kit

theorem str_join (xs ys : List Int) : strOfNums xs ++ strOfNums ys = strOfNums (xs ++ ys) := by
  unfold strOfNums
  rw [List.map_append]
  apply ByteArray.ext
  simp
theorem add_str {P : Program} (xs ys : List Int) (h : xs.length + ys.length ≤ 1000000) (W : World) : (Op.stringOp .add (strOfNums xs) (strOfNums ys)).run P W = .ok (.string (strOfNums (xs ++ ys))) W := by
  rw [← str_join]
  exact run_string_add_sum W _ _ (by rw [strOfNums_size, strOfNums_size]; omega)

set_option maxRecDepth 100000 in
set_option maxHeartbeats 1600000 in
theorem digit_any (n : Int) (w : World) (hn : 0 ≤ n ∧ n < 16) :
    Calls Try.prog 17 #[.int .u8 n] w fun e w' => e = .returned (.string (strOfNums [dig n])) ∧ Below w.heap.size w w' := by
  by_cases h : n < 10
  · have d0 : decide (n < 10) = true := decide_eq_true h
    have e : dig n = 48 + n := if_pos h
    rw [e]
    have hB := (Below.refl w.heap.size w).alloc (Nat.le_refl _) (.cells #[.int .u8 (48 + n)] 5)
    have f1 : (convert 22 9 (.slice (some ⟨w.heap.size, 0, none⟩) 1 1)).run Try.prog (w.alloc (.cells #[.int .u8 (48 + n)] 5)) = .ok (.string (strOfNums [48 + n])) (w.alloc (.cells #[.int .u8 (48 + n)] 5)) := conv_bytes Try.underlying22 Try.underlying5 Try.underlying9 (w.alloc (.cells #[.int .u8 (48 + n)] 5)) (some ⟨w.heap.size, 0, none⟩) [48 + n] 1 _ (Holds.new w .u8 (48 + n) 5)
    have HB := Lib.hid hB
    clear hB e
    generalize strOfNums [48 + n] = sx at *
    go_enter Try.func17, Try.ntmps17
    go_wp2
    go_ret
    exact ⟨rfl, HB.out⟩
  · have d0 : decide (n < 10) = false := decide_eq_false h
    have e : dig n = 87 + n := if_neg h
    have e2 : 97 + n - 10 = 87 + n := by omega
    rw [e]
    have hB := (Below.refl w.heap.size w).alloc (Nat.le_refl _) (.cells #[.int .u8 (87 + n)] 5)
    have f1 : (convert 22 9 (.slice (some ⟨w.heap.size, 0, none⟩) 1 1)).run Try.prog (w.alloc (.cells #[.int .u8 (87 + n)] 5)) = .ok (.string (strOfNums [87 + n])) (w.alloc (.cells #[.int .u8 (87 + n)] 5)) := conv_bytes Try.underlying22 Try.underlying5 Try.underlying9 (w.alloc (.cells #[.int .u8 (87 + n)] 5)) (some ⟨w.heap.size, 0, none⟩) [87 + n] 1 _ (Holds.new w .u8 (87 + n) 5)
    have HB := Lib.hid hB
    clear hB e
    generalize strOfNums [87 + n] = sx at *
    go_enter Try.func17, Try.ntmps17
    go_wp2
    go_ret
    exact ⟨rfl, HB.out⟩

set_option maxRecDepth 100000 in
set_option maxHeartbeats 6400000 in
theorem rhex_any (A : Option Addr) (xs : List Int) (c : Nat) (w : World) (hl : xs.length ≤ 100000) (ho : Octets xs) (hr : Holds w w.heap.size .u8 A xs) :
    Calls Try.prog 9 #[.slice A xs.length c] w fun e w' => e = .returned (.string (strOfNums (hexL xs))) ∧ Below w.heap.size w w' := by
  by_cases h0 : xs.length = 0
  · obtain rfl : xs = [] := List.eq_nil_of_length_eq_zero h0
    go_enter Try.func9, Try.ntmps9
    go_wp2
    go_ret
    exact ⟨rfl, Below.refl _ _⟩
  have d0 : ((xs.length : Int) == 0) = false := by rw [beq_eq_false_iff_ne]; omega
  have d1 : (xs.length == 0) = false := by rw [beq_eq_false_iff_ne]; omega
  have HR := Lib.hid hr
  have HO := Lib.hid ho
  clear hr ho
  go_enter Try.func9, Try.ntmps9
  go_wp2_with fail
  go_loopw [3, 10] (fun t s wr => ∃ j : Nat, j ≤ xs.length ∧ s = .int .i64 j ∧ t = .string (strOfNums ((xs.take j).flatMap twoD)) ∧ Below w.heap.size w wr) (fun _ s _ => xs.length - (intOf s).toNat)
  case atStart => exact ⟨0, Nat.zero_le _, rfl, rfl, Below.refl _ _⟩
  case round =>
    obtain ⟨j, hj, rfl, rfl, hB⟩ := hrel
    have HB := Lib.hid hB
    by_cases hlt : j < xs.length
    · have dj : decide ((j : Int) < (xs.length : Int)) = true := decide_eq_true (by omega)
      have dj2 : decide (j < xs.length) = true := decide_eq_true hlt
      obtain ⟨b, off, rfl, hb, hc⟩ := (HR.out.below hB) (by omega)
      have cx := hc j hlt
      have hx := HO.out (xs.getD j 0) (by rw [List.getD_eq_getElem?_getD, List.getElem?_eq_getElem hlt]; exact List.getElem_mem hlt)
      have HT := Lib.hid (show (xs.take (j + 1)).flatMap twoD = (xs.take j).flatMap twoD ++ [dig (xs.getD j 0 / 16)] ++ [dig (xs.getD j 0 % 16)] by
        rw [List.take_succ_eq_append_getElem hlt, List.flatMap_append, List.getD_eq_getElem?_getD, List.getElem?_eq_getElem hlt]
        simp [twoD])
      have hlen : ((xs.take j).flatMap twoD).length ≤ 200000 := by rw [flat_length, List.length_take]; omega
      clear hc hB
      generalize xs.getD j 0 = x at *
      have GD1 := Lib.hid (fun W => digit_any (x / 16) W (by omega))
      have GD2 := Lib.hid (fun W => digit_any (x % 16) W (by omega))
      have a1 := fun W => add_str (P := Try.prog) ((xs.take j).flatMap twoD) [dig (x / 16)] (by simp only [List.length_cons, List.length_nil]; omega) W
      have a2 := fun W => add_str (P := Try.prog) ((xs.take j).flatMap twoD ++ [dig (x / 16)]) [dig (x % 16)] (by rw [List.length_append]; simp only [List.length_cons, List.length_nil]; omega) W
      rw [← HT.out] at a2
      obtain ⟨t0, h0'⟩ : ∃ t, strOfNums ((xs.take j).flatMap twoD) = t := ⟨_, rfl⟩
      obtain ⟨t1, h1'⟩ : ∃ t, strOfNums [dig (x / 16)] = t := ⟨_, rfl⟩
      obtain ⟨t2, h2'⟩ : ∃ t, strOfNums ((xs.take j).flatMap twoD ++ [dig (x / 16)]) = t := ⟨_, rfl⟩
      obtain ⟨t3, h3'⟩ : ∃ t, strOfNums [dig (x % 16)] = t := ⟨_, rfl⟩
      obtain ⟨t4, h4'⟩ : ∃ t, strOfNums ((xs.take (j + 1)).flatMap twoD) = t := ⟨_, rfl⟩
      rw [h0', h1', h2'] at a1
      rw [h2', h3', h4'] at a2
      rw [h1'] at GD1
      rw [h3'] at GD2
      rw [h0']
      have HT4 := Lib.hid h4'
      have q1 : x.tdiv 16 = x / 16 := Int.tdiv_eq_ediv_of_nonneg (by omega)
      have q2 : x.tmod 16 = x % 16 := Int.tmod_eq_emod_of_nonneg (by omega)
      have q3 : IntKind.u8.wrap (x / 16) = x / 16 := by rw [IntKind.wrap_u8]; omega
      have q4 : IntKind.u8.wrap (x % 16) = x % 16 := by rw [IntKind.wrap_u8]; omega
      have HCX := Lib.hid (fun W (hW : Below wr.heap.size wr W) => (hW.cell (p := ⟨b, off + j, none⟩) (Nat.lt_of_lt_of_le hb HB.out.size)).trans cx)
      have hD : Below wr.heap.size wr wr.drew := (Below.refl _ _).drew
      have HD := Lib.hid hD
      have cx0 := HCX.out _ hD
      clear HT hlen h0' h1' h2' h3' h4' hD
      go_wp2_with fail
      go_region_law (first
        | (have _t := HB3; clear _t; go_simp; go_at_call 17; (with_reducible refine (GD2.out _).mono ?_); rintro e w4 ⟨rfl, hb4⟩; have HB4 := Lib.hid (HB3.out.trans (hb4.mono HB3.out.size)); clear hb4)
        | (go_simp; go_at_call 17; (with_reducible refine (GD1.out _).mono ?_); rintro e w3 ⟨rfl, hb3⟩; have cx3 := HCX.out _ (HD.out.trans (hb3.mono HD.out.size)); have HB3 := Lib.hid (HD.out.trans (hb3.mono HD.out.size)); clear hb3))
      all_goals
        go_wp2_with fail
        go_roundw
        case rel => exact ⟨j + 1, hlt, by go_num, by rw [HT4.out], HB.out.trans (HB4.out.mono HB.out.size)⟩
        case measure => simp [intOf] <;> omega
    · obtain rfl : j = xs.length := by omega
      have dj : decide ((xs.length : Int) < (xs.length : Int)) = false := decide_eq_false (by omega)
      have dj2 : decide (xs.length < xs.length) = false := decide_eq_false (by omega)
      have hxe : ¬ xs = [] := by intro he; rw [he] at h0; exact h0 rfl
      have HE := Lib.hid (show (xs.take xs.length).flatMap twoD = hexL xs by unfold hexL; rw [if_neg hxe, List.take_length])
      rw [HE.out]
      go_wp2_with fail
      go_ret
      exact ⟨rfl, HB.out⟩

set_option maxHeartbeats 1600000 in
theorem value_any (c : Int) (w : World) (hc : 0 ≤ c ∧ c ≤ 255) :
    Calls Try.prog 16 #[.int .u8 c] w fun e w' => e = .returned (.tuple #[.int .u8 (if valD c < 0 then 0 else valD c), .bool (decide (0 ≤ valD c))]) ∧ w = w' := by
  by_cases h0 : 48 ≤ c ∧ c ≤ 57
  · have e : valD c = c - 48 := if_pos h0
    have d0 : decide (48 ≤ c) = true := decide_eq_true h0.1
    have d1 : decide (c ≤ 57) = true := decide_eq_true h0.2
    rw [e, if_neg (by omega), decide_eq_true (show 0 ≤ c - 48 by omega)]
    clear e
    go_enter Try.func16, Try.ntmps16
    go_wp2
    go_ret2
    exact ⟨rfl, rfl⟩
  by_cases h1 : 97 ≤ c ∧ c ≤ 102
  · have e : valD c = c - 87 := by unfold valD; rw [if_neg h0, if_pos h1]
    have d0 : decide (48 ≤ c) = true := decide_eq_true (by omega)
    have d1 : decide (c ≤ 57) = false := decide_eq_false (by omega)
    have d2 : decide (97 ≤ c) = true := decide_eq_true h1.1
    have d3 : decide (c ≤ 102) = true := decide_eq_true h1.2
    have e2 : c - 97 + 10 = c - 87 := by omega
    rw [e, if_neg (by omega), decide_eq_true (show 0 ≤ c - 87 by omega), ← e2]
    clear e e2
    go_enter Try.func16, Try.ntmps16
    go_wp2
    go_ret2
    exact ⟨rfl, rfl⟩
  have e : valD c = -1 := by unfold valD; rw [if_neg h0, if_neg h1]
  rw [e, if_pos (by omega), decide_eq_false (show ¬ (0 : Int) ≤ -1 by omega)]
  clear e
  by_cases a1 : 48 ≤ c
  · have d0 : decide (48 ≤ c) = true := decide_eq_true a1
    have d1 : decide (c ≤ 57) = false := decide_eq_false (by omega)
    by_cases a2 : 97 ≤ c
    · have d2 : decide (97 ≤ c) = true := decide_eq_true a2
      have d3 : decide (c ≤ 102) = false := decide_eq_false (by omega)
      go_enter Try.func16, Try.ntmps16
      go_wp2
      go_ret2
      exact ⟨rfl, rfl⟩
    · have d2 : decide (97 ≤ c) = false := decide_eq_false a2
      go_enter Try.func16, Try.ntmps16
      go_wp2
      go_ret2
      exact ⟨rfl, rfl⟩
  · have d0 : decide (48 ≤ c) = false := decide_eq_false a1
    have d2 : decide (97 ≤ c) = false := decide_eq_false (by omega)
    go_enter Try.func16, Try.ntmps16
    go_wp2
    go_ret2
    exact ⟨rfl, rfl⟩
end Go.Proofs.Ytpdlibegjkbknaa.Tx

namespace Go.Proofs.Ytpdlibegjkbknaa.Tx
open Go.ChangeShapes Go.WideShapes Go.ChangeAt Go.RowKit Go.Proofs.Ytpdlibegjkbknaa.Kit

def outK (cs : List Int) (k : Nat) : List Int := (List.range k).map fun j => 16 * valD (cs.getD (2 * j) 0) + valD (cs.getD (2 * j + 1) 0)
theorem outK_length (cs : List Int) (k : Nat) : (outK cs k).length = k := by simp [outK]
theorem outK_next (cs : List Int) (k : Nat) : outK cs (k + 1) = outK cs k ++ [16 * valD (cs.getD (2 * k) 0) + valD (cs.getD (2 * k + 1) 0)] := by
  unfold outK
  rw [List.range_succ, List.map_append]
  rfl
theorem outK_all (cs : List Int) (n : Nat) : outK cs n = fillH cs n (2 * n) := by
  unfold outK fillH
  refine List.map_congr_left fun j hj => ?_
  have := List.mem_range.1 hj
  rw [if_pos (by omega)]

set_option maxRecDepth 100000 in
set_option maxHeartbeats 6400000 in
theorem runhex_any (s : ByteArray) (w : World) (hs : s.size ≤ 1000000) : Calls Try.prog 8 #[.string s] w (UnTo s w) := by
  have hnl := numsOf_length s
  have hb0 : Below w.heap.size w (w.alloc (.cells #[] 5)) := (Below.refl _ _).alloc (Nat.le_refl _) _
  by_cases h46 : s = ⟨#[46]⟩
  · subst h46
    go_enter Try.func8, Try.ntmps8
    go_wp2
    go_ret2
    exact ⟨_, _, rfl, Holds.nil, Nat.le_refl _, hb0⟩
  have hn46 : numsOf s ≠ [46] := fun h => h46 ((str46 s).2 h)
  have d46 : (s.toList == [46]) = false := by
    rw [beq_eq_false_iff_ne]
    intro h
    apply h46
    have h2 : s.data.toList = [46] := by rw [← ByteArray.toList_eq]; exact h
    obtain ⟨⟨l⟩⟩ := s
    simp at h2
    rw [h2]
  have HN46 := Lib.hid hn46
  have HNL := Lib.hid hnl
  have own0 := Own.empty (B := w.heap.size) w 5 .u8 (Nat.le_refl _)
  have HO0 := Lib.hid own0
  have HB0 := Lib.hid hb0
  clear h46 hn46 hnl own0 hb0
  by_cases h0 : s.size = 0
  · have hse : s = ⟨#[]⟩ := by
      obtain ⟨⟨l⟩⟩ := s
      have : l.length = 0 := h0
      rw [List.eq_nil_of_length_eq_zero this]
    subst hse
    have HU := Lib.hid (unhex_none HN46.out (.inl (List.eq_nil_of_length_eq_zero (by rw [HNL.out]; exact h0))))
    clear h0 d46
    go_enter Try.func8, Try.ntmps8
    go_wp2
    go_ret2
    refine ⟨some ⟨w.heap.size, 0, none⟩, 0, ?_, ?_, ?_, HB0.out⟩ <;> rw [HU.out.2]
    · rw [HU.out.1]; rfl
    · exact Holds.nil
    · exact Nat.le_refl _
  have hne : s.toList ≠ [] := by
    intro h
    apply h0
    have h2 : s.data.toList = [] := by rw [← ByteArray.toList_eq]; exact h
    obtain ⟨⟨l⟩⟩ := s
    simp at h2
    rw [h2]
    rfl
  have e0 : (s.toList == []) = false := by rw [beq_eq_false_iff_ne]; exact hne
  have e1 : s.toList.isEmpty = false := by
    cases hq : s.toList with
    | nil => exact absurd hq hne
    | cons _ _ => rfl
  by_cases h2 : s.size % 2 = 1
  · have e2 : ((s.size : Int) % 2 == 1) = true := by rw [beq_iff_eq]; omega
    have e3 : (s.size % 2 == 1) = true := by rw [beq_iff_eq]; omega
    have HU := Lib.hid (unhex_none HN46.out (.inr (.inl (by rw [HNL.out]; exact h2))))
    clear h2 h0 hne
    go_enter Try.func8, Try.ntmps8
    go_wp2
    go_ret2
    refine ⟨some ⟨w.heap.size, 0, none⟩, 0, ?_, ?_, ?_, HB0.out⟩ <;> rw [HU.out.2]
    · rw [HU.out.1]; rfl
    · exact Holds.nil
    · exact Nat.le_refl _
  have e2 : ((s.size : Int) % 2 == 1) = false := by rw [beq_eq_false_iff_ne]; omega
  have e3 : (s.size % 2 == 1) = false := by rw [beq_eq_false_iff_ne]; omega
  obtain ⟨n, hn⟩ : ∃ n, s.size = 2 * n := ⟨s.size / 2, by omega⟩
  have hn0 : 0 < n := by omega
  have HN := Lib.hid hn
  have hnb : n ≤ 500000 := by omega
  clear h0 h2 hn hne
  go_enter Try.func8, Try.ntmps8
  go_wp2_with fail
  go_loopw [4, 5] (fun t u wr => ∃ k : Nat, k ≤ n ∧ u = .int .i64 ((2 * k : Nat) : Int) ∧ Own wr w.heap.size 5 .u8 t (outK (numsOf s) k) ∧ Hid (∀ j, j < 2 * k → 0 ≤ valD ((numsOf s).getD j 0)) ∧ Below w.heap.size w wr) (fun _ u _ => s.size - (intOf u).toNat)
  case atStart => exact ⟨0, Nat.zero_le _, rfl, HO0.out, Lib.hid (fun j hj => absurd hj (by omega)), HB0.out⟩
  case round =>
    obtain ⟨k, hk, rfl, own, HV, hB⟩ := hrel
    have HB := Lib.hid hB
    have hsz := hB.size
    clear hB HO0 HB0
    obtain ⟨i, hi⟩ : ∃ i, 2 * k = i := ⟨_, rfl⟩
    rw [hi] at HV ⊢
    have HI := Lib.hid hi
    by_cases hlt : i < s.size
    · have hkn : k < n := by have := HN.out; omega
      have hlt2 : i + 1 < s.size := by have := HN.out; omega
      have dj : decide ((i : Int) < (s.size : Int)) = true := decide_eq_true (by omega)
      have dj2 : decide (i < s.size) = true := decide_eq_true hlt
      have hc1 := numsOf_get s i hlt
      have hc2 := numsOf_get s (i + 1) hlt2
      have HNX := Lib.hid (outK_next (numsOf s) k)
      rw [hi, hc1, hc2] at HNX
      have GV1 := Lib.hid (fun W => value_any ((s[i].toNat : Nat) : Int) W (by have := s[i].toNat_lt; omega))
      have GV2 := Lib.hid (fun W => value_any ((s[i + 1].toNat : Nat) : Int) W (by have := s[i + 1].toNat_lt; omega))
      have hb1 := valD_bd ((s[i].toNat : Nat) : Int)
      have hb2 := valD_bd ((s[i + 1].toNat : Nat) : Int)
      have HC1 := Lib.hid hc1
      have HC2 := Lib.hid hc2
      obtain ⟨V1, hV1⟩ : ∃ V, valD ((s[i].toNat : Nat) : Int) = V := ⟨_, rfl⟩
      obtain ⟨V2, hV2⟩ : ∃ V, valD ((s[i + 1].toNat : Nat) : Int) = V := ⟨_, rfl⟩
      rw [hV1] at GV1 hb1 HNX
      rw [hV2] at GV2 hb2 HNX
      have HV1 := Lib.hid hV1
      have HV2 := Lib.hid hV2
      have HO := Lib.hid own
      have hol := outK_length (numsOf s) k
      have HOL := Lib.hid hol
      clear hc1 hc2 hV1 hV2 own hi hol
      by_cases v1 : V1 < 0
      · rw [if_pos v1, decide_eq_false (show ¬ 0 ≤ V1 by omega)] at GV1
        have HU := Lib.hid (unhex_none HN46.out (.inr (.inr ⟨i, by rw [HNL.out]; exact hlt, by rw [HC1.out, HV1.out]; exact v1⟩)))
        have HB2 := Lib.hid (HB.out.alloc hsz (.cells #[] 5))
        obtain ⟨b2, hb2'⟩ : ∃ b, decide (0 ≤ V2) = b := ⟨_, rfl⟩
        rw [hb2'] at GV2
        obtain ⟨y2, hy2⟩ : ∃ y, (if V2 < 0 then 0 else V2) = y := ⟨_, rfl⟩
        rw [hy2] at GV2
        clear hb2' hy2 HNX
        go_wp2_with (first
          | (go_at_call 16; (with_reducible refine (GV1.out _).mono ?_); rintro e w3 ⟨rfl, rfl⟩)
          | (go_at_call 16; (with_reducible refine (GV2.out _).mono ?_); rintro e w3 ⟨rfl, rfl⟩))
        go_ret2
        refine ⟨some ⟨wr.heap.size, 0, none⟩, 0, ?_, ?_, ?_, HB2.out⟩ <;> rw [HU.out.2]
        · rw [HU.out.1]; rfl
        · exact Holds.nil
        · exact Nat.le_refl _
      · rw [if_neg v1, decide_eq_true (show 0 ≤ V1 by omega)] at GV1
        by_cases v2 : V2 < 0
        · rw [if_pos v2, decide_eq_false (show ¬ 0 ≤ V2 by omega)] at GV2
          have HU := Lib.hid (unhex_none HN46.out (.inr (.inr ⟨i + 1, by rw [HNL.out]; exact hlt2, by rw [HC2.out, HV2.out]; exact v2⟩)))
          have HB2 := Lib.hid (HB.out.alloc hsz (.cells #[] 5))
          clear HNX
          go_wp2_with (first
            | (go_at_call 16; (with_reducible refine (GV1.out _).mono ?_); rintro e w3 ⟨rfl, rfl⟩)
            | (go_at_call 16; (with_reducible refine (GV2.out _).mono ?_); rintro e w3 ⟨rfl, rfl⟩))
          go_ret2
          refine ⟨some ⟨wr.heap.size, 0, none⟩, 0, ?_, ?_, ?_, HB2.out⟩ <;> rw [HU.out.2]
          · rw [HU.out.1]; rfl
          · exact Holds.nil
          · exact Nat.le_refl _
        · rw [if_neg v2, decide_eq_true (show 0 ≤ V2 by omega)] at GV2
          have hnew := Holds.new wr .u8 (16 * V1 + V2) 5
          have HNW := Lib.hid hnew
          have HOA := Lib.hid (HO.out.alloc (.cells #[.int .u8 (16 * V1 + V2)] 5))
          have HBA := Lib.hid (HB.out.alloc hsz (.cells #[.int .u8 (16 * V1 + V2)] 5))
          have hbA : w.heap.size ≤ (wr.alloc (.cells #[.int .u8 (16 * V1 + V2)] 5)).heap.size := by simp; omega
          clear hnew
          go_wp2_with (first
            | (go_at_call 16; (with_reducible refine (GV1.out _).mono ?_); rintro e w3 ⟨rfl, rfl⟩)
            | (go_at_call 16; (with_reducible refine (GV2.out _).mono ?_); rintro e w3 ⟨rfl, rfl⟩)
            | (at_builtin; go_loud (refine wpList_append_ints (ys := [16 * V1 + V2]) _ rfl _ _ _ rfl elem8 HOA.out rfl rfl HNW.out (by rw [HOL.out]; simp only [List.length_cons, List.length_nil]; omega) hbA ?_; intro v5 w5 own5 hg5 hb5 hv5; rw [← HNX.out] at own5)))
          go_roundw
          case rel =>
            refine ⟨k + 1, by omega, ?_, own5, Lib.hid fun j hj => ?_, HBA.out.trans hb5⟩
            · have := HI.out; congr 1; omega
            · have hik := HI.out
              by_cases hj1 : j < i
              · exact HV.out j hj1
              · by_cases hj2 : j = i
                · rw [hj2, HC1.out, HV1.out]; omega
                · rw [show j = i + 1 by omega, HC2.out, HV2.out]; omega
          case measure => simp [intOf] <;> omega
    · have dj : decide ((i : Int) < (s.size : Int)) = false := decide_eq_false (by omega)
      have dj2 : decide (i < s.size) = false := decide_eq_false hlt
      have hkn : k = n := by have := HN.out; have := HI.out; omega
      subst hkn
      have HU := Lib.hid (unhex_full HN46.out (by rw [HNL.out]; exact HN.out) hn0 (fun j hj => HV.out j (by have := HI.out; omega)))
      rw [outK_all, ← HU.out.2] at own
      obtain ⟨A9, c9, rfl, k9, _, hh⟩ := own.opened
      have HH := Lib.hid hh
      clear own hh hi
      go_wp2_with fail
      go_ret2
      refine ⟨A9, c9, ?_, HH.out, k9, HB.out⟩
      rw [HU.out.1]
      rfl
end Go.Proofs.Ytpdlibegjkbknaa.Tx
