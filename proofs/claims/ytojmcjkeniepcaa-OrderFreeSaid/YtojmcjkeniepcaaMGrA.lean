/-
  Own words for slices of rows of numbers ([][]int) that came in; layer 18, the document's has, Same, SameAll, Great: contracts. Conditions: as each theorem names.
-/
import Derived.Test.YtojmcjkeniepcaaMGOree0
import Derived.BigQuiet
import Derived.Test.YtojmcjkeniepcaaRows
import Derived.Test.YtojmcjkeniepcaaMMem
import Derived.LoopTactic
import Derived.Lib.Hide
namespace Go.Proofs.Ytojmcjkeniepcaa.Kit
open Go.ChangeShapes Go.WideShapes Go.ChangeAt Go.RowKit

/-- A row of numbers. -/
structure Ri where
  A : Option Addr
  cap : Nat
  zs : List Int
def In64 (zs : List Int) : Prop := ∀ z ∈ zs, -9223372036854775808 ≤ z ∧ z ≤ 9223372036854775807
def RiIn (w : World) (B : Nat) (r : Ri) (cs : List Value) : Prop := cs = [.slice r.A r.zs.length r.cap] ∧ r.zs.length ≤ r.cap ∧ r.cap ≤ maxLen ∧ In64 r.zs ∧ Holds w B .i64 r.A r.zs
/-- The slice at A holds these rows of numbers, all below block B. -/
def HoldsI (w : World) (B : Nat) (A : Option Addr) (rs : List Ri) : Prop := HoldsE (RiIn w B) 1 w B A rs
section
variable {H : Type} {enc : TypeId × Value → H} {P : Program} {w w' : World} {b0 : Nat}
theorem open_rowsI {t u e : TypeId} (ht : P.underlying t = some (.slice u)) (hu : P.underlying u = some (.slice e)) (he : P.underlying e = some (.int .i64)) (hcu : P.cellsOf u = 1) (hce : P.cellsOf e = 1)
    {v : Value} {d : DataW H} {ps : List MemPlace} (hval : Value.okWide P w .any b0 t v) (h : DataW.Trod enc P w 0 (fun _ => true) true t v d ps) (hlt : ∀ x ∈ ps, x.block < w.heap.size) :
    ∃ (A : Option Addr) (cap : Nat) (rs : List Ri), v = .slice A rs.length cap ∧ rs.length ≤ cap ∧ cap ≤ maxLen ∧ HoldsI w w.heap.size A rs :=
  open_slice_of (RiIn w w.heap.size) 1 ht hcu (by omega) (fun _ _ _ h hp => by
    obtain ⟨A, cap, zs, rfl, r1, r2, r3, r4⟩ := ints_of hu he hce h hp
    exact ⟨⟨A, cap, zs⟩, rfl, r1, r2, fun z hz => bounds_i64 (r3 z hz), r4⟩) hval h hlt
theorem riAt {B : Nat} {A : Option Addr} {rs : List Ri} (h : HoldsI w B A rs) {i : Nat} (hi : i < rs.length) :
    ∃ b off : Nat, A = some ⟨b, off, none⟩ ∧ b < B ∧ w.cell? ⟨b, off + i, none⟩ = some (.slice rs[i].A rs[i].zs.length rs[i].cap) ∧ rs[i].zs.length ≤ rs[i].cap ∧ rs[i].cap ≤ maxLen ∧ In64 rs[i].zs ∧ Holds w B .i64 rs[i].A rs[i].zs := by
  obtain ⟨b, off, rfl, hb, hc⟩ := h (by omega)
  obtain ⟨cs, ⟨rfl, r4, r5, r6, r7⟩, _, hcs⟩ := hc i rs[i] (List.getElem?_eq_getElem hi)
  exact ⟨b, off, rfl, hb, by simpa using hcs 0 _ rfl, r4, r5, r6, r7⟩
theorem HoldsI.below {B : Nat} {A : Option Addr} {rs : List Ri} (h : HoldsI w B A rs) (hb : Below B w w') : HoldsI w' B A rs :=
  h.keep (fun _ hp => hb.cell hp) fun _ _ ⟨r0, r4, r5, r6, r7⟩ => ⟨r0, r4, r5, r6, r7.below hb⟩
theorem HoldsI.more {B B' : Nat} {A : Option Addr} {rs : List Ri} (h : HoldsI w B A rs) (hB : B ≤ B') : HoldsI w B' A rs := by
  intro hx
  obtain ⟨b, off, e, hb, hc⟩ := h hx
  refine ⟨b, off, e, by omega, fun i r hi => ?_⟩
  obtain ⟨cs, ⟨r0, r4, r5, r6, r7⟩, h2, h3⟩ := hc i r hi
  exact ⟨cs, ⟨r0, r4, r5, r6, r7.more hB⟩, h2, h3⟩
end
end Go.Proofs.Ytojmcjkeniepcaa.Kit
namespace Go.Proofs.Ytojmcjkeniepcaa.Gr
open Go.ChangeShapes Go.WideShapes Go.ChangeAt Go.RowKit Go.Proofs.Ytojmcjkeniepcaa.Kit

theorem getD_mem {l : List Int} {k : Nat} (h : k < l.length) : l.getD k 0 ∈ l := by
  rw [List.getD, List.getElem?_eq_getElem h]
  exact List.getElem_mem h
theorem take_all_next {l : List Int} {k : Nat} (h : k < l.length) : l.take (k + 1) = l.take k ++ [l.getD k 0] := by
  rw [List.take_succ_eq_append_getElem h, List.getD, List.getElem?_eq_getElem h]
  rfl

set_option maxHeartbeats 1600000 in
theorem has_any (A : Option Addr) (l : List Int) (c : Nat) (x : Int) (w : World) (hl : l.length ≤ 1000000) (hr : Holds w w.heap.size .i64 A l) :
    Calls Try.prog 34 #[.slice A l.length c, .int .i64 x] w fun e w' => e = .returned (.bool (decide (x ∈ l))) ∧ w = w' := by
  obtain ⟨bv, hbv⟩ : ∃ bv, decide (x ∈ l) = bv := ⟨_, rfl⟩
  rw [hbv]
  have HBV := Lib.hid hbv
  clear hbv
  go_enter Try.func34, Try.ntmps34
  go_wp2_with fail
  go_loop [8] (fun v => ∃ k : Nat, k ≤ l.length ∧ v = .int .i64 k ∧ x ∉ l.take k) (fun v => l.length - (intOf v).toNat)
  case atStart => exact ⟨0, Nat.zero_le _, rfl, by simp⟩
  case round =>
    obtain ⟨k, hk, rfl, hn⟩ := hrel
    by_cases hlt : k < l.length
    · have d0 : decide (k < l.length) = true := decide_eq_true hlt
      obtain ⟨b, off, rfl, -, hc⟩ := hr (by omega)
      have c1 := hc k hlt
      have hm := getD_mem hlt
      have hnx := take_all_next hlt
      generalize l.getD k 0 = z at *
      have i1 : (k : Int) < (l.length : Int) := by omega
      have HNX := Lib.hid hnx
      have HN := Lib.hid hn
      have HM := Lib.hid hm
      clear hc hnx hn hm
      by_cases hz : z = x
      · subst hz
        have e1 : (z == z) = true := by simp
        obtain rfl : bv = true := by rw [← HBV.out]; exact decide_eq_true HM.out
        go_wp2_with fail
        go_ret
        exact ⟨rfl, rfl⟩
      · have e1 : (z == x) = false := by simpa using hz
        go_wp2_with fail
        go_round
        case rel => exact ⟨k + 1, by omega, by go_num, by rw [HNX.out]; simp; exact ⟨HN.out, fun h => hz h.symm⟩⟩
        case measure => simp [intOf]; omega
    · have d0 : decide (k < l.length) = false := decide_eq_false hlt
      rw [List.take_of_length_le (by omega)] at hn
      obtain rfl : bv = false := by rw [← HBV.out]; exact decide_eq_false hn
      clear hn
      go_wp2_with fail
      go_ret
      exact ⟨rfl, rfl⟩

def SameTo (a b : List Int) (k : Nat) : Prop := a.take k = b.take k
theorem sameTo_next {a b : List Int} {k : Nat} (ha : k < a.length) (hb : k < b.length) (h : SameTo a b k) : SameTo a b (k + 1) ↔ a.getD k 0 = b.getD k 0 := by
  unfold SameTo at *
  rw [take_all_next ha, take_all_next hb, h]
  simp
set_option maxHeartbeats 3200000 in
theorem same_any (A1 A2 : Option Addr) (a b : List Int) (c1 c2 : Nat) (w : World) (hl : a.length ≤ 1000000) (hl2 : b.length ≤ 1000000) (h1 : Holds w w.heap.size .i64 A1 a) (h2 : Holds w w.heap.size .i64 A2 b) :
    Calls Try.prog 13 #[.slice A1 a.length c1, .slice A2 b.length c2] w fun e w' => e = .returned (.bool (decide (a = b))) ∧ ∃ n, w' = w.drewN n := by
  obtain ⟨bv, hbv⟩ : ∃ bv, decide (a = b) = bv := ⟨_, rfl⟩
  rw [hbv]
  have HBV := Lib.hid hbv
  clear hbv
  by_cases hlen : a.length = b.length
  case neg =>
    obtain rfl : bv = false := by rw [← HBV.out]; exact decide_eq_false (fun h => hlen (by rw [h]))
    have d0 : ((a.length : Int) != (b.length : Int)) = true := by
      simp
      omega
    clear h1 h2 HBV
    go_enter Try.func13, Try.ntmps13
    go_wp2_with fail
    go_ret
    exact ⟨rfl, 0, rfl⟩
  case pos =>
    have HLEN := Lib.hid hlen
    obtain ⟨n, hn⟩ : ∃ n, a.length = n := ⟨_, rfl⟩
    have hn2 : b.length = n := by omega
    rw [hn, hn2]
    have HA := Lib.hid hn
    have HB := Lib.hid hn2
    have hnn : ((n : Int) != (n : Int)) = false := by simp
    have hl3 : n ≤ 1000000 := by omega
    clear hlen hn hn2 hl hl2
    go_enter Try.func13, Try.ntmps13
    go_wp2_with fail
    go_loopw [13] (fun v wr => ∃ k d : Nat, k ≤ n ∧ v = .int .i64 k ∧ SameTo a b k ∧ wr = w.drewN d) (fun v _ => n - (intOf v).toNat)
    case atStart => exact ⟨0, 0, Nat.zero_le _, rfl, rfl, rfl⟩
    case round =>
      obtain ⟨k, d, hk, rfl, hs, hwr⟩ := hrel
      have hcw : ∀ p, wr.cell? p = w.cell? p := fun p => by rw [hwr]; rfl
      have HWR := Lib.hid hwr
      have HS := Lib.hid hs
      clear hwr hs
      by_cases hlt : k < n
      · have d0 : decide (k < n) = true := decide_eq_true hlt
        have hka : k < a.length := by rw [HA.out]; exact hlt
        have hkb : k < b.length := by rw [HB.out]; exact hlt
        obtain ⟨b1, o1, rfl, -, hc1⟩ := h1 (by omega)
        obtain ⟨b2, o2, rfl, -, hc2⟩ := h2 (by omega)
        have q1 := (hcw _).trans (hc1 k hka)
        have q2 := (hcw _).trans (hc2 k hkb)
        have HNX := Lib.hid (sameTo_next hka hkb HS.out)
        have i1 : (k : Int) < (n : Int) := by omega
        have HEQ : Hid (a = b → a.getD k 0 = b.getD k 0) := Lib.hid (fun h => by rw [h])
        generalize a.getD k 0 = x at *
        generalize b.getD k 0 = y at *
        clear hc1 hc2 hcw hka hkb h1 h2
        by_cases hxy : x = y
        · subst hxy
          have e1 : (x != x) = false := by simp
          go_wp2_with fail
          go_quiet (fail)
          go_wp2_with fail
          go_roundw
          case rel => exact ⟨k + 1, d + nq, by omega, by go_num, HNX.out.2 (by first | rfl | trivial), by rw [HWR.out, World.drewN_drewN]⟩
          case measure => simp [intOf]; omega
        · have e1 : (x != y) = true := by simpa using hxy
          obtain rfl : bv = false := by rw [← HBV.out]; exact decide_eq_false (fun h => hxy (HEQ.out h))
          go_wp2_with fail
          go_quiet (fail)
          go_wp2_with fail
          go_ret
          exact ⟨rfl, d + nq, by rw [HWR.out, World.drewN_drewN]⟩
      · have d0 : decide (k < n) = false := decide_eq_false hlt
        obtain rfl : bv = true := by
          rw [← HBV.out]
          refine decide_eq_true ?_
          have h := HS.out
          unfold SameTo at h
          rwa [List.take_of_length_le (by rw [HA.out]; omega), List.take_of_length_le (by rw [HB.out]; omega)] at h
        clear hcw
        go_wp2_with fail
        go_ret
        exact ⟨rfl, d, HWR.out⟩
end Go.Proofs.Ytojmcjkeniepcaa.Gr
