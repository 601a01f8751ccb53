/-
  Layer 30, a text's lines, one by one, as the program goes through them: a contract. Conditions: as each theorem names.
-/
import Derived.Test.YtngeemfcmoahoaaTvP
import Derived.Test.YtngeemfcmoahoaaTvE
import Derived.RangeFuncNested
import Derived.RangeFuncBound
import Derived.RangeFuncCalls
import Derived.RangeFuncLeaves
import Derived.Shelf.Abstract
import Derived.Shelf.RegionOpen
import Derived.WalkKit
import Derived.OwnWalkIn
import Derived.TacticsInMore
import Derived.LoopNIn
import Derived.LoopIn
namespace Go.Proofs.Ytngeemfcmoahoaa.Tv
open Go.ChangeShapes Go.WideShapes Go.ChangeAt Go.RowKit Go.Shelf Go.Proofs.Ytngeemfcmoahoaa.Kit Go.Proofs.Ytngeemfcmoahoaa.Tx Go.Proofs.Ytngeemfcmoahoaa.Ty
attribute [local go_sem] Oper.semAt_some

/-- How much of the text is left. -/
def leftT (w : World) (g : Nat) : Nat := match w.cell? ⟨g, 0, none⟩ with
  | some (.string r) => r.size
  | _ => 0
theorem leftT_of {w : World} {g : Nat} {r : ByteArray} (h : w.cell? ⟨g, 0, none⟩ = some (.string r)) : leftT w g = r.size := by unfold leftT; rw [h]
theorem line_cut {r : ByteArray} {o : Nat} (h : Lib.indexByte r.data.toList 10 = o) : linesL (numsOf r) = (numsOf (r.extract 0 o), true) :: linesL (numsOf (r.extract (o + 1) r.size)) := by
  obtain ⟨_, h2, h3⟩ := cut_at h
  conv => lhs; rw [h2]
  exact linesL_cut _ _ h3
theorem line_last {r : ByteArray} (h0 : numsOf r ≠ []) (h : Lib.indexByte r.data.toList 10 = -1) : linesL (numsOf r) = [(numsOf r, false)] := linesL_end _ h0 (cut_none h)
theorem index_cases (l : List UInt8) (c : UInt8) : (∃ o : Nat, Lib.indexByte l c = o) ∨ Lib.indexByte l c = -1 := by
  have := Lib.indexByte_ge l c
  rcases Int.lt_or_le (Lib.indexByte l c) 0 with h | h
  · exact .inr (by omega)
  · exact .inl ⟨(Lib.indexByte l c).toNat, by omega⟩
/-- The next line. -/
theorem line_next (r : ByteArray) (h0 : r.size ≠ 0) (hs : r.size ≤ 1000000) : ∃ (c q : ByteArray) (b : Bool), q.size < r.size ∧ linesL (numsOf r) = (numsOf c, b) :: linesL (numsOf q) ∧
    ∀ W, Calls Try.prog 28 #[.string r, .string ⟨#[10]⟩] W fun e w' => e = .returned (.tuple #[.string c, .string q, .bool b]) ∧ ∃ n, w' = W.drewN n := by
  rcases index_cases r.data.toList 10 with ⟨o, h⟩ | h
  · obtain ⟨ho, _, _⟩ := cut_at h
    have hq : (r.extract (o + 1) r.size).size = r.size - (o + 1) := by rw [ByteArray.size_extract]; omega
    exact ⟨_, _, _, by omega, line_cut h, fun W => cut_yes r 10 W o hs h⟩
  · have hne : numsOf r ≠ [] := by intro he; have := numsOf_length r; rw [he] at this; simp at this; omega
    refine ⟨r, ⟨#[]⟩, false, (show 0 < r.size by omega), ?_, fun W => (cut_no r 10 W h).mono fun e w' h => ⟨h.1, 0, h.2⟩⟩
    rw [line_last hne h]
    rfl

set_option maxRecDepth 100000 in
set_option maxHeartbeats 6400000 in
theorem lines1_in (n : Nat) (hn : 1 ≤ n) (l Bx : Nat) (s : ByteArray) (J Jx : List (List Int × Bool) → World → Prop)
    (hJ : ∀ pre W v, J pre W → J pre (W.setCell ⟨Bx, 0, none⟩ v)) (hJd : ∀ pre W k, J pre W → J pre (World.drewN W k))
    (hY : ∀ pre x W, J pre W → (pre ++ [x]) <+: linesL (numsOf s) → YieldAt Fence.wide (n - 1) Try.prog l #[.int .i64 ((pre.length : Int) + 1), .agg #[.string (strOfNums x.1), .bool x.2]] W fun e W' =>
      (e = .returned (.bool true) ∧ J (pre ++ [x]) W' ∧ W'.heap[Bx]? = W.heap[Bx]?) ∨ (e = .returned (.bool false) ∧ Jx (pre ++ [x]) W'))
    (W : World) (hB : Block W Bx 9 #[.string s]) (h0 : J [] W) (hs : s.size ≤ 1000000) :
    CallsIn Fence.wide n Try.prog 27 #[.func (.yield l) #[] #[], .pointer (some ⟨Bx, 0, none⟩)] W fun e W' => (∃ v, e = .returned v) ∧
      (J (linesL (numsOf s)) W' ∨ ∃ pre, Jx pre W') := by
  have h1 : 1 ≤ n - 1 + 1 := by omega
  refine callsIn_of_wp Try.func27 rfl trivial ?_ rfl
  simp only [Try.ntmps27, List.size_toArray, List.length_cons, List.length_nil, Nat.reduceAdd, Nat.reduceSub, Array.replicate_succ, Array.replicate_zero, List.push_toArray, List.append_toArray, List.nil_append, List.cons_append]
  have HB := Lib.hid hB
  have HJ0 := Lib.hid h0
  have HJ := Lib.hid hJ
  have HJD := Lib.hid hJd
  have HY := Lib.hid hY
  clear hB h0 hJ hJd hY
  gi_wp2
  gi_loopw [3] (fun p wr => ∃ (pre : List (List Int × Bool)) (r : ByteArray), p = .int .i64 ((pre.length : Int) + 1) ∧ Hid (linesL (numsOf s) = pre ++ linesL (numsOf r)) ∧ pre.length + r.size ≤ s.size ∧ Hid (Block wr Bx 9 #[.string r]) ∧ Hid (J pre wr))
    (fun _ wr => leftT wr Bx)
  case atStart =>
    exact ⟨[], s, rfl, Lib.hid (by simp), by simp, HB, HJ0⟩
  case round =>
    obtain ⟨pre, r, rfl, hx, hl, hb, hJs⟩ := hrel
    have c0 := (hb.out.cell 0).trans (show _ = some (Value.string r) from rfl)
    have z0 := hb.out.frozen 0
    by_cases hr : r.size = 0
    · obtain rfl := str_nil hr
      have s0 : ((⟨#[]⟩ : ByteArray).toList == []) = true := by rw [ByteArray.toList_eq]; rfl
      have HE := Lib.hid (show linesL (numsOf s) = pre by rw [hx.out, show numsOf ⟨#[]⟩ = [] from rfl]; simp [linesL])
      gi_wp2
      go_end0
      exact ⟨⟨_, rfl⟩, .inl (by rw [HE.out]; exact hJs.out)⟩
    · obtain ⟨e0, e1⟩ := str_ne hr
      obtain ⟨c, q, b, hq, hln, hcut⟩ := line_next r hr (by omega)
      have GC := Lib.hid hcut
      have HX := Lib.hid (show linesL (numsOf s) = (pre ++ [(numsOf c, b)]) ++ linesL (numsOf q) by rw [hx.out, hln]; simp)
      have hw1 : IntKind.i64.wrap ((pre.length : Int) + 1 + 1) = (((pre ++ [(numsOf c, b)]).length : Nat) : Int) + 1 := by rw [IntKind.wrap_i64]; simp; omega
      have HM := Lib.hid hq
      clear hcut hln hx hq
      gi_wp2_with (refine ⟨trivial, ?_⟩; gi_at_call 28; refine (callsIn_wide.2 (GC.out _)).mono ?_; rintro e w2 ⟨rfl, k, rfl⟩; have c2 : (wr.drewN k).cell? ⟨Bx, 0, none⟩ = some (.string r) := c0; have z2 : (wr.drewN k).frozen? ⟨Bx, 0, none⟩ = false := z0; obtain ⟨fn, tmps, assign, body, hy, hR⟩ := HY.out pre (numsOf c, b) ((wr.drewN k).setCell ⟨Bx, 0, none⟩ (.string q)) (HJ.out _ _ _ (HJD.out _ _ k hJs.out)) ⟨_, HX.out.symm⟩; simp only [str_nums] at hy)
      refine hR.mono ?_
      have HBQ := Lib.hid ((hb.out.drewN k).set_ 0 (.string q))
      rintro e W3 (⟨rfl, hJ3, hk3⟩ | ⟨rfl, hJx3⟩)
      · have HB3 := Lib.hid (show Block W3 Bx 9 #[.string q] from hk3.trans HBQ.out)
        have HJ3 := Lib.hid hJ3
        have hl3 := leftT_of ((HB3.out.cell 0).trans (show _ = some (Value.string q) from rfl))
        have hl4 := leftT_of c0
        have HL := Lib.hid (And.intro hl3 hl4)
        clear hJ3 hk3 hl3 hl4
        gi_wp2
        go_roundw
        case rel => exact ⟨pre ++ [(numsOf c, b)], q, by simp, HX, by have := HM.out; simp; omega, HB3, HJ3⟩
        case measure => rw [HL.out.1, HL.out.2]; exact HM.out
      · have HJX := Lib.hid hJx3
        clear hJx3
        gi_wp2
        refine bodyPost_ret (results_none rfl _ _ _) rfl ?_
        exact ⟨⟨_, rfl⟩, .inr ⟨_, HJX.out⟩⟩
end Go.Proofs.Ytngeemfcmoahoaa.Tv
