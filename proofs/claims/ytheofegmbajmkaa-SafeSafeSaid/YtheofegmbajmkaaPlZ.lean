/-
  Layer 16, plan: the document's measure of a plan; the example; images read as strings. Conditions: as each theorem names.
-/
import Derived.Test.YtheofegmbajmkaaPlY
import Derived.Lib.SlBytesConst
namespace Go.Proofs.Ytheofegmbajmkaa.Pl
open Go.ChangeShapes Go.WideShapes Go.ChangeAt Go.RowKit Go.Proofs.Ytheofegmbajmkaa.Kit

theorem conv_any (w : World) (A : Option Addr) (xs : List Int) (c B : Nat) (hr : Holds w B .u8 A xs) :
    (convert 30 9 (.slice A xs.length c)).run Try.prog w = .ok (.string (strOfNums xs)) w := conv_bytes Try.underlying30 Try.underlying5 Try.underlying9 w A xs c B hr

/-- More steps, or more bytes in one, than are gone through. -/
def greatB (ss : List Stp) : Bool := decide (60 < ss.length) || ss.any fun s => decide (5000 < s.zs.length)

theorem great_no {ss : List Stp} (h : greatB ss = false) : ss.length ≤ 60 ∧ ∀ s ∈ ss, s.zs.length ≤ 5000 := by
  unfold greatB at h
  rw [Bool.or_eq_false_iff] at h
  refine ⟨by have := of_decide_eq_false h.1; omega, fun s hs => ?_⟩
  have := of_decide_eq_false ((List.any_eq_false.1 h.2 s hs |> Bool.eq_false_iff.2))
  omega

set_option maxRecDepth 100000 in
set_option maxHeartbeats 1600000 in
theorem great_any (A : Option Addr) (ss : List Stp) (c : Nat) (w : World) (hc : ss.length ≤ c) (hm : c ≤ maxLen) (hr : HoldsS w A ss) :
    Calls Try.prog 14 #[.slice A ss.length c] w (Gives (.bool (greatB ss)) w) := by
  unfold maxLen at hm
  by_cases h60 : (60 : Int) < ss.length
  · have hg : greatB ss = true := by unfold greatB; rw [decide_eq_true (by omega)]; rfl
    rw [hg]
    have hd : decide ((60 : Int) < (ss.length : Int)) = true := decide_eq_true h60
    go_enter Try.func14, Try.ntmps14
    go_wp2_with fail
    go_ret
    exact ⟨rfl, Below.refl _ _⟩
  · have hd : decide ((60 : Int) < (ss.length : Int)) = false := decide_eq_false h60
    go_enter Try.func14, Try.ntmps14
    go_wp2_with fail
    go_loopw [9] (fun s wr => ∃ i : Nat, i ≤ ss.length ∧ s = .int .i64 i ∧ ((ss.take i).any fun s => decide (5000 < s.zs.length)) = false ∧ Below w.heap.size w wr) (fun s _ => ss.length - (intOf s).toNat)
    case atStart => exact ⟨0, Nat.zero_le _, rfl, by simp, Below.refl _ _⟩
    case round =>
      obtain ⟨i, hi, rfl, hpre, hb⟩ := hrel
      by_cases hlt : i < ss.length
      · obtain ⟨b, off, rfl, hbl, c0, c1, c2, c3, k0, k1, k2, h1, h2, hoz, hrz⟩ := stepAt (steps_below hr hb) hlt
        have hnext := take_next hlt
        have hmem := List.getElem_mem hlt
        generalize ss[i] = s at *
        by_cases hz : (5000 : Int) < s.zs.length
        · have hg : greatB ss = true := by
            unfold greatB
            rw [show (ss.any fun s => decide (5000 < s.zs.length)) = true from List.any_eq_true.2 ⟨s, hmem, decide_eq_true (by omega)⟩, Bool.or_true]
          have hd2 : decide ((5000 : Int) < (s.zs.length : Int)) = true := decide_eq_true hz
          have HG := Lib.hid hg
          clear hg hnext hmem hpre
          go_wp2_with fail
          go_ret
          exact ⟨by rw [HG.out]; rfl, hb⟩
        · have hd2 : decide ((5000 : Int) < (s.zs.length : Int)) = false := decide_eq_false hz
          have hpre2 : ((ss.take (i + 1)).any fun s => decide (5000 < s.zs.length)) = false := by
            rw [hnext, List.any_append, hpre]
            simp
            omega
          have HP := Lib.hid hpre2
          clear hpre2 hnext hmem hpre
          go_wp2_with fail
          go_roundw
          case rel => exact ⟨i + 1, by omega, by go_num, HP.out, hb⟩
          case measure => simp [intOf] <;> omega
      · obtain rfl : i = ss.length := by omega
        rw [List.take_of_length_le (Nat.le_refl _)] at hpre
        have hg : greatB ss = false := by unfold greatB; rw [hpre, decide_eq_false (by omega)]; rfl
        have HG := Lib.hid hg
        clear hg hpre
        go_wp2_with fail
        go_ret
        exact ⟨by rw [HG.out]; rfl, hb⟩

/-- A slice of one step. -/
theorem one_step {W : World} {g : Nat} {a n x : Int} {A : Option Addr} {zs : List Int} {c : Nat} (hb : Block W g 41 #[.int .u8 a, .int .i64 n, .int .i64 x, .slice A zs.length c])
    (h0 : (Lit.int .u8 a).wf = true) (h1 : (Lit.int .i64 n).wf = true) (h2 : (Lit.int .i64 x).wf = true) (hl : zs.length ≤ c) (hm : c ≤ maxLen) (ho : Octets zs) (hr : Holds W W.heap.size .u8 A zs) : HoldsS W (some ⟨g, 0, none⟩) [⟨a, n, x, A, c, zs⟩] := by
  intro _
  refine ⟨g, 0, rfl, hb.lt, fun i r hi => ?_⟩
  match i, hi with
  | 0, hi =>
    injection hi with hi
    subst hi
    refine ⟨_, ⟨rfl, h0, h1, h2, hl, hm, ho, hr⟩, rfl, fun j u hj => ?_⟩
    have := hb.cell j
    match j, hj with
    | 0, hj | 1, hj | 2, hj | 3, hj => rw [← hj]; exact this

theorem holds_block {W : World} {g : Nat} {t : TypeId} {zs : List Int} (hb : Block W g t (zs.map (Value.int .u8)).toArray) : Holds W W.heap.size .u8 (some ⟨g, 0, none⟩) zs := by
  intro _
  refine ⟨g, 0, rfl, hb.lt, fun j hj => ?_⟩
  have := hb.cell j
  simpa [List.getD, List.getElem?_eq_getElem hj] using this

theorem holds_marked {w : World} {t : TypeId} {zs : List Int} (m : Nat × Nat) (o : Obj) : Holds ((w.alloc (.cells (zs.map (Value.int .u8)).toArray t m)).alloc o) ((w.alloc (.cells (zs.map (Value.int .u8)).toArray t m)).alloc o).heap.size .u8 (some ⟨w.heap.size, 0, none⟩) zs := by
  intro _
  refine ⟨w.heap.size, 0, rfl, by simp; omega, fun j hj => Lib.cell?_alloc_marked o ?_⟩
  have := World.cell?_alloc_mark w (zs.map (Value.int .u8)).toArray t m j
  simpa [List.getD, List.getElem?_eq_getElem hj] using this

end Go.Proofs.Ytheofegmbajmkaa.Pl
