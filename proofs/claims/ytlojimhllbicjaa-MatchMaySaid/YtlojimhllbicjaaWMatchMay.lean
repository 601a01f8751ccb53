/-
  MatchMay: the walk: whether any pieces are right, and how many bytes of any piece are the same, is the document's.
-/
import Derived.Test.YtlojimhllbicjaaMtC
import Derived.Lib.QuietBelow
namespace Go.Proofs.Ytlojimhllbicjaa.MatchMay
open Go.ChangeShapes Go.WideShapes Go.ChangeAt Go.RowKit Go.Proofs.Ytlojimhllbicjaa.Kit Go.Proofs.Ytlojimhllbicjaa.Mt

set_option maxRecDepth 100000 in
set_option maxHeartbeats 3200000 in
theorem walk0 (A : Option Addr) (ps : List Pc) (c : Nat) (A1 : Option Addr) (xs : List Int) (c1 : Nat) (A2 : Option Addr) (ys : List Int) (c2 : Nat) (n o l : Int) (w : World)
    (hl : ps.length ≤ c ∧ c ≤ maxLen) (hok : ∀ p ∈ ps, PcOk p) (hr : HoldsP w w.heap.size A ps) (l1 : xs.length ≤ c1 ∧ c1 ≤ maxLen) (r1 : Holds w w.heap.size .u8 A1 xs) (l2 : ys.length ≤ c2 ∧ c2 ≤ maxLen) (r2 : Holds w w.heap.size .u8 A2 ys) (hp : PcOk ⟨n, o, l⟩) :
    Calls Try.prog 3 #[.slice A ps.length c, .slice A1 xs.length c1, .slice A2 ys.length c2, .agg #[.int .i64 n, .int .i64 o, .int .i64 l]] w fun e w' => e = .returned (.bool true) ∧ Below w.heap.size w w' := by
  unfold maxLen at hl l1 l2
  have B1 := below_last w (.cells #[.int .i64 n, .int .i64 o, .int .i64 l] 25)
  have blk := Block.new w 25 #[.int .i64 n, .int .i64 o, .int .i64 l]
  have q0 : (w.alloc (.cells #[.int .i64 n, .int .i64 o, .int .i64 l] 25)).cell? ⟨w.heap.size, 0, none⟩ = some (.int .i64 n) := blk.cell 0
  have q1 : (w.alloc (.cells #[.int .i64 n, .int .i64 o, .int .i64 l] 25)).cell? ⟨w.heap.size, 1, none⟩ = some (.int .i64 o) := blk.cell 1
  have q2 : (w.alloc (.cells #[.int .i64 n, .int .i64 o, .int .i64 l] 25)).cell? ⟨w.heap.size, 2, none⟩ = some (.int .i64 l) := blk.cell 2
  have GA := Lib.hid (fun W => awake_any W)
  have P1 := hr.below B1
  have P2 := r1.below B1
  have P3 := r2.below B1
  clear blk hr r1 r2
  generalize hW : w.alloc (.cells #[.int .i64 n, .int .i64 o, .int .i64 l] 25) = w1 at *
  by_cases h6 : 60 < ps.length
  · have d1 : decide ((60 : Int) < (ps.length : Int)) = true := decide_eq_true (by omega)
    go_enter Try.func3, Try.ntmps3
    go_wp2_with (go_at_call 7; (with_reducible refine (GA.out _).mono ?_); rintro e w2 ⟨rfl, hb⟩)
    go_ret
    exact ⟨rfl, B1.trans (hb.mono B1.size)⟩
  have d1 : decide ((60 : Int) < (ps.length : Int)) = false := decide_eq_false (by omega)
  by_cases h7 : 1000 < xs.length
  · have d2 : decide ((1000 : Int) < (xs.length : Int)) = true := decide_eq_true (by omega)
    go_enter Try.func3, Try.ntmps3
    go_wp2_with (go_at_call 7; (with_reducible refine (GA.out _).mono ?_); rintro e w2 ⟨rfl, hb⟩)
    go_ret
    exact ⟨rfl, B1.trans (hb.mono B1.size)⟩
  have d2 : decide ((1000 : Int) < (xs.length : Int)) = false := decide_eq_false (by omega)
  by_cases h8 : 1000 < ys.length
  · have d3 : decide ((1000 : Int) < (ys.length : Int)) = true := decide_eq_true (by omega)
    go_enter Try.func3, Try.ntmps3
    go_wp2_with (go_at_call 7; (with_reducible refine (GA.out _).mono ?_); rintro e w2 ⟨rfl, hb⟩)
    go_ret
    exact ⟨rfl, B1.trans (hb.mono B1.size)⟩
  have d3 : decide ((1000 : Int) < (ys.length : Int)) = false := decide_eq_false (by omega)
  have gb := fun d os => B1.trans ((below_regrown w1 d os).mono B1.size)
  have g1 := fun d os => may_any A ps c xs.length ys.length _ (by omega) hok (by omega) (by omega) ((P1.below ((below_regrown w1 d os).mono B1.size)).more (gb d os).size)
  have g2 := fun d os => rmay_any A ps c xs.length ys.length _ (by omega) hok (by omega) (by omega) ((P1.below ((below_regrown w1 d os).mono B1.size)).more (gb d os).size)
  have g3 := fun d os => same_any A1 xs c1 A2 ys c2 n o l _ hp (by omega) (by omega) ((P2.below ((below_regrown w1 d os).mono B1.size)).more (gb d os).size) ((P3.below ((below_regrown w1 d os).mono B1.size)).more (gb d os).size)
  have g4 := fun d os => rsame_any A1 xs c1 A2 ys c2 n o l _ hp (by omega) (by omega) ((P2.below ((below_regrown w1 d os).mono B1.size)).more (gb d os).size) ((P3.below ((below_regrown w1 d os).mono B1.size)).more (gb d os).size)
  have G1 := Lib.hid g1
  have G2 := Lib.hid g2
  have G3 := Lib.hid g3
  have G4 := Lib.hid g4
  clear g1 g2 g3 g4 gb hok hp P1 P2 P3
  generalize mayL xs.length ys.length 0 ps = D at *
  generalize sameL xs ys ⟨n, o, l⟩ = M at *
  go_enter Try.func3, Try.ntmps3
  go_wp2_with fail
  have k0 := cell_regrown q0
  have k1 := cell_regrown q1
  have k2 := cell_regrown q2
  refine wp_region_quiet_below (by kernel_rfl) (by kernel_rfl) ?_
  repeat (quiet_step (first | (with_reducible exact Calls.regrown_of (G1.out _ _)) | (with_reducible exact Calls.regrown_of (G2.out _ _)) | (with_reducible exact Calls.regrown_of (G3.out _ _)) | (with_reducible exact Calls.regrown_of (G4.out _ _)) | (with_reducible exact Calls.regrown_of (GA.out _))))
  refine wpQuiet_nil ?_
  intro _ hw'
  obtain ⟨⟨dq, osq⟩, hw''⟩ := hw'
  have hbq := below_regrown w1 dq osq
  subst hw''
  go_wp2_with fail
  go_ret
  exact ⟨rfl, B1.trans (hbq.mono B1.size)⟩

theorem walk (A : Option Addr) (rows : List (List Int)) (c : Nat) (A1 : Option Addr) (xs : List Int) (c1 : Nat) (A2 : Option Addr) (ys : List Int) (c2 : Nat) (n o l : Int) (w : World)
    (hl : rows.length ≤ c) (hm : c ≤ maxLen) (hr : HoldsR w w.heap.size [.i64, .i64, .i64] A rows) (hw : ∀ (i : Nat) (row : List Int), rows[i]? = some row → row.length = [IntKind.i64, .i64, .i64].length ∧ ∀ (j : Nat) (k : IntKind), [IntKind.i64, .i64, .i64][j]? = some k → (Lit.int k (row[j]?.getD 0)).wf = true)
    (l1 : xs.length ≤ c1) (m1 : c1 ≤ maxLen) (_ : Octets xs) (r1 : Holds w w.heap.size .u8 A1 xs) (l2 : ys.length ≤ c2) (m2 : c2 ≤ maxLen) (_ : Octets ys) (r2 : Holds w w.heap.size .u8 A2 ys) (wn : (Lit.int .i64 n).wf = true) (wo : (Lit.int .i64 o).wf = true) (wl : (Lit.int .i64 l).wf = true) :
    Calls Try.prog 3 #[.slice A rows.length c, .slice A1 xs.length c1, .slice A2 ys.length c2, .agg #[.int .i64 n, .int .i64 o, .int .i64 l]] w fun e w' => e = .returned (.bool true) ∧ Below w.heap.size w w' := by
  have := walk0 A (rows.map pcOf) c A1 xs c1 A2 ys c2 n o l w ⟨by rw [List.length_map]; exact hl, hm⟩ (pcOk_of hw) (holdsP_of hr) ⟨l1, m1⟩ r1 ⟨l2, m2⟩ r2 ⟨bounds_i64 wn, bounds_i64 wo, bounds_i64 wl⟩
  rwa [List.length_map] at this
end Go.Proofs.Ytlojimhllbicjaa.MatchMay
