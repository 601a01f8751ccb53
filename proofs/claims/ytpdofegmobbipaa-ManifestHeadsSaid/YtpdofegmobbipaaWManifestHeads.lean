/-
  ManifestHeads: the walk: the header of any manifest and signature, or the error, is the document's.
-/
import Derived.Test.YtpdofegmobbipaaMnU
import Derived.Test.YtpdofegmobbipaaStr
namespace Go.Proofs.Ytpdofegmobbipaa.ManifestHeads
open Go.ChangeShapes Go.WideShapes Go.ChangeAt Go.RowKit Go.Proofs.Ytpdofegmobbipaa.Kit Go.Proofs.Ytpdofegmobbipaa.Mn

set_option maxRecDepth 100000 in
set_option maxHeartbeats 3200000 in
theorem walk (m : Man) (A1 : Option Addr) (sig : List Int) (c1 : Nat) (w : World) (ho : m.Ok) (hr : Holds w w.heap.size .i64 m.A m.ord) (l1 : sig.length ≤ c1) (m1 : c1 ≤ maxLen) (_ : Octets sig) (r1 : Holds w w.heap.size .u8 A1 sig) :
    Calls Try.prog 6 #[.agg m.cells.toArray, .slice A1 sig.length c1] w fun e w' => e = .returned (.bool true) ∧ Below w.heap.size w w' := by
  have B1 := below_last w (.cells m.cells.toArray 27)
  have M1 : ManAt (w.alloc (.cells m.cells.toArray 27)) w.heap.size m := Block.new w _ _
  have R1 := block_range (L := m.cells) M1
  have HL := Lib.hid (m.cells_length ho)
  have hord := ho.ordl
  unfold maxLen at hord m1
  have f5 := M1.order ho
  have g1 := M1.lt
  have GA := Lib.hid (fun W => awake22_any W)
  have GH := Lib.hid (fun W hB h5 hs => head_any m ho A1 sig c1 W ((hr.below hB).more (Below.size (B := w.heap.size) hB)) h5 hs ((r1.below hB).more (Below.size (B := w.heap.size) hB)))
  have GR := Lib.hid (fun W hB h5 hs => rhead_any m ho A1 sig c1 W ((hr.below hB).more (Below.size (B := w.heap.size) hB)) h5 hs ((r1.below hB).more (Below.size (B := w.heap.size) hB)))
  obtain ⟨L, hL⟩ : ∃ L, m.cells = L := ⟨_, rfl⟩
  rw [hL] at B1 R1 GH GR HL f5 g1 ⊢
  clear M1 hL ho hr r1
  generalize m.headV sig = V at *
  generalize m.headE sig = E at *
  generalize m.A = A at *
  generalize m.cap = cap at *
  generalize m.ord = ord at *
  generalize hW : w.alloc (.cells L.toArray 27) = w1 at *
  by_cases h6 : 60 < ord.length
  · have d6 : decide ((60 : Int) < (ord.length : Int)) = true := decide_eq_true (by omega)
    go_enter Try.func6, Try.ntmps6
    go_wp2_with (go_at_call 8; (with_reducible refine (GA.out _).mono ?_); rintro e w2 ⟨rfl, hb⟩)
    go_ret
    exact ⟨rfl, B1.trans (hb.mono B1.size)⟩
  have d6 : decide ((60 : Int) < (ord.length : Int)) = false := decide_eq_false (by omega)
  by_cases h7 : 140000 < sig.length
  · have d7 : decide ((140000 : Int) < (sig.length : Int)) = true := decide_eq_true (by omega)
    go_enter Try.func6, Try.ntmps6
    go_wp2_with (go_at_call 8; (with_reducible refine (GA.out _).mono ?_); rintro e w2 ⟨rfl, hb⟩)
    go_ret
    exact ⟨rfl, B1.trans (hb.mono B1.size)⟩
  have d7 : decide ((140000 : Int) < (sig.length : Int)) = false := decide_eq_false (by omega)
  go_enter Try.func6, Try.ntmps6
  go_wp2_with (first
    | (have _t := R1; rw [hW]; refine wpList_load_midV (by rfl) _ _ rfl _ 0 rfl L R1 Try.underlying27 rfl (by rw [HL.out]; kernel_rfl) ?_)
    | (have _t := R1; refine wpList_load_midV (by rfl) _ _ rfl _ 0 rfl L R1 Try.underlying27 rfl (by rw [HL.out]; kernel_rfl) ?_)
    | (have _t := R2; refine wpList_load_midV (by rfl) _ _ rfl _ 0 rfl L R2 Try.underlying27 rfl (by rw [HL.out]; kernel_rfl) ?_)
    | (go_at_call 19; (with_reducible refine (GH.out _ B1 (by omega) (by omega)).mono ?_); rintro e w2 ⟨A2, c2, rfl, hl2, hm2, hr2, hb2⟩; have R2 := range_below R1 hb2 g1; have B2 := B1.trans (hb2.mono B1.size))
    | (go_at_call 20; (with_reducible refine (GR.out _ B2 (by omega) (by omega)).mono ?_); rintro e w3 ⟨A3, c3, rfl, hl3, hm3, hr3, hb3⟩; have B3 := B2.trans (hb3.mono B2.size); have hr2' := hr2.below hb3; have f1 := conv_bytes Try.underlying29 Try.underlying5 Try.underlying9 w3 A2 V c2 _ hr2'; have f2 := conv_bytes Try.underlying29 Try.underlying5 Try.underlying9 w3 A3 V c3 _ hr3; generalize strOfNums V = s at f1 f2)
    | (go_at_call 8; (with_reducible refine (GA.out _).mono ?_); rintro e w6 ⟨rfl, hb6⟩))
  go_ret
  exact ⟨rfl, B3.trans (hb6.mono B3.size)⟩
end Go.Proofs.Ytpdofegmobbipaa.ManifestHeads
