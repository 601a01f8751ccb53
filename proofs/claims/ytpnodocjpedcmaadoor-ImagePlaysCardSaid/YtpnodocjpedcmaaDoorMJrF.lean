/-
  Layer 24, journal: the closure that reads on, the document's get and May: contracts. Conditions: as each theorem names.
-/
import Derived.Test.YtpnodocjpedcmaaDoorMJrC
import Derived.Test.YtpnodocjpedcmaaDoorMGIays2
namespace Go.Proofs.YtpnodocjpedcmaaDoor.Jr
open Go.ChangeShapes Go.WideShapes Go.ChangeAt Go.RowKit Go.Proofs.YtpnodocjpedcmaaDoor.Kit Go.Proofs.YtpnodocjpedcmaaDoor.Oct

/-- A number of m bytes at a place. -/
def numA (xs : List Int) (at_ m : Nat) : Int := val ((xs.drop at_).take m)

set_option maxRecDepth 100000 in
set_option maxHeartbeats 1600000 in
theorem next_any (gb ga : Nat) (A : Option Addr) (xs : List Int) (c at_ m : Nat) (w : World) (hn : xs.length ≤ 1000000) (hl : xs.length ≤ c) (hm : 1 ≤ m ∧ m ≤ 8) (h : at_ + m ≤ xs.length) (ho : Octets xs) (hr : Holds w w.heap.size .u8 A xs)
    (hb : w.cell? ⟨gb, 0, none⟩ = some (.slice A xs.length c)) (ha : w.cell? ⟨ga, 0, none⟩ = some (.int .i64 at_)) (hf : w.frozen? ⟨ga, 0, none⟩ = false) :
    Calls Tryd.prog 78 #[.int .i64 m, .pointer (some ⟨gb, 0, none⟩), .pointer (some ⟨ga, 0, none⟩)] w fun e w' => e = .returned (.int .u64 (numA xs at_ m)) ∧ w' = w.setCell ⟨ga, 0, none⟩ (.int .i64 ((at_ + m : Nat) : Int)) := by
  have G := Lib.hid (get_any A xs c at_ m w.heap.size w hn hl hm h ho hr)
  have hs : Hid ((at_ : Int) + (m : Int) = ((at_ + m : Nat) : Int)) := Lib.hid (by omega)
  have hbd : (at_ : Int) + (m : Int) ≤ 1000000 := by omega
  unfold numA
  generalize val ((xs.drop at_).take m) = V at *
  go_enter Tryd.func78, Tryd.ntmps78
  go_wp2_with (go_at_call 79; (with_reducible refine G.out.mono ?_); rintro e w1 ⟨rfl, rfl⟩)
  go_ret
  exact ⟨rfl, by rw [← hs.out]⟩

set_option maxRecDepth 100000 in
set_option maxHeartbeats 1600000 in
theorem rnext_any (A : Option Addr) (xs : List Int) (c at_ m : Nat) (w : World) (hn : xs.length ≤ 1000000) (hl : xs.length ≤ c) (hm : 1 ≤ m ∧ m ≤ 8) (h : at_ + m ≤ xs.length) (ho : Octets xs) (hr : Holds w w.heap.size .u8 A xs) :
    Calls Tryd.prog 82 #[.slice A xs.length c, .int .i64 at_, .int .i64 m] w fun e w' => e = .returned (.int .u64 (numA xs at_ m)) ∧ w = w' := by
  have G := Lib.hid (rget_any A xs c at_ m w.heap.size w hn hl hm h ho hr)
  unfold numA
  generalize val ((xs.drop at_).take m) = V at *
  go_enter Tryd.func82, Tryd.ntmps82
  go_wp2_with (go_at_call 101; (with_reducible refine G.out.mono ?_); rintro e w1 ⟨rfl, rfl⟩)
  go_ret
  exact ⟨rfl, rfl⟩

theorem may_chain (r : Rec) : r.may = (decide (r.act < 2) && (decide (r.st < 4) && (decide (r.md < 4) && (inB r.len && (inB r.nl && (inB r.dn && (inB r.blk && inB r.asz))))))) := by
  unfold Rec.may
  have e1 : decide (r.act ≤ 1 ∧ r.st ≤ 3 ∧ r.md ≤ 3) = (decide (r.act < 2) && (decide (r.st < 4) && decide (r.md < 4))) := by
    by_cases h1 : r.act < 2 <;> by_cases h2 : r.st < 4 <;> by_cases h3 : r.md < 4 <;> simp [h1, h2, h3] <;> omega
  rw [e1]
  simp [Bool.and_assoc]

set_option maxRecDepth 100000 in
set_option maxHeartbeats 6400000 in
theorem rmay_any (r : Rec) (hr : r.Ok) (w : World) : Calls Tryd.prog 22 #[.agg r.cells.toArray] w fun e w' => e = .returned (.bool r.may) ∧ Below w.heap.size w w' := by
  have B1 := below_last w (.cells r.cells.toArray 50)
  have R1 : RecAt (w.alloc (.cells r.cells.toArray 50)) w.heap.size r := Block.new w _ _
  obtain ⟨f0, f1, f2, f3, f4, f5⟩ := R1.front
  obtain ⟨k0, k1, k2, k3, k4, k5⟩ := R1.back hr.man
  have HM := Lib.hid (may_chain r)
  have G4 := Lib.hid (fun W => rin_any r.len W)
  have G5 := Lib.hid (fun W => rin_any r.nl W)
  have G6 := Lib.hid (fun W => rin_any r.dn W)
  have G7 := Lib.hid (fun W => rin_any r.blk W)
  have G8 := Lib.hid (fun W => rin_any r.asz W)
  obtain ⟨b1, d1⟩ : ∃ b : Bool, decide (r.act < 2) = b := ⟨_, rfl⟩
  obtain ⟨b2, d2⟩ : ∃ b : Bool, decide (r.st < 4) = b := ⟨_, rfl⟩
  obtain ⟨b3, d3⟩ : ∃ b : Bool, decide (r.md < 4) = b := ⟨_, rfl⟩
  rw [d1, d2, d3] at HM
  generalize inB r.len = b4 at *
  generalize inB r.nl = b5 at *
  generalize inB r.dn = b6 at *
  generalize inB r.blk = b7 at *
  generalize inB r.asz = b8 at *
  generalize r.may = res at *
  generalize hlen : r.len = len at *
  generalize hnl : r.nl = nl at *
  generalize hdn : r.dn = dn at *
  generalize hblk : r.blk = blk at *
  generalize hasz : r.asz = asz at *
  generalize hst : r.st = st at *
  generalize hmd : r.md = md at *
  generalize hact : r.act = act at *
  clear hlen hnl hdn hblk hasz hst hmd hact R1 hr f0 f2 k0 k3
  generalize hC : r.cells.toArray = cs at *
  clear hC
  generalize hW : w.alloc (.cells cs 50) = w1 at *
  cases b1 with
  | false =>
    go_enter Tryd.func22, Tryd.ntmps22
    go_wp2_with (first
      | (go_at_call 55; (with_reducible refine (G4.out _).mono ?_); rintro e w2 ⟨rfl, rfl⟩)
      | (go_at_call 55; (with_reducible refine (G5.out _).mono ?_); rintro e w2 ⟨rfl, rfl⟩)
      | (go_at_call 55; (with_reducible refine (G6.out _).mono ?_); rintro e w2 ⟨rfl, rfl⟩)
      | (go_at_call 55; (with_reducible refine (G7.out _).mono ?_); rintro e w2 ⟨rfl, rfl⟩)
      | (go_at_call 55; (with_reducible refine (G8.out _).mono ?_); rintro e w2 ⟨rfl, rfl⟩))
    go_ret
    exact ⟨by rw [HM.out]; rfl, B1⟩
  | true =>
    cases b2 with
    | false =>
      go_enter Tryd.func22, Tryd.ntmps22
      go_wp2_with (first
        | (go_at_call 55; (with_reducible refine (G4.out _).mono ?_); rintro e w2 ⟨rfl, rfl⟩)
        | (go_at_call 55; (with_reducible refine (G5.out _).mono ?_); rintro e w2 ⟨rfl, rfl⟩)
        | (go_at_call 55; (with_reducible refine (G6.out _).mono ?_); rintro e w2 ⟨rfl, rfl⟩)
        | (go_at_call 55; (with_reducible refine (G7.out _).mono ?_); rintro e w2 ⟨rfl, rfl⟩)
        | (go_at_call 55; (with_reducible refine (G8.out _).mono ?_); rintro e w2 ⟨rfl, rfl⟩))
      go_ret
      exact ⟨by rw [HM.out]; rfl, B1⟩
    | true =>
      cases b3 with
      | false =>
        go_enter Tryd.func22, Tryd.ntmps22
        go_wp2_with (first
          | (go_at_call 55; (with_reducible refine (G4.out _).mono ?_); rintro e w2 ⟨rfl, rfl⟩)
          | (go_at_call 55; (with_reducible refine (G5.out _).mono ?_); rintro e w2 ⟨rfl, rfl⟩)
          | (go_at_call 55; (with_reducible refine (G6.out _).mono ?_); rintro e w2 ⟨rfl, rfl⟩)
          | (go_at_call 55; (with_reducible refine (G7.out _).mono ?_); rintro e w2 ⟨rfl, rfl⟩)
          | (go_at_call 55; (with_reducible refine (G8.out _).mono ?_); rintro e w2 ⟨rfl, rfl⟩))
        go_ret
        exact ⟨by rw [HM.out]; rfl, B1⟩
      | true =>
        cases b4 with
        | false =>
          go_enter Tryd.func22, Tryd.ntmps22
          go_wp2_with (first
            | (go_at_call 55; (with_reducible refine (G4.out _).mono ?_); rintro e w2 ⟨rfl, rfl⟩)
            | (go_at_call 55; (with_reducible refine (G5.out _).mono ?_); rintro e w2 ⟨rfl, rfl⟩)
            | (go_at_call 55; (with_reducible refine (G6.out _).mono ?_); rintro e w2 ⟨rfl, rfl⟩)
            | (go_at_call 55; (with_reducible refine (G7.out _).mono ?_); rintro e w2 ⟨rfl, rfl⟩)
            | (go_at_call 55; (with_reducible refine (G8.out _).mono ?_); rintro e w2 ⟨rfl, rfl⟩))
          go_ret
          exact ⟨by rw [HM.out]; rfl, B1⟩
        | true =>
          cases b5 with
          | false =>
            go_enter Tryd.func22, Tryd.ntmps22
            go_wp2_with (first
              | (go_at_call 55; (with_reducible refine (G4.out _).mono ?_); rintro e w2 ⟨rfl, rfl⟩)
              | (go_at_call 55; (with_reducible refine (G5.out _).mono ?_); rintro e w2 ⟨rfl, rfl⟩)
              | (go_at_call 55; (with_reducible refine (G6.out _).mono ?_); rintro e w2 ⟨rfl, rfl⟩)
              | (go_at_call 55; (with_reducible refine (G7.out _).mono ?_); rintro e w2 ⟨rfl, rfl⟩)
              | (go_at_call 55; (with_reducible refine (G8.out _).mono ?_); rintro e w2 ⟨rfl, rfl⟩))
            go_ret
            exact ⟨by rw [HM.out]; rfl, B1⟩
          | true =>
            cases b6 with
            | false =>
              go_enter Tryd.func22, Tryd.ntmps22
              go_wp2_with (first
                | (go_at_call 55; (with_reducible refine (G4.out _).mono ?_); rintro e w2 ⟨rfl, rfl⟩)
                | (go_at_call 55; (with_reducible refine (G5.out _).mono ?_); rintro e w2 ⟨rfl, rfl⟩)
                | (go_at_call 55; (with_reducible refine (G6.out _).mono ?_); rintro e w2 ⟨rfl, rfl⟩)
                | (go_at_call 55; (with_reducible refine (G7.out _).mono ?_); rintro e w2 ⟨rfl, rfl⟩)
                | (go_at_call 55; (with_reducible refine (G8.out _).mono ?_); rintro e w2 ⟨rfl, rfl⟩))
              go_ret
              exact ⟨by rw [HM.out]; rfl, B1⟩
            | true =>
              cases b7 with
              | false =>
                go_enter Tryd.func22, Tryd.ntmps22
                go_wp2_with (first
                  | (go_at_call 55; (with_reducible refine (G4.out _).mono ?_); rintro e w2 ⟨rfl, rfl⟩)
                  | (go_at_call 55; (with_reducible refine (G5.out _).mono ?_); rintro e w2 ⟨rfl, rfl⟩)
                  | (go_at_call 55; (with_reducible refine (G6.out _).mono ?_); rintro e w2 ⟨rfl, rfl⟩)
                  | (go_at_call 55; (with_reducible refine (G7.out _).mono ?_); rintro e w2 ⟨rfl, rfl⟩)
                  | (go_at_call 55; (with_reducible refine (G8.out _).mono ?_); rintro e w2 ⟨rfl, rfl⟩))
                go_ret
                exact ⟨by rw [HM.out]; rfl, B1⟩
              | true =>
                go_enter Tryd.func22, Tryd.ntmps22
                go_wp2_with (first
                  | (go_at_call 55; (with_reducible refine (G4.out _).mono ?_); rintro e w2 ⟨rfl, rfl⟩)
                  | (go_at_call 55; (with_reducible refine (G5.out _).mono ?_); rintro e w2 ⟨rfl, rfl⟩)
                  | (go_at_call 55; (with_reducible refine (G6.out _).mono ?_); rintro e w2 ⟨rfl, rfl⟩)
                  | (go_at_call 55; (with_reducible refine (G7.out _).mono ?_); rintro e w2 ⟨rfl, rfl⟩)
                  | (go_at_call 55; (with_reducible refine (G8.out _).mono ?_); rintro e w2 ⟨rfl, rfl⟩))
                go_ret
                exact ⟨by rw [HM.out]; rfl, B1⟩
end Go.Proofs.YtpnodocjpedcmaaDoor.Jr
