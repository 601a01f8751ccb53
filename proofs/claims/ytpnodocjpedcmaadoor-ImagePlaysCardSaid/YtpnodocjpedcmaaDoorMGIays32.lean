/-
  Layer 25, image: how the law's step comes in. Conditions: as each theorem names.
  Layer 25, image: the law's steps: how they come in; the law's great: contract. Conditions: as each theorem names.
-/
import Derived.Test.YtpnodocjpedcmaaDoorMImB
import Derived.Test.YtpnodocjpedcmaaDoorMGIays0
import Derived.OpenShut
namespace Go.Proofs.YtpnodocjpedcmaaDoor.Im
open Go.ChangeShapes Go.WideShapes Go.ChangeAt Go.RowKit Go.Proofs.YtpnodocjpedcmaaDoor.Kit

structure Step25 where
  k : Int
  blk : Int
  at_ : Int
  n : Int
  view : Int
  slot : Int
  A : Option Addr
  cap : Nat
  bs : List Int
  A2 : Option Addr
  cap2 : Nat
  zs : List Int
structure Step25.Ok (m : Step25) : Prop where
  k : -9223372036854775808 ≤ m.k ∧ m.k ≤ 9223372036854775807
  blk : -9223372036854775808 ≤ m.blk ∧ m.blk ≤ 9223372036854775807
  at_ : -9223372036854775808 ≤ m.at_ ∧ m.at_ ≤ 9223372036854775807
  n : -9223372036854775808 ≤ m.n ∧ m.n ≤ 9223372036854775807
  view : -9223372036854775808 ≤ m.view ∧ m.view ≤ 9223372036854775807
  slot : 0 ≤ m.slot ∧ m.slot ≤ 255
  b1 : m.bs.length ≤ m.cap
  b2 : m.cap ≤ maxLen
  bo : Octets m.bs
  z1 : m.zs.length ≤ m.cap2
  z2 : m.cap2 ≤ maxLen
  zo : Octets m.zs
def Step25.cells (m : Step25) : List Value := [.int .i64 m.k, .int .i64 m.blk, .int .i64 m.at_, .int .i64 m.n, .int .i64 m.view, .int .u8 m.slot, .slice m.A m.bs.length m.cap, .slice m.A2 m.zs.length m.cap2]
def Step25.In (m : Step25) (w : World) (B : Nat) : Prop := Holds w B .u8 m.A m.bs ∧ Holds w B .u8 m.A2 m.zs
def stepDs : List Fld := [.i .i64, .i .i64, .i .i64, .i .i64, .i .i64, .i .u8, .s .u8, .s .u8]
theorem step_of {w : World} {B : Nat} {vs : List FVal} (h : allOk w B stepDs vs) : ∃ m : Step25, m.Ok ∧ m.In w B ∧ allCells stepDs vs = m.cells := by
  match vs, h with
  | [.i k, .i b, .i a, .i n, .i v, .i s, .s A c bs, .s A2 c2 zs], ⟨h0, h1, h2, h3, h4, h5, h6, h7, _⟩ =>
    exact ⟨⟨k, b, a, n, v, s, A, c, bs, A2, c2, zs⟩, ⟨bounds_i64 h0, bounds_i64 h1, bounds_i64 h2, bounds_i64 h3, bounds_i64 h4, bounds_u8 h5, h6.1, h6.2.1, fun z hz => bounds_u8 (h6.2.2.1 z hz), h7.1, h7.2.1, fun z hz => bounds_u8 (h7.2.2.1 z hz)⟩, ⟨h6.2.2.2, h7.2.2.2⟩, rfl⟩
end Go.Proofs.YtpnodocjpedcmaaDoor.Im

namespace Go.Proofs.YtpnodocjpedcmaaDoor.Im
open Go.ChangeShapes Go.WideShapes Go.ChangeAt Go.RowKit Go.Proofs.YtpnodocjpedcmaaDoor.Kit

/-- How a step lies in memory. -/
def StepIn (w : World) (B : Nat) (m : Step25) (cs : List Value) : Prop := m.Ok ∧ m.In w B ∧ cs = m.cells
def HoldsQ (w : World) (B : Nat) (A : Option Addr) (ss : List Step25) : Prop := HoldsE (StepIn w B) 8 w B A ss
/-- A slice of steps that came in. -/
theorem open_steps25 {H : Type} {enc : TypeId × Value → H} {P : Program} {w : World} {b0 : Nat} {t e : TypeId} {fs : Array Field} (ht : P.underlying t = some (.slice e)) (he : P.underlying e = some (.struct fs)) (hs : shapeB P fs.toList 0 stepDs = true) (hc : P.cellsOf e = 8)
    {v : Value} {d : DataW H} {ps : List MemPlace} (hval : Value.okWide P w .any b0 t v) (h : DataW.Trod enc P w 0 (fun _ => true) true t v d ps) (hlt : ∀ x ∈ ps, x.block < w.heap.size) :
    ∃ (A : Option Addr) (cap : Nat) (ss : List Step25), v = .slice A ss.length cap ∧ ss.length ≤ cap ∧ cap ≤ maxLen ∧ HoldsQ w w.heap.size A ss :=
  open_slice_of (StepIn w w.heap.size) 8 ht hc (by omega) (fun _ _ _ h hp => by
    obtain ⟨vs, h1, h2⟩ := read_shape he hs hc h hp
    obtain ⟨m, h3, h5, h4⟩ := step_of h1
    exact ⟨m, h3, h5, h2.trans h4⟩) hval h hlt
theorem Step25.In.below {m : Step25} {w w' : World} {B : Nat} (h : m.In w B) (hb : Below B w w') : m.In w' B := ⟨h.1.below hb, h.2.below hb⟩
theorem HoldsQ.below {w w' : World} {B : Nat} {A : Option Addr} {ss : List Step25} (h : HoldsQ w B A ss) (hb : Below B w w') : HoldsQ w' B A ss :=
  h.keep (fun _ hp => hb.cell hp) fun _ _ ⟨r0, r1, r2⟩ => ⟨r0, r1.below hb, r2⟩
/-- The steps at A, element by element. -/
theorem stepAt25 {w : World} {B : Nat} {A : Option Addr} {ss : List Step25} (h : HoldsQ w B A ss) {i : Nat} (hi : i < ss.length) :
    ∃ b off : Nat, A = some ⟨b, off, none⟩ ∧ b < B ∧ w.rangeAt b (off + i * 8) ss[i].cells ∧ ss[i].Ok ∧ ss[i].In w B := by
  obtain ⟨b, off, rfl, hb, hc⟩ := h (by omega)
  obtain ⟨cs, ⟨r1, r2, rfl⟩, _, hcs⟩ := hc i ss[i] (List.getElem?_eq_getElem hi)
  exact ⟨b, off, rfl, hb, fun j c hj => hcs j c hj, r1, r2⟩

def stepGreat (s : Step25) : Bool := decide (1000 < s.bs.length) || decide (60 < s.zs.length)
def greatB (ss : List Step25) : Bool := decide (40 < ss.length) || ss.any stepGreat
theorem great_no {ss : List Step25} (h : greatB ss = false) : ss.length ≤ 40 ∧ ∀ s ∈ ss, s.bs.length ≤ 1000 ∧ s.zs.length ≤ 60 := by
  unfold greatB at h
  rw [Bool.or_eq_false_iff] at h
  refine ⟨by have := of_decide_eq_false h.1; omega, fun s hs => ?_⟩
  have h2 := (List.any_eq_false.1 h.2 s hs |> Bool.eq_false_iff.2)
  unfold stepGreat at h2
  rw [Bool.or_eq_false_iff] at h2
  have h3 := of_decide_eq_false h2.1
  have h4 := of_decide_eq_false h2.2
  omega

set_option maxRecDepth 100000 in
set_option maxHeartbeats 1600000 in
theorem great_any (A : Option Addr) (ss : List Step25) (c : Nat) (B : Nat) (w : World) (hr : HoldsQ w B A ss) :
    Calls Tryd.prog 25 #[.slice A ss.length c] w fun e w' => e = .returned (.bool (greatB ss)) ∧ w' = w := by
  by_cases h40 : (40 : Int) < ss.length
  · have hg : greatB ss = true := by unfold greatB; rw [decide_eq_true (by omega)]; rfl
    rw [hg]
    have hd : decide ((40 : Int) < (ss.length : Int)) = true := decide_eq_true h40
    go_enter Tryd.func25, Tryd.ntmps25
    go_wp2_with fail
    go_ret
    exact ⟨rfl, rfl⟩
  · have hd : decide ((40 : Int) < (ss.length : Int)) = false := decide_eq_false h40
    go_enter Tryd.func25, Tryd.ntmps25
    go_wp2_with fail
    go_loopw [3] (fun s wr => ∃ i : Nat, i ≤ ss.length ∧ s = .int .i64 i ∧ (ss.take i).any stepGreat = false ∧ wr = w) (fun s _ => ss.length - (intOf s).toNat)
    case atStart => exact ⟨0, Nat.zero_le _, rfl, by simp, rfl⟩
    case round =>
      obtain ⟨i, hi, rfl, hpre, rfl⟩ := hrel
      by_cases hlt : i < ss.length
      · obtain ⟨b, off, rfl, hbl, hra, -, -⟩ := stepAt25 hr hlt
        have c6 : wr.cell? ⟨b, off + i * 8 + 6, none⟩ = some (.slice ss[i].A ss[i].bs.length ss[i].cap) := hra 6 _ rfl
        have c7 : wr.cell? ⟨b, off + i * 8 + 7, none⟩ = some (.slice ss[i].A2 ss[i].zs.length ss[i].cap2) := hra 7 _ rfl
        have hnext : ss.take (i + 1) = ss.take i ++ [ss[i]] := (List.take_append_getElem hlt).symm
        have hmem := List.getElem_mem hlt
        have d0 : decide ((i : Int) < (ss.length : Int)) = true := decide_eq_true (by omega)
        generalize ss[i] = s at *
        clear hra
        by_cases hz : stepGreat s = true
        · have hg : greatB ss = true := by
            unfold greatB
            rw [show ss.any stepGreat = true from List.any_eq_true.2 ⟨s, hmem, hz⟩, Bool.or_true]
          have hd9 : decide ((1000 : Int) < (s.bs.length : Int)) = true ∨ (decide ((1000 : Int) < (s.bs.length : Int)) = false ∧ decide ((60 : Int) < (s.zs.length : Int)) = true) := by
            unfold stepGreat at hz
            rw [Bool.or_eq_true] at hz
            simp only [decide_eq_true_eq, decide_eq_false_iff_not] at hz ⊢
            omega
          have HG := Lib.hid hg
          clear hg hnext hmem hpre hz
          rcases hd9 with e1 | ⟨e1, e2⟩
          all_goals
            go_wp2_with fail
            go_ret
            exact ⟨by rw [HG.out] <;> rfl, rfl⟩
        · have hz : stepGreat s = false := by simpa using hz
          have hz2 := hz
          unfold stepGreat at hz2
          rw [Bool.or_eq_false_iff] at hz2
          have h1 := of_decide_eq_false hz2.1
          have h2 := of_decide_eq_false hz2.2
          have e1 : decide ((1000 : Int) < (s.bs.length : Int)) = false := decide_eq_false (by omega)
          have e2 : decide ((60 : Int) < (s.zs.length : Int)) = false := decide_eq_false (by omega)
          have hpre2 : (ss.take (i + 1)).any stepGreat = false := by
            rw [hnext, List.any_append, hpre, List.any_cons, List.any_nil, hz]
            rfl
          have HP := Lib.hid hpre2
          clear hpre2 hnext hmem hpre hz hz2 h1 h2
          go_wp2_with fail
          go_roundw
          case rel => exact ⟨i + 1, by omega, by go_num, HP.out, by first | rfl | trivial⟩
          case measure => simp [intOf]; omega
      · have d0 : decide ((i : Int) < (ss.length : Int)) = false := decide_eq_false (by omega)
        obtain rfl : i = ss.length := by omega
        rw [List.take_length] at hpre
        have hg : greatB ss = false := by
          unfold greatB
          rw [hpre, decide_eq_false (by omega)]
          rfl
        have HG := Lib.hid hg
        clear hg hpre
        go_wp2_with fail
        go_ret
        exact ⟨by rw [HG.out] <;> rfl, rfl⟩
end Go.Proofs.YtpnodocjpedcmaaDoor.Im
