/-
  Layer 8, bits: the document's row of bytes. Conditions: as the theorem names.
  Layer 8, bits: a reader. Conditions: as each theorem names.
  Layer 1, sha: rows of bytes, one behind the other; whether they are too many: contracts. Conditions: as each theorem names.
-/
import Derived.Test.YthflefdchgpbdaaDoorMBitN
import Derived.Test.YthflefdchgpbdaaDoorMGIces0
namespace Go.Proofs.YthflefdchgpbdaaDoor.Bits
open Go.ChangeShapes Go.WideShapes Go.ChangeAt Go.RowKit Go.Proofs.YthflefdchgpbdaaDoor.Kit

end Go.Proofs.YthflefdchgpbdaaDoor.Bits

namespace Go.Proofs.YthflefdchgpbdaaDoor.Bits
open Go.ChangeShapes Go.WideShapes Go.ChangeAt Go.RowKit Go.Proofs.YthflefdchgpbdaaDoor.Kit

/-- The reader at block g stands at bit p of the bytes bs, its row v. -/
structure Rd (w : World) (B g : Nat) (v : Value) (bs : List Int) (p : Nat) : Prop where
  blk : Block w g 68 #[v, .int .i64 (p : Int)]
  own : Own w B 5 .u8 v bs
  le : p ≤ 8 * bs.length

theorem Rd.out {S : Nat → Prop} {w w' : World} {B g : Nat} {v : Value} {bs : List Int} {p : Nat} (h : Rd w B g v bs p) (ho : TurnsIn S w w') (hg : ¬ S g) (hv : ∀ b, v.ownBlock = some b → ¬ S b) : Rd w' B g v bs p := ⟨h.blk.out ho hg, h.own.out ho hv, h.le⟩
theorem Rd.below {w w' : World} {B g : Nat} {v : Value} {bs : List Int} {p : Nat} (h : Rd w B g v bs p) (hb : Below w.heap.size w w') : Rd w' B g v bs p := ⟨h.blk.below hb h.blk.lt, h.own.below hb, h.le⟩
theorem Rd.set {w : World} {B g : Nat} {v : Value} {bs : List Int} {p q : Nat} (h : Rd w B g v bs p) (hq : q ≤ 8 * bs.length) : Rd (w.setCell ⟨g, 1, none⟩ (.int .i64 (q : Int))) B g v bs q := by
  have t := (TurnsIn.refl (· = g) w).setCell (p := ⟨g, 1, none⟩) (.inl rfl) (.int .i64 (q : Int))
  exact ⟨h.blk.set_ 1 _, h.own.out t (fun b hb he => h.own.ne_block h.blk (by decide) (he ▸ hb)), hq⟩

def Made (bs : List Int) (w : World) (e : Ending) (w' : World) : Prop := ∃ g v, e = .returned (.pointer (some ⟨g, 0, none⟩)) ∧ w.heap.size ≤ g ∧ Rd w' w.heap.size g v bs 0 ∧ Below w.heap.size w w'

theorem newr_any (A : Option Addr) (bs : List Int) (c : Nat) (w : World) (hl : bs.length ≤ 1000000) (hr : Holds w w.heap.size .u8 A bs) :
    Calls Tryd.prog 19 #[.slice A bs.length c] w (Made bs w) := by
  go_enter Tryd.func19, Tryd.ntmps19
  go_wp2_with (at_builtin; refine wpList_append_ints (xs := []) (ys := bs) _ rfl _ _ _ rfl elem8 (Own.nil w w.heap.size _ _) rfl rfl hr (by simp; omega) (Nat.le_refl _) ?_; intro v3 w3 own3 hg3 hb3 hv3; obtain ⟨A3, c3, rfl, _, _, _⟩ := own3.opened)
  go_ret
  exact ⟨_, _, rfl, hb3.size, ⟨Block.new w3 _ _, own3.alloc _, Nat.zero_le _⟩, hb3.alloc hb3.size _⟩

theorem left_any (B g : Nat) (v : Value) (bs : List Int) (p : Nat) (w : World) (R : Rd w B g v bs p) (hl : bs.length ≤ 1000000) :
    Calls Tryd.prog 36 #[.pointer (some ⟨g, 0, none⟩)] w fun e w' => e = .returned (.int .i64 (8 * (bs.length : Int) - (p : Int))) ∧ Below w.heap.size w w' := by
  obtain ⟨A, c, rfl, _, _, _⟩ := R.own.opened
  have c0 : w.cell? ⟨g, 0, none⟩ = some (.slice A bs.length c) := R.blk.cell 0
  have c1 : w.cell? ⟨g, 1, none⟩ = some (.int .i64 (p : Int)) := R.blk.cell 1
  have hp := R.le
  clear R
  go_enter Tryd.func36, Tryd.ntmps36
  go_wp2_with fail
  go_quiet (fail)
  go_wp2_with fail
  go_ret
  exact ⟨rfl, below_draws (Below.refl _ _) _⟩

theorem at_any (B g : Nat) (v : Value) (bs : List Int) (p : Nat) (w : World) (R : Rd w B g v bs p) :
    Calls Tryd.prog 22 #[.pointer (some ⟨g, 0, none⟩)] w fun e w' => e = .returned (.int .i64 (p : Int)) ∧ w = w' := by
  have c1 : w.cell? ⟨g, 1, none⟩ = some (.int .i64 (p : Int)) := R.blk.cell 1
  clear R
  go_enter Tryd.func22, Tryd.ntmps22
  go_wp2_with fail
  go_ret
  exact ⟨rfl, rfl⟩

theorem ralign_any (B g : Nat) (v : Value) (bs : List Int) (p : Nat) (w : World) (R : Rd w B g v bs p) (hl : bs.length ≤ 1000000) :
    Calls Tryd.prog 34 #[.pointer (some ⟨g, 0, none⟩)] w fun e w' => e = .returned (.tuple #[]) ∧ Rd w' B g v bs ((p + 7) / 8 * 8) ∧ TurnsIn (· = g) w w' := by
  have c1 : w.cell? ⟨g, 1, none⟩ = some (.int .i64 (p : Int)) := R.blk.cell 1
  have hp := R.le
  have hfr := R.blk.frozen 1
  have he : ((p : Int) + 7) / 8 * 8 = (((p + 7) / 8 * 8 : Nat) : Int) := by omega
  have hle : (p + 7) / 8 * 8 ≤ 8 * bs.length := by omega
  generalize (p + 7) / 8 * 8 = q at *
  have R' := R.set (q := q) hle
  have t := (TurnsIn.refl (· = g) w).setCell (p := ⟨g, 1, none⟩) (.inl rfl) (.int .i64 (q : Int))
  clear R
  go_enter Tryd.func34, Tryd.ntmps34
  go_wp2_with fail
  go_end0
  exact ⟨rfl, R', t⟩

theorem seek_no (B g : Nat) (v : Value) (bs : List Int) (p : Nat) (n : Int) (w : World) (R : Rd w B g v bs p) (hl : bs.length ≤ 1000000) (hn : n < 0 ∨ 8 * (bs.length : Int) < n) :
    Calls Tryd.prog 20 #[.pointer (some ⟨g, 0, none⟩), .int .i64 n] w fun e w' => e = .returned (.int .i64 5) ∧ w = w' := by
  obtain ⟨A, c, rfl, _, _, _⟩ := R.own.opened
  have c0 : w.cell? ⟨g, 0, none⟩ = some (.slice A bs.length c) := R.blk.cell 0
  clear R
  by_cases h0 : n < 0
  · have d0 : decide (n < 0) = true := decide_eq_true h0
    go_enter Tryd.func20, Tryd.ntmps20
    go_wp2_with fail
    go_ret
    exact ⟨rfl, rfl⟩
  · have d0 : decide (n < 0) = false := decide_eq_false h0
    have d1 : decide (8 * (bs.length : Int) < n) = true := decide_eq_true (by omega)
    go_enter Tryd.func20, Tryd.ntmps20
    go_wp2_with fail
    go_ret
    exact ⟨rfl, rfl⟩

theorem seek_yes (B g : Nat) (v : Value) (bs : List Int) (p n : Nat) (w : World) (R : Rd w B g v bs p) (hl : bs.length ≤ 1000000) (hn : n ≤ 8 * bs.length) :
    Calls Tryd.prog 20 #[.pointer (some ⟨g, 0, none⟩), .int .i64 (n : Int)] w fun e w' => e = .returned (.int .i64 0) ∧ Rd w' B g v bs n ∧ TurnsIn (· = g) w w' := by
  obtain ⟨A, c, rfl, _, _, _⟩ := R.own.opened
  have c0 : w.cell? ⟨g, 0, none⟩ = some (.slice A bs.length c) := R.blk.cell 0
  have c1 : w.cell? ⟨g, 1, none⟩ = some (.int .i64 (p : Int)) := R.blk.cell 1
  have hfr := R.blk.frozen 1
  have R' := R.set (q := n) hn
  have t := (TurnsIn.refl (· = g) w).setCell (p := ⟨g, 1, none⟩) (.inl rfl) (.int .i64 (n : Int))
  have d0 : decide ((n : Int) < 0) = false := decide_eq_false (by omega)
  have d1 : decide (8 * (bs.length : Int) < n) = false := decide_eq_false (by omega)
  clear R
  go_enter Tryd.func20, Tryd.ntmps20
  go_wp2_with fail
  go_ret
  exact ⟨rfl, R', t⟩
end Go.Proofs.YthflefdchgpbdaaDoor.Bits

namespace Go.Proofs.YthflefdchgpbdaaDoor.Rj
open Go.ChangeShapes Go.WideShapes Go.ChangeAt Go.RowKit Go.Proofs.YthflefdchgpbdaaDoor.Kit Go.Proofs.YthflefdchgpbdaaDoor.Bits

/-- More rows, or more bytes in one, than are gone through. -/
def greatR (rs : List Rw) : Bool := decide (60 < rs.length) || rs.any fun r => decide (400 < r.zs.length)
theorem greatR_no {rs : List Rw} (h : greatR rs = false) : rs.length ≤ 60 ∧ ∀ r ∈ rs, r.zs.length ≤ 400 := by
  unfold greatR at h
  rw [Bool.or_eq_false_iff] at h
  refine ⟨by have := of_decide_eq_false h.1; omega, fun s hs => ?_⟩
  have := of_decide_eq_false ((List.any_eq_false.1 h.2 s hs |> Bool.eq_false_iff.2))
  omega

set_option maxRecDepth 100000 in
set_option maxHeartbeats 1600000 in
theorem greatR_any (A : Option Addr) (rs : List Rw) (c : Nat) (w : World) (hc : rs.length ≤ c) (hm : c ≤ maxLen) (hr : HoldsW w w.heap.size A rs) :
    Calls Tryd.prog 8 #[.slice A rs.length c] w fun e w' => e = .returned (.bool (greatR rs)) ∧ w = w' := by
  unfold maxLen at hm
  by_cases h60 : (60 : Int) < rs.length
  · have hg : greatR rs = true := by unfold greatR; rw [decide_eq_true (by omega)]; rfl
    rw [hg]
    have hd : decide ((60 : Int) < (rs.length : Int)) = true := decide_eq_true h60
    go_enter Tryd.func8, Tryd.ntmps8
    go_wp2_with fail
    go_ret
    exact ⟨rfl, rfl⟩
  · have hd : decide ((60 : Int) < (rs.length : Int)) = false := decide_eq_false h60
    go_enter Tryd.func8, Tryd.ntmps8
    go_wp2_with fail
    go_loop [9] (fun s => ∃ i : Nat, i ≤ rs.length ∧ s = .int .i64 i ∧ ((rs.take i).any fun r => decide (400 < r.zs.length)) = false) (fun s => rs.length - (intOf s).toNat)
    case atStart => exact ⟨0, Nat.zero_le _, rfl, by simp⟩
    case round =>
      obtain ⟨i, hi, rfl, hpre⟩ := hrel
      by_cases hlt : i < rs.length
      · obtain ⟨b, off, rfl, hbl, c0, h1, h2, hoz, hrz⟩ := rwAt hr hlt
        have hnext : rs.take (i + 1) = rs.take i ++ [rs[i]] := List.take_succ_eq_append_getElem hlt
        have hmem := List.getElem_mem hlt
        generalize rs[i] = s at *
        by_cases hz : (400 : Int) < s.zs.length
        · have hg : greatR rs = true := by
            unfold greatR
            rw [show (rs.any fun s => decide (400 < s.zs.length)) = true from List.any_eq_true.2 ⟨s, hmem, decide_eq_true (by omega)⟩, Bool.or_true]
          have hd2 : decide ((400 : Int) < (s.zs.length : Int)) = true := decide_eq_true hz
          have HG := Lib.hid hg
          clear hg hnext hmem hpre
          go_wp2_with fail
          go_ret
          exact ⟨by rw [HG.out]; rfl, rfl⟩
        · have hd2 : decide ((400 : Int) < (s.zs.length : Int)) = false := decide_eq_false hz
          have hpre2 : ((rs.take (i + 1)).any fun s => decide (400 < s.zs.length)) = false := by
            rw [hnext, List.any_append, hpre]
            simp
            omega
          have HP := Lib.hid hpre2
          clear hpre2 hnext hmem hpre
          go_wp2_with fail
          go_round
          case rel => exact ⟨i + 1, by omega, by go_num, HP.out⟩
          case measure => simp [intOf] <;> omega
      · obtain rfl : i = rs.length := by omega
        rw [List.take_of_length_le (Nat.le_refl _)] at hpre
        have hg : greatR rs = false := by unfold greatR; rw [hpre, decide_eq_false (by omega)]; rfl
        have HG := Lib.hid hg
        clear hg hpre
        go_wp2_with fail
        go_ret
        exact ⟨by rw [HG.out]; rfl, rfl⟩

theorem elem8j : IntElem Tryd.prog 22 5 .u8 1 := ⟨Tryd.underlying22, by kernel_rfl, by omega⟩

/-- A new row of the call's own that reads these bytes. -/
def Rowed (xs : List Int) (w : World) (e : Ending) (w' : World) : Prop := ∃ v, e = .returned v ∧ Own w' w.heap.size 5 .u8 v xs ∧ Below w.heap.size w w'

set_option maxRecDepth 100000 in
set_option maxHeartbeats 1600000 in
theorem joins_any (A : Option Addr) (rs : List Rw) (c : Nat) (w : World) (hc : rs.length ≤ c) (hm : c ≤ maxLen) (hr : HoldsW w w.heap.size A rs) (h1 : rs.length ≤ 1000000) (h2 : ∀ r ∈ rs, r.zs.length ≤ 100000) :
    Calls Tryd.prog 9 #[.slice A rs.length c] w (Rowed (joinL rs) w) := by
  unfold maxLen at hm
  have o0 := Own.empty (B := w.heap.size) w 5 .u8 (Nat.le_refl _)
  have b0 := (Below.refl w.heap.size w).alloc (Nat.le_refl _) (.cells #[] 5)
  go_enter Tryd.func9, Tryd.ntmps9
  go_wp2_with fail
  go_loopw [3, 8] (fun v s wr => ∃ i : Nat, i ≤ rs.length ∧ s = .int .i64 i ∧ Own wr w.heap.size 5 .u8 v (joinL (rs.take i)) ∧ Below w.heap.size w wr) (fun _ s _ => rs.length - (intOf s).toNat)
  case atStart => exact ⟨0, by omega, rfl, o0, b0⟩
  case round =>
    clear o0 b0
    obtain ⟨i, hi, rfl, own, hb⟩ := hrel
    by_cases hlt : i < rs.length
    · have hjn := Lib.hid (joinL_next hlt)
      have hlen := joinL_le (rs := rs.take i) (m := 100000) (fun r hr => h2 r (List.mem_of_mem_take hr))
      have hmz := h2 _ (List.getElem_mem hlt)
      have htl : (rs.take i).length = i := by rw [List.length_take]; omega
      obtain ⟨b, off, rfl, hbl, c0, k1, k2, hoz, hrz⟩ := rwAt (hr.below hb) hlt
      generalize rs[i] = r at *
      have hsz : (joinL (rs.take i)).length + r.zs.length ≤ 1099511627776 := by rw [htl] at hlen; omega
      have hbs := hb.size
      clear htl hlen
      generalize joinL (rs.take i) = js at *
      go_wp2_with (refine wpList_append_ints _ rfl _ _ 22 rfl elem8j own rfl rfl hrz hsz hbs ?_; intro v2 w2 own2 g2 b2 n2)
      go_roundw
      case rel => exact ⟨i + 1, by omega, by go_num, by rw [hjn.out]; exact own2, hb.trans b2⟩
      case measure => simp [intOf] <;> omega
    · obtain rfl : i = rs.length := by omega
      rw [List.take_of_length_le (Nat.le_refl _)] at own
      go_wp2_with fail
      go_ret
      exact ⟨_, rfl, own, hb⟩

/-- Two rows, laid in a new block. -/
theorem two_rows {w : World} {A B : Option Addr} {xs ys : List Int} {c d : Nat} (hc : xs.length ≤ c) (hm : c ≤ maxLen) (ho : Octets xs) (hr : Holds w w.heap.size .u8 A xs) (hd : ys.length ≤ d) (hn : d ≤ maxLen) (hp : Octets ys) (hs : Holds w w.heap.size .u8 B ys) :
    HoldsW (w.alloc (.cells #[.slice A xs.length c, .slice B ys.length d] 22)) (w.alloc (.cells #[.slice A xs.length c, .slice B ys.length d] 22)).heap.size (some ⟨w.heap.size, 0, none⟩) [⟨A, c, xs⟩, ⟨B, d, ys⟩] := by
  have bk := Block.new w 22 #[.slice A xs.length c, .slice B ys.length d]
  have hb := (Below.refl w.heap.size w).alloc (Nat.le_refl _) (.cells #[.slice A xs.length c, .slice B ys.length d] 22)
  have h1 := (hr.below hb).more hb.size
  have h2 := (hs.below hb).more hb.size
  intro _
  refine ⟨w.heap.size, 0, rfl, by simp, fun i r hi => ?_⟩
  match i, hi with
  | 0, hi =>
    simp at hi; subst hi
    refine ⟨_, ⟨rfl, hc, hm, ho, h1⟩, rfl, fun j v hj => ?_⟩
    match j, hj with
    | 0, hj => simp at hj; subst hj; exact bk.cell 0
  | 1, hi =>
    simp at hi; subst hi
    refine ⟨_, ⟨rfl, hd, hn, hp, h2⟩, rfl, fun j v hj => ?_⟩
    match j, hj with
    | 0, hj => simp at hj; subst hj; exact bk.cell 1


theorem join_two {A B : Option Addr} {xs ys : List Int} {c d : Nat} (W : World) (A' : Option Addr) (hx : xs.length ≤ 100000) (hy : ys.length ≤ 100000) (h : HoldsW W W.heap.size A' [⟨A, c, xs⟩, ⟨B, d, ys⟩]) :
    Calls Tryd.prog 9 #[.slice A' 2 2] W (Rowed (xs ++ ys) W) := by
  have := joins_any A' [⟨A, c, xs⟩, ⟨B, d, ys⟩] 2 W (Nat.le_refl _) (by decide) h (by simp) (by intro r hr; simp at hr; rcases hr with rfl | rfl <;> (show List.length _ ≤ _; simp only []; omega))
  rwa [show joinL [⟨A, c, xs⟩, ⟨B, d, ys⟩] = xs ++ ys by simp [joinL]] at this
end Go.Proofs.YthflefdchgpbdaaDoor.Rj
