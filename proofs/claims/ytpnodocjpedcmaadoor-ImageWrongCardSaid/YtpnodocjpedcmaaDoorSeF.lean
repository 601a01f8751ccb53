/-
  Layer 6, sector: Read: contract. Conditions: as each theorem names.
-/
import Derived.Test.YtpnodocjpedcmaaDoorSeE
namespace Go.Proofs.YtpnodocjpedcmaaDoor.Sec
open Go.ChangeShapes Go.WideShapes Go.ChangeAt Go.RowKit Go.Proofs.YtpnodocjpedcmaaDoor.Kit Go.Maps

/-- What a read gives: bytes, and the error's number. -/
def Dv.read (s : Dv) (i : Int) : List Int × Int :=
  if s.off = true then ([], 8) else if i < 0 ∨ (s.count : Int) ≤ i then ([], 5) else
  match getS s.waits i with
  | some (some xs) => (xs, 0)
  | _ => match getS s.kept i with
    | none => (List.replicate s.size 0, 0)
    | some none => ([], 7)
    | some (some xs) => (xs, 0)
def GivesB (zs : List Int) (E : Int) (w : World) (e : Ending) (w' : World) : Prop :=
  ∃ v, e = .returned (.tuple #[v, .int .i64 E]) ∧ Own w' w.heap.size 5 .u8 v zs ∧ Below w.heap.size w w'
theorem mem_getS {l : Sl} {k : Int} {o : Option (List Int)} (h : getS l k = some o) : (k, o) ∈ l := by
  induction l with
  | nil => cases h
  | cons q r ih =>
    obtain ⟨j, u⟩ := q
    unfold getS at h
    split at h
    · rename_i hj
      injection h with h
      subst hj h
      simp
    · exact List.mem_cons_of_mem _ (ih h)

set_option maxRecDepth 100000 in
set_option maxHeartbeats 3200000 in
theorem read_any (I : Nat → Prop) (a mk mw : Nat) (s : Dv) (i : Int) (w : World) (h : DvAt w I a mk mw s) (hi : -9223372036854775808 ≤ i ∧ i ≤ 9223372036854775807) :
    Calls Tryd.prog 77 #[.pointer (some ⟨a, 0, none⟩), .int .i64 i] w (GivesB (s.read i).1 (s.read i).2 w) := by
  have GI := Lib.hid (isOn_any I a mk mw s w h)
  have B0 := Below.refl w.heap.size w
  have nil_ : ∀ E, GivesB [] E w (.returned (.tuple #[.slice none 0 0, .int .i64 E])) w := fun E => ⟨_, rfl, Own.nil w w.heap.size 5 .u8, B0⟩
  have HN := Lib.hid nil_
  clear nil_
  obtain ⟨c0, c1, c2, c3, c4, c5, c6, c7⟩ := h.reads
  have hs1 := h.ok.s1
  have hs2 := h.ok.s2
  have hc2 := h.ok.c2
  unfold Dv.read
  cases hoff : s.off with
  | true =>
    rw [if_pos rfl]
    rw [hoff] at GI
    clear h
    go_enter Tryd.func77, Tryd.ntmps77
    go_wp2_with (go_at_call 41; (with_reducible refine GI.out.mono ?_); rintro e w1 ⟨rfl, rfl⟩)
    go_ret2
    exact HN.out 8
  | false =>
    rw [if_neg (by decide)]
    rw [hoff] at GI
    by_cases hlo : i < 0
    · rw [if_pos (Or.inl hlo)]
      have d1 : decide (i < 0) = true := decide_eq_true hlo
      clear h
      go_enter Tryd.func77, Tryd.ntmps77
      go_wp2_with (go_at_call 41; (with_reducible refine GI.out.mono ?_); rintro e w1 ⟨rfl, rfl⟩)
      go_ret2
      exact HN.out 5
    · have d1 : decide (i < 0) = false := decide_eq_false hlo
      by_cases hhi : (s.count : Int) ≤ i
      · rw [if_pos (Or.inr hhi)]
        have d2 : decide ((s.count : Int) ≤ i) = true := decide_eq_true hhi
        clear h
        go_enter Tryd.func77, Tryd.ntmps77
        go_wp2_with (go_at_call 41; (with_reducible refine GI.out.mono ?_); rintro e w1 ⟨rfl, rfl⟩)
        go_ret2
        exact HN.out 5
      · have d2 : decide ((s.count : Int) ≤ i) = false := decide_eq_false hhi
        rw [if_neg (by omega)]
        cases hgw : getS s.waits i with
        | some o =>
          cases o with
          | none => exact absurd rfl (h.ok.wn _ (mem_getS hgw))
          | some xs =>
            obtain ⟨g, m, hr, hxl, _, _, own⟩ := h.wt.look_yes i hi xs hgw true
            obtain ⟨A, c, he, _, _, hh⟩ := own.opened
            injection he with he1 he2 he3
            subst he1 he3
            have GC := clone_any g 0 xs m w (by omega) hh
            rw [hxl] at GC
            replace GC := Lib.hid GC
            simp only [if_true] at hr
            clear h hgw own hh he2 hxl
            go_enter Tryd.func77, Tryd.ntmps77
            go_wp2_with (first
              | (go_at_call 41; (with_reducible refine GI.out.mono ?_); rintro e w1 ⟨rfl, rfl⟩)
              | (go_at_call 42; (with_reducible refine GC.out.mono ?_); rintro e w1 ⟨v, rfl, own, hb⟩))
            go_ret2
            exact ⟨v, rfl, own, hb⟩
        | none =>
          have hrw := h.wt.look_no i hi hgw
          cases hgk : getS s.kept i with
          | none =>
            have hrk := h.k.kept_no i hi hgk
            have e0 := (h.alloc (.cells #[.slice none 0 0, .bool false] 103)).reads.1
            have B1 : Below w.heap.size w (w.alloc (.cells #[.slice none 0 0, .bool false] 103)) := (Below.refl _ _).alloc (Nat.le_refl _) _
            clear h hgw hgk
            go_enter Tryd.func77, Tryd.ntmps77
            go_wp2_with (first
              | (go_at_call 41; (with_reducible refine GI.out.mono ?_); rintro e w1 ⟨rfl, rfl⟩)
              | (refine wpList_make_ints _ rfl _ _ _ rfl elem8 s.size s.size rfl rfl rfl rfl (Nat.le_refl _) (by omega) ?_; intro w5 own5 hb5 hl5))
            go_ret2
            have o6 := own5.mono B1.size
            rw [show (w.alloc (.cells #[.slice none 0 0, .bool false] 103)).heap.size = w.heap.size + 1 by simp] at o6
            exact ⟨_, rfl, o6, B1.trans (hb5.mono B1.size)⟩
          | some o =>
            cases o with
            | none =>
              have hrk := h.k.kept_torn i hi hgk
              clear h hgw hgk
              go_enter Tryd.func77, Tryd.ntmps77
              go_wp2_with (go_at_call 41; (with_reducible refine GI.out.mono ?_); rintro e w1 ⟨rfl, rfl⟩)
              go_ret2
              exact ⟨_, rfl, Own.nil _ w.heap.size 5 .u8, (Below.refl _ _).alloc (Nat.le_refl _) _⟩
            | some xs =>
              obtain ⟨g, m, hrk, hxl, _, _, own⟩ := h.k.kept_yes i hi xs hgk
              have B1 : Below w.heap.size w (w.alloc (.cells #[.slice (some ⟨g, 0, none⟩) s.size m, .bool false] 103)) := (Below.refl _ _).alloc (Nat.le_refl _) _
              obtain ⟨A, c, he, _, _, hh⟩ := own.opened
              injection he with he1 he2 he3
              subst he1 he3
              have GC := Lib.hid (fun W (hB : Below w.heap.size w W) => clone_any g 0 xs m W (by omega) ((hh.below hB).more hB.size))
              rw [hxl] at GC
              clear h hgw hgk own hh he2 hxl
              go_enter Tryd.func77, Tryd.ntmps77
              go_wp2_with (first
                | (go_at_call 41; (with_reducible refine GI.out.mono ?_); rintro e w1 ⟨rfl, rfl⟩)
                | (go_at_call 42; (with_reducible refine (GC.out _ B1).mono ?_); rintro e w1 ⟨v, rfl, own, hb⟩))
              go_ret2
              exact ⟨v, rfl, own.mono B1.size, B1.trans (hb.mono B1.size)⟩
end Go.Proofs.YtpnodocjpedcmaaDoor.Sec
