/-
  Layer 18, graph: a number is struck from a set of the call's own: a contract. Conditions: as each theorem names.
-/
import Derived.Test.YtojmcjkeniepcaaGrV
import Derived.Lib.SlMapFilter
import Derived.Maps.Ext
import Derived.Maps.RangeWalk
import Derived.Laws.IdiomRangeMap
import Derived.Deep.LoopGhost
namespace Go.Proofs.Ytojmcjkeniepcaa.Gr
open Go.ChangeShapes Go.WideShapes Go.ChangeAt Go.RowKit Go.Maps Go.Proofs.Ytojmcjkeniepcaa.Kit Go.Proofs.Ytojmcjkeniepcaa.Sk

theorem edges1_any (own x : Int) (pb : Nat) (w : World) (hp : w.cell? ⟨pb, 0, none⟩ = some (.int .i64 own)) (hlt : pb < w.heap.size) :
    Calls Try.prog 33 #[.int .i64 x, .agg #[], .pointer (some ⟨pb, 0, none⟩)] w fun e w' => e = .returned (.bool (x == own)) ∧ w.grownBy w' none := by
  have B0 : Below w.heap.size w (w.alloc (.cells #[] 61)) := (Below.refl _ _).alloc (Nat.le_refl _) _
  go_enter Try.func33, Try.ntmps33
  go_wp2_with fail
  go_ret
  exact ⟨rfl, ⟨B0.os, B0.tape, B0.output, B0.size, fun g hg _ => B0.block g hg⟩⟩

/-- What is struck: the block's own number. -/
def isK (own : Int) (kl : Lit) (_ : DataW Unit) : Bool := kl.sameKey (.int .i64 own)
theorem isK_eq (own k : Int) (d : DataW Unit) : isK own (.int .i64 k) d = (k == own) := by
  by_cases h : k = own <;> simp [isK, Lit.sameKey, h]
theorem has_struck {es : List (Lit × DataW Unit)} (hk : ∀ p ∈ es, ∃ k, p.1 = .int .i64 k) (own x : Int) : Maps.has (Lib.deleteFuncD (isK own) (.map es)) (.int .i64 x) = true ↔ Maps.has (.map es) (.int .i64 x) = true ∧ x ≠ own := by
  unfold Lib.deleteFuncD isK
  rw [Maps.has_eq, Maps.has_eq, List.any_eq_true, List.any_eq_true]
  constructor
  · rintro ⟨p, hp, hs⟩
    obtain ⟨h1, h2⟩ := List.mem_filter.1 hp
    refine ⟨⟨p, h1, hs⟩, fun e => ?_⟩
    rw [e] at hs
    rw [hs] at h2
    cases h2
  · rintro ⟨⟨p, hp, hs⟩, hne⟩
    refine ⟨p, List.mem_filter.2 ⟨hp, ?_⟩, hs⟩
    obtain ⟨k, hk⟩ := hk p hp
    rw [hk] at hs ⊢
    have e : k = x := by simpa [Lit.sameKey] using hs
    subst e
    simp [Lit.sameKey, hne]

set_option maxRecDepth 100000 in
set_option maxHeartbeats 4000000 in
theorem strike_any (own : Int) (b N pb : Nat) (S : Int → Prop) (w : World) (h : SetAt w b N S) (hp : w.cell? ⟨pb, 0, none⟩ = some (.int .i64 own)) (hlt : pb < w.heap.size) (hne : pb ≠ b) :
    Calls Try.prog 32 #[.map (some b), .func (.func 33) #[] #[.pointer (some ⟨pb, 0, none⟩)]] w fun e w' => e = .returned (.tuple #[]) ∧ SetAt w' b N (fun x => S x ∧ x ≠ own) ∧ w.grownBy w' (some b) := by
  obtain ⟨D, hown, hD⟩ := h
  obtain ⟨es, rfl, hap, hkeys⟩ := hown.entries keyI
  have hk : ∀ p ∈ es, ∃ k, p.1 = .int .i64 k := by
    obtain ⟨es', hD', hko⟩ := hown.keysOf
    obtain rfl : es = es' := by simpa using hD'
    intro p hp
    obtain ⟨v, hv⟩ := hko p hp
    obtain ⟨x, _, hx, _⟩ := Maps.keyOf_i64 Try.underlying3 hv
    exact ⟨x, hx⟩
  have HS : Hid (∀ x, Maps.has (Lib.deleteFuncD (isK own) (.map es)) (.int .i64 x) = true ↔ S x ∧ x ≠ own) := Lib.hid (fun x => by rw [has_struck hk, hD])
  have HP : Hid (∀ W, w.grownBy W (some b) → W.cell? ⟨pb, 0, none⟩ = some (.int .i64 own) ∧ pb < W.heap.size) := Lib.hid (fun W g => ⟨(World.cell?_of_block (w := w) (a := ⟨pb, 0, none⟩) (g.block pb hlt (by simpa using hne))).trans hp, Nat.lt_of_lt_of_le hlt g.size⟩)
  clear hp hk hD
  go_enter Try.func32, Try.ntmps32
  go_wp2_with (at_range; refine wpList_range_own _ rfl _ 55 rfl 3 61 keyI Try.underlying55 unitElem b N _ rfl hown ?_; intro w0 hrg0 hg0 hs0)
  go_frame
  go_loopw [8] (fun _ wr => ∃ (left : Lit → Bool) (cnt : Nat), wr.ranges Try.prog 3 unitElem b w.heap.size N (Fk (isK own) es left) left cnt ∧ w.grownBy wr (some b)) (fun _ wr => wr.rangeLeft b w.heap.size)
  case atStart => exact ⟨_, _, by rw [Fk_start hkeys]; exact hrg0, hg0.but _⟩
  case round =>
    obtain ⟨left, cnt, hrg, hgw⟩ := hrel
    go_wp2_with (at_next; refine wpList_next_ranges _ rfl _ rfl 3 keyI unitElem id id (fun key _ _ => ⟨key, rfl⟩) (fun v _ _ => ⟨v, rfl⟩) b w.heap.size N _ _ _ rfl hrg ?_ ?_)
    · intro _ hl0
      go_wp2_with fail
      go_end0
      exact ⟨rfl, ⟨_, by rw [← Fk_end hl0]; exact hrg.owns, HS.out⟩, hgw⟩
    · intro x c kl yd yp w1 cnt1 hkey hlx hv hat hrg1 hlt1 hg1 hs1 hen
      have hgw1 := hgw.andThen hg1 (fun j hj => by cases hj; exact Or.inl (Nat.le_refl _))
      obtain ⟨k, hx1, hx2, hx3⟩ := Maps.keyOf_i64 Try.underlying3 hkey
      obtain ⟨hc1, hc2⟩ := unitElem_inv hv
      subst hx1 hx2 hc1
      have B0 : Below w1.heap.size w1 (w1.alloc (.cells #[] 61)) := (Below.refl _ _).alloc (Nat.le_refl _) _
      have hga : w1.grownBy (w1.alloc (.cells #[] 61)) none := ⟨B0.os, B0.tape, B0.output, B0.size, fun g hg _ => B0.block g hg⟩
      have hgwa := hgw1.andThen hga (fun j hj => by cases hj)
      obtain ⟨hq, hql⟩ := HP.out _ hgwa
      have hc := edges1_any own k pb _ hq hql
      have hrga := hrg1.kept hga (by simp) (by simp)
      clear B0
      cases hkk : (k == own) <;> rw [hkk] at hc
      · have HC := Lib.hid hc
        have hpd : isK own (.int .i64 k) yd = false := by rw [isK_eq, hkk]
        clear hc hq
        go_wp2_with (go_at_call 33; refine HC.out.mono ?_; rintro e w2 ⟨rfl, hg2⟩)
        have hrg2 := hrga.kept hg2 (by simp) (by simp)
        go_roundw
        case rel => exact ⟨_, cnt1, by rw [← Fk_stays hap (keyI.key hkey) hlx hpd hat]; exact hrg2, hgwa.andThen hg2 (fun j hj => by cases hj)⟩
        case measure => rw [hrg2.left_eq, hrg.left_eq]; exact hlt1
      · have HC := Lib.hid hc
        have hpd : isK own (.int .i64 k) yd = true := by rw [isK_eq, hkk]
        clear hc hq
        go_wp2_with (first
          | (go_at_call 33; refine HC.out.mono ?_; rintro e w2 ⟨rfl, hg2⟩; have hrg2 := hrga.kept hg2 (by simp) (by simp))
          | (at_delete; refine wpList_delete_ranges _ rfl _ _ 55 3 rfl 61 keyI Try.underlying55 unitElem b w.heap.size N _ _ _ rfl hrg2 _ _ rfl hkey ?_; intro w3 cnt3 hrg3 hle hturn; go_frame))
        rw [strike_twice] at hrg3
        go_roundw
        case rel => exact ⟨_, cnt3, by rw [← Fk_struck hap (keyI.key hkey) hlx hpd hat]; exact hrg3, (hgwa.andThen hg2 (fun j hj => by cases hj)).andThen hturn.grown (fun j hj => by cases hj; exact Or.inr rfl)⟩
        case measure => rw [hrg3.left_eq, hrg.left_eq]; omega
end Go.Proofs.Ytojmcjkeniepcaa.Gr
