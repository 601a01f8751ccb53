/-
  Layer 15, match.Find: what is found of any two images: a contract. Conditions: as each theorem names.
  Layer 15: whether a row stands in an image, the document's: a contract. Conditions: as each theorem names.
-/
import Derived.Test.YtlcnbepldkbkgaaMMxC
import Derived.Deep.QuietTactic
import Derived.BigQuiet
import Derived.Lib.QuietBelow
namespace Go.Proofs.Ytlcnbepldkbkgaa.Mx
open Go.ChangeShapes Go.WideShapes Go.ChangeAt Go.RowKit Go.Proofs.Ytlcnbepldkbkgaa.Kit Go.Proofs.Ytlcnbepldkbkgaa.Sx Go.Proofs.Ytlcnbepldkbkgaa.Mt

theorem runL_one {old new : Int} : ∀ {ps : List Pc} {e f : Int}, runL old new e ps f → ∀ p ∈ ps, oneB old new p = true
  | [], _, _, _, p, hp => by simp at hp
  | q :: qs, _, _, h, p, hp => by
    rcases List.mem_cons.1 hp with rfl | hp
    · exact h.1
    · exact runL_one h.2.2 p hp
theorem FoundL.ok {xs ys : List Int} {ps : List Pc} {e i : Nat} (h : FoundL xs ys ps e i) (hx : xs.length ≤ 1000000) (hy : ys.length ≤ 1000000) : ∀ p ∈ ps, PcOk p := fun p hp => by
  have h1 := one_bd (runL_one h.run p hp)
  exact ⟨by omega, by omega, by omega⟩
theorem FoundL.same {xs ys : List Int} {ps : List Pc} {e i : Nat} (h : FoundL xs ys ps e i) {p : Pc} (hp : p ∈ ps) : p.l ≤ 2 * sameL xs ys p := by
  unfold sameL
  rw [if_pos (runL_one h.run p hp)]
  exact h.half p hp
theorem sameL_bd (xs ys : List Int) (p : Pc) : 0 ≤ sameL xs ys p ∧ (sameL xs ys p ≤ p.l ∨ sameL xs ys p = 0) := by
  unfold sameL
  split
  · next h =>
    have h1 := one_bd h
    have h2 := sameN_le xs ys p.o.toNat p.n.toNat p.l.toNat
    omega
  · omega

set_option maxRecDepth 100000 in
set_option maxHeartbeats 3200000 in
theorem find_empty {w : World} {xs : List Int} (A1 A2 : Option Addr) (ca cb : Nat) (hx : Holds w w.heap.size .u8 A1 xs) (hxl : xs.length ≤ 100000) (ox : Octets xs) :
    Calls Try.prog 18 #[.slice A1 xs.length ca, .slice A2 0 cb] w fun e w' => e = .returned (.slice none 0 0) ∧ Below w.heap.size w w' := by
  have GN := Lib.hid (new_any A1 xs ca w (by omega) ox hx)
  clear hx
  go_enter Try.func18, Try.ntmps18
  go_wp2_with (first | (go_at_call 23; refine GN.out.mono ?_; rintro e w1 ⟨g, T, rfl, hid, hb⟩; clear hid))
  go_loop [7, 9] (fun l i => l = .slice none 0 0 ∧ i = .int .i64 0) (fun _ _ => 0)
  case atStart => exact ⟨rfl, rfl⟩
  case round =>
    obtain ⟨rfl, rfl⟩ := hrel
    go_wp2_with fail
    go_ret
    exact ⟨rfl, hb⟩

theorem find_cap {w : World} {xs ys : List Int} (A1 A2 : Option Addr) (ca cb : Nat) (hx : Holds w w.heap.size .u8 A1 xs) (hy : Holds w w.heap.size .u8 A2 ys) (hxl : xs.length ≤ 100000) (hyl : ys.length ≤ 100000) (ox : Octets xs) (oy : Octets ys) (hcb : ys.length ≤ cb) :
    Calls Try.prog 18 #[.slice A1 xs.length ca, .slice A2 ys.length cb] w fun e w' => ∃ (A : Option Addr) (c : Nat) (ps : List Pc) (e9 : Nat), e = .returned (.slice A ps.length c) ∧ FoundL xs ys ps e9 ys.length ∧ HoldsP w' w'.heap.size A ps ∧ ps.length ≤ c ∧ Below w.heap.size w w' := by
  by_cases h0 : 0 < ys.length
  · by_cases he : xs = ys
    · have h1 := found_one he h0
      subst he
      refine (find_same A1 A2 xs ca cb w h0 (by omega) hx hy).mono ?_
      rintro e w' ⟨rfl, rfl⟩
      have blk := Block.new w 46 #[.int .i64 0, .int .i64 0, .int .i64 xs.length]
      refine ⟨_, _, [⟨0, 0, xs.length⟩], _, rfl, h1, ?_, by simp, (Below.refl _ _).alloc (Nat.le_refl _) _⟩
      intro _
      refine ⟨_, 0, rfl, by simp, fun i p hi => ?_⟩
      rcases i with _ | i
      · obtain rfl : _ = p := by simpa using hi
        exact ⟨blk.cell 0, blk.cell 1, blk.cell 2⟩
      · simp at hi
    · exact find_some A1 A2 ca cb hx hy hxl hyl ox oy hcb h0 he
  · have h1 : ys.length = 0 := by omega
    obtain rfl : ys = [] := List.eq_nil_of_length_eq_zero h1
    refine (find_empty A1 A2 ca cb hx hxl ox).mono ?_
    rintro e w' ⟨rfl, hb⟩
    exact ⟨none, 0, [], 0, rfl, FoundL.nil xs [], fun h => absurd h (by simp), by simp, hb⟩
theorem find_any {w : World} {xs ys : List Int} (A1 A2 : Option Addr) (ca cb : Nat) (hx : Holds w w.heap.size .u8 A1 xs) (hy : Holds w w.heap.size .u8 A2 ys) (hxl : xs.length ≤ 100000) (hyl : ys.length ≤ 100000) (ox : Octets xs) (oy : Octets ys) (hcb : ys.length ≤ cb) :
    Calls Try.prog 18 #[.slice A1 xs.length ca, .slice A2 ys.length cb] w fun e w' => ∃ (A : Option Addr) (c : Nat) (ps : List Pc) (e9 : Nat), e = .returned (.slice A ps.length c) ∧ FoundL xs ys ps e9 ys.length ∧ HoldsP w' w'.heap.size A ps ∧ Below w.heap.size w w' := by
  refine (find_cap A1 A2 ca cb hx hy hxl hyl ox oy hcb).mono ?_
  rintro e w' ⟨A, c, ps, e9, h1, h2, h3, _, h4⟩
  exact ⟨A, c, ps, e9, h1, h2, h3, h4⟩
end Go.Proofs.Ytlcnbepldkbkgaa.Mx

namespace Go.Proofs.Ytlcnbepldkbkgaa.Mx
open Go.ChangeShapes Go.WideShapes Go.ChangeAt Go.RowKit Go.Proofs.Ytlcnbepldkbkgaa.Kit Go.Proofs.Ytlcnbepldkbkgaa.Sx Go.Proofs.Ytlcnbepldkbkgaa.Mt

theorem holds_cut {w : World} {B : Nat} {k : IntKind} {b off : Nat} {xs : List Int} (h : Holds w B k (some ⟨b, off, none⟩) xs) (p m : Nat) : Holds w B k (some ⟨b, off + p, none⟩) ((xs.drop p).take m) := by
  intro hx
  rw [List.length_take, List.length_drop] at hx
  obtain ⟨b2, o2, hA, hb, hc⟩ := h (by omega)
  injection hA with hA
  injection hA with e1 e2
  subst e1 e2
  refine ⟨b, off + p, rfl, hb, fun j hj => ?_⟩
  rw [List.length_take, List.length_drop] at hj
  rw [Nat.add_assoc, hc (p + j) (by omega)]
  simp [List.getD, List.getElem?_drop, List.getElem?_take, show j < m by omega]

def StandsR (xs zs : List Int) (e : Ending) : Prop := ∃ s : Bool, e = .returned (.bool s) ∧ (s = true → ∃ k, k + zs.length ≤ xs.length ∧ (xs.drop k).take zs.length = zs)

theorem cut_get {xs ys : List Int} {k a m : Nat} (h : (xs.drop k).take m = (ys.drop a).take m) {j : Nat} (hj : j < m) : xs.getD (k + j) 0 = ys.getD (a + j) 0 := by
  have h1 := congrArg (fun l => l[j]?.getD 0) h
  simpa [List.getD, List.getElem?_take, List.getElem?_drop, hj] using h1
theorem met_at {xs ys : List Int} {ps : List Pc} {e a k : Nat} (h : FoundL xs ys ps e ys.length) (ha : a + 32 ≤ ys.length) (hk : k + 32 ≤ xs.length) (hq : (xs.drop k).take 32 = (ys.drop a).take 32) :
    ∃ (i : Nat) (hi : i < ps.length), ps[i].n < (a : Int) + 32 ∧ (a : Int) < ps[i].n + ps[i].l := by
  obtain ⟨p, hp, h1, h2⟩ := h.met ha hk (fun j hj => cut_get hq hj)
  obtain ⟨i, hi, rfl⟩ := List.getElem_of_mem hp
  exact ⟨i, hi, h1, h2⟩
end Go.Proofs.Ytlcnbepldkbkgaa.Mx
