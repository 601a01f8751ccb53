/-
  LzExpands: the walk: the text of any tokens, with any most, or the error, is the document's.
-/
import Derived.Test.YthicgcgohpakgaaLzA
import Derived.Test.YthicgcgohpakgaaRec
namespace Go.Proofs.Ythicgcgohpakgaa.LzExpands
open Go.ChangeShapes Go.WideShapes Go.ChangeAt Go.RowKit Go.Proofs.Ythicgcgohpakgaa.Kit Go.Proofs.Ythicgcgohpakgaa.Lz

def toTok (row : List Int) : Tok := ⟨row[0]?.getD 0, row[1]?.getD 0, row[2]?.getD 0⟩

theorem toks_hold {w : World} {B : Nat} {A : Option Addr} {rows : List (List Int)} (h : HoldsR w B [.u8, .i64, .i64] A rows) : HoldsT w B A (rows.map toTok) := by
  intro hx
  obtain ⟨b, off, e, hB, hc⟩ := h (by simpa using hx)
  refine ⟨b, off, e, hB, fun j t hj => ?_⟩
  rw [List.getElem?_map] at hj
  obtain ⟨row, hr, rfl⟩ := Option.map_eq_some_iff.1 hj
  exact ⟨hc j row hr 0 _ rfl, hc j row hr 1 _ rfl, hc j row hr 2 _ rfl⟩

set_option maxHeartbeats 1600000 in
theorem walk (A : Option Addr) (rows : List (List Int)) (c : Nat) (most : Int) (w : World) (hl : rows.length ≤ c) (hx : c ≤ maxLen) (hr : HoldsR w w.heap.size [.u8, .i64, .i64] A rows)
    (hw : ∀ (i : Nat) (row : List Int), rows[i]? = some row → row.length = [IntKind.u8, .i64, .i64].length ∧ ∀ (j : Nat) (k : IntKind), [IntKind.u8, .i64, .i64][j]? = some k → (Lit.int k (row[j]?.getD 0)).wf = true)
    (wm : (Lit.int .i64 most).wf = true) :
    Calls Try.prog 3 #[.slice A rows.length c, .int .i64 most] w fun e w' => e = .returned (.bool true) ∧ Below w.heap.size w w' := by
  unfold maxLen at hx
  clear wm
  by_cases h5 : rows.length ≤ 60
  · have hlen : (rows.map toTok).length = rows.length := by simp
    have ht := toks_hold hr
    have hok : ∀ t ∈ rows.map toTok, TokOk t := by
      intro t h
      obtain ⟨row, hm, rfl⟩ := List.mem_map.1 h
      obtain ⟨i, hi, he⟩ := List.mem_iff_getElem.1 hm
      have h2 := (hw i row (by rw [List.getElem?_eq_getElem hi, he])).2
      exact ⟨bounds_u8 (h2 0 _ rfl), bounds_i64 (h2 1 _ rfl), bounds_i64 (h2 2 _ rfl)⟩
    have g1 := fun W h => expand_any A (rows.map toTok) c most W (by omega) hok h
    have g2 := fun W h => rexpand_any A (rows.map toTok) c most W (by omega) hok h
    rw [hlen] at g1 g2
    generalize rows.map toTok = ts at *
    generalize expand most ts [] = R at *
    obtain ⟨xs, n⟩ := R
    have G1 := Lib.hid g1
    have G2 := Lib.hid g2
    clear g1 g2 hlen hok hw hr
    go_enter Try.func3, Try.ntmps3
    go_wp2_with (first
      | (go_at_call 8; refine (G1.out _ ht).mono ?_; rintro e w1 ⟨A1, c1, rfl, hl1, hm1, hr1, hb1⟩)
      | (go_at_call 9; refine (G2.out _ (fun h => by obtain ⟨b, off, e, hB, hc⟩ := (ht.below hb1) h; exact ⟨b, off, e, by have := hb1.size; omega, hc⟩)).mono ?_; rintro e w2 ⟨A2, c2, rfl, hl2, hm2, hr2, hb2⟩; have v1 := conv_any w2 A1 xs c1 _ (hr1.below hb2); have v2 := conv_any w2 A2 xs c2 _ hr2)
      | (go_at_call 7; refine (awake_any _).mono ?_; rintro e w3 ⟨rfl, hb3⟩))
    go_ret
    exact ⟨rfl, hb1.trans ((hb2.trans (hb3.mono hb2.size)).mono hb1.size)⟩
  · go_enter Try.func3, Try.ntmps3
    go_wp2_with (go_at_call 7; refine (awake_any _).mono ?_; rintro e w1 ⟨rfl, hb1⟩)
    go_ret
    exact ⟨rfl, hb1⟩
end Go.Proofs.Ythicgcgohpakgaa.LzExpands
