/-
  Layer 30, the document's forms: a contract. Conditions: as each theorem names.
-/
import Derived.Test.YtngeemfcmoahoaaTyC
namespace Go.Proofs.Ytngeemfcmoahoaa.Ty
open Go.ChangeShapes Go.WideShapes Go.ChangeAt Go.RowKit Go.Proofs.Ytngeemfcmoahoaa.Kit Go.Proofs.Ytngeemfcmoahoaa.Tx

/-- The form of a first word, and its kind. -/
def formL (w : List Int) : Option (List Int × Int) :=
  if w = [98, 117, 105, 108, 100] then some ([98, 110, 116], 1)
  else if w = [102, 101, 101, 100] then some ([110, 110], 2)
  else if w = [98, 101, 103, 105, 110] then some ([], 3)
  else if w = [99, 111, 109, 109, 105, 116] then some ([], 4)
  else if w = [99, 97, 110, 99, 101, 108] then some ([], 5)
  else if w = [102, 117, 115, 101] then some ([110], 6)
  else if w = [102, 97, 108, 108] then some ([116], 7)
  else if w = [115, 112, 111, 105, 108] then some ([110, 110, 98], 8)
  else if w = [105, 109, 97, 103, 101] then some ([], 9)
  else if w = [115, 116, 97, 116, 117, 115] then some ([], 10)
  else none
theorem toList_ne {s : ByteArray} {l : List UInt8} (h : numsOf s ≠ l.map fun b => (b.toNat : Int)) : (s.toList == l) = false := by
  rw [beq_eq_false_iff_ne]
  intro h1
  apply h
  unfold numsOf
  rw [← ByteArray.toList_eq, h1]
theorem toList_yes {s : ByteArray} {l : List UInt8} (h : numsOf s = l.map fun b => (b.toNat : Int)) : (s.toList == l) = true := by
  rw [beq_iff_eq, ByteArray.toList_eq]
  unfold numsOf at h
  have key : ∀ (a b : List UInt8), (a.map fun b => (b.toNat : Int)) = (b.map fun b => (b.toNat : Int)) → a = b := by
    intro a
    induction a with
    | nil => intro b hb; cases b with | nil => rfl | cons _ _ => simp at hb
    | cons x a ih =>
      intro b hb
      cases b with
      | nil => simp at hb
      | cons y b =>
        simp only [List.map_cons, List.cons.injEq] at hb
        rw [ih b hb.2, UInt8.toNat_inj.1 (by omega : x.toNat = y.toNat)]
  exact key _ _ h
theorem nums_eq {s : ByteArray} {xs : List Int} (h : numsOf s = xs) : s = strOfNums xs := by rw [← h, str_nums]
/-- What form answers. -/
def FormTo (s : ByteArray) (w : World) (e : Ending) (w' : World) : Prop :=
  match formL (numsOf s) with
  | some (f, k) => e = .returned (.tuple #[.string (strOfNums f), .int .u8 k, .bool true]) ∧ w = w'
  | none => e = .returned (.tuple #[.string ⟨#[]⟩, .int .u8 0, .bool false]) ∧ w = w'

set_option maxRecDepth 100000 in
set_option maxHeartbeats 6400000 in
theorem rform_any (s : ByteArray) (w : World) : Calls Try.prog 48 #[.string s] w (FormTo s w) := by
  by_cases h0 : numsOf s = [98, 117, 105, 108, 100]
  · have d0 := toList_yes (s := s) (l := [98, 117, 105, 108, 100]) h0
    have HE := Lib.hid (show formL (numsOf s) = some ([98, 110, 116], 1) by unfold formL; rw [if_pos h0])
    clear h0
    go_enter Try.func48, Try.ntmps48
    go_wp2
    refine bodyPost_ret (v := .tuple #[.string (strOfNums [98, 110, 116]), .int .u8 1, .bool true]) (by simp [results, Try.results48, go_sem]; rfl) rfl ?_
    unfold FormTo
    rw [HE.out]
    exact ⟨rfl, rfl⟩
  have d0 := toList_ne (s := s) (l := [98, 117, 105, 108, 100]) h0
  by_cases h1 : numsOf s = [102, 101, 101, 100]
  · have d1 := toList_yes (s := s) (l := [102, 101, 101, 100]) h1
    have HE := Lib.hid (show formL (numsOf s) = some ([110, 110], 2) by unfold formL; rw [if_neg h0, if_pos h1])
    clear h0 h1
    go_enter Try.func48, Try.ntmps48
    go_wp2
    refine bodyPost_ret (v := .tuple #[.string (strOfNums [110, 110]), .int .u8 2, .bool true]) (by simp [results, Try.results48, go_sem]; rfl) rfl ?_
    unfold FormTo
    rw [HE.out]
    exact ⟨rfl, rfl⟩
  have d1 := toList_ne (s := s) (l := [102, 101, 101, 100]) h1
  by_cases h2 : numsOf s = [98, 101, 103, 105, 110]
  · have d2 := toList_yes (s := s) (l := [98, 101, 103, 105, 110]) h2
    have HE := Lib.hid (show formL (numsOf s) = some ([], 3) by unfold formL; rw [if_neg h0, if_neg h1, if_pos h2])
    clear h0 h1 h2
    go_enter Try.func48, Try.ntmps48
    go_wp2
    refine bodyPost_ret (v := .tuple #[.string (strOfNums []), .int .u8 3, .bool true]) (by simp [results, Try.results48, go_sem]; rfl) rfl ?_
    unfold FormTo
    rw [HE.out]
    exact ⟨rfl, rfl⟩
  have d2 := toList_ne (s := s) (l := [98, 101, 103, 105, 110]) h2
  by_cases h3 : numsOf s = [99, 111, 109, 109, 105, 116]
  · have d3 := toList_yes (s := s) (l := [99, 111, 109, 109, 105, 116]) h3
    have HE := Lib.hid (show formL (numsOf s) = some ([], 4) by unfold formL; rw [if_neg h0, if_neg h1, if_neg h2, if_pos h3])
    clear h0 h1 h2 h3
    go_enter Try.func48, Try.ntmps48
    go_wp2
    refine bodyPost_ret (v := .tuple #[.string (strOfNums []), .int .u8 4, .bool true]) (by simp [results, Try.results48, go_sem]; rfl) rfl ?_
    unfold FormTo
    rw [HE.out]
    exact ⟨rfl, rfl⟩
  have d3 := toList_ne (s := s) (l := [99, 111, 109, 109, 105, 116]) h3
  by_cases h4 : numsOf s = [99, 97, 110, 99, 101, 108]
  · have d4 := toList_yes (s := s) (l := [99, 97, 110, 99, 101, 108]) h4
    have HE := Lib.hid (show formL (numsOf s) = some ([], 5) by unfold formL; rw [if_neg h0, if_neg h1, if_neg h2, if_neg h3, if_pos h4])
    clear h0 h1 h2 h3 h4
    go_enter Try.func48, Try.ntmps48
    go_wp2
    refine bodyPost_ret (v := .tuple #[.string (strOfNums []), .int .u8 5, .bool true]) (by simp [results, Try.results48, go_sem]; rfl) rfl ?_
    unfold FormTo
    rw [HE.out]
    exact ⟨rfl, rfl⟩
  have d4 := toList_ne (s := s) (l := [99, 97, 110, 99, 101, 108]) h4
  by_cases h5 : numsOf s = [102, 117, 115, 101]
  · have d5 := toList_yes (s := s) (l := [102, 117, 115, 101]) h5
    have HE := Lib.hid (show formL (numsOf s) = some ([110], 6) by unfold formL; rw [if_neg h0, if_neg h1, if_neg h2, if_neg h3, if_neg h4, if_pos h5])
    clear h0 h1 h2 h3 h4 h5
    go_enter Try.func48, Try.ntmps48
    go_wp2
    refine bodyPost_ret (v := .tuple #[.string (strOfNums [110]), .int .u8 6, .bool true]) (by simp [results, Try.results48, go_sem]; rfl) rfl ?_
    unfold FormTo
    rw [HE.out]
    exact ⟨rfl, rfl⟩
  have d5 := toList_ne (s := s) (l := [102, 117, 115, 101]) h5
  by_cases h6 : numsOf s = [102, 97, 108, 108]
  · have d6 := toList_yes (s := s) (l := [102, 97, 108, 108]) h6
    have HE := Lib.hid (show formL (numsOf s) = some ([116], 7) by unfold formL; rw [if_neg h0, if_neg h1, if_neg h2, if_neg h3, if_neg h4, if_neg h5, if_pos h6])
    clear h0 h1 h2 h3 h4 h5 h6
    go_enter Try.func48, Try.ntmps48
    go_wp2
    refine bodyPost_ret (v := .tuple #[.string (strOfNums [116]), .int .u8 7, .bool true]) (by simp [results, Try.results48, go_sem]; rfl) rfl ?_
    unfold FormTo
    rw [HE.out]
    exact ⟨rfl, rfl⟩
  have d6 := toList_ne (s := s) (l := [102, 97, 108, 108]) h6
  by_cases h7 : numsOf s = [115, 112, 111, 105, 108]
  · have d7 := toList_yes (s := s) (l := [115, 112, 111, 105, 108]) h7
    have HE := Lib.hid (show formL (numsOf s) = some ([110, 110, 98], 8) by unfold formL; rw [if_neg h0, if_neg h1, if_neg h2, if_neg h3, if_neg h4, if_neg h5, if_neg h6, if_pos h7])
    clear h0 h1 h2 h3 h4 h5 h6 h7
    go_enter Try.func48, Try.ntmps48
    go_wp2
    refine bodyPost_ret (v := .tuple #[.string (strOfNums [110, 110, 98]), .int .u8 8, .bool true]) (by simp [results, Try.results48, go_sem]; rfl) rfl ?_
    unfold FormTo
    rw [HE.out]
    exact ⟨rfl, rfl⟩
  have d7 := toList_ne (s := s) (l := [115, 112, 111, 105, 108]) h7
  by_cases h8 : numsOf s = [105, 109, 97, 103, 101]
  · have d8 := toList_yes (s := s) (l := [105, 109, 97, 103, 101]) h8
    have HE := Lib.hid (show formL (numsOf s) = some ([], 9) by unfold formL; rw [if_neg h0, if_neg h1, if_neg h2, if_neg h3, if_neg h4, if_neg h5, if_neg h6, if_neg h7, if_pos h8])
    clear h0 h1 h2 h3 h4 h5 h6 h7 h8
    go_enter Try.func48, Try.ntmps48
    go_wp2
    refine bodyPost_ret (v := .tuple #[.string (strOfNums []), .int .u8 9, .bool true]) (by simp [results, Try.results48, go_sem]; rfl) rfl ?_
    unfold FormTo
    rw [HE.out]
    exact ⟨rfl, rfl⟩
  have d8 := toList_ne (s := s) (l := [105, 109, 97, 103, 101]) h8
  by_cases h9 : numsOf s = [115, 116, 97, 116, 117, 115]
  · have d9 := toList_yes (s := s) (l := [115, 116, 97, 116, 117, 115]) h9
    have HE := Lib.hid (show formL (numsOf s) = some ([], 10) by unfold formL; rw [if_neg h0, if_neg h1, if_neg h2, if_neg h3, if_neg h4, if_neg h5, if_neg h6, if_neg h7, if_neg h8, if_pos h9])
    clear h0 h1 h2 h3 h4 h5 h6 h7 h8 h9
    go_enter Try.func48, Try.ntmps48
    go_wp2
    refine bodyPost_ret (v := .tuple #[.string (strOfNums []), .int .u8 10, .bool true]) (by simp [results, Try.results48, go_sem]; rfl) rfl ?_
    unfold FormTo
    rw [HE.out]
    exact ⟨rfl, rfl⟩
  have d9 := toList_ne (s := s) (l := [115, 116, 97, 116, 117, 115]) h9
  have HE := Lib.hid (show formL (numsOf s) = none by unfold formL; rw [if_neg h0, if_neg h1, if_neg h2, if_neg h3, if_neg h4, if_neg h5, if_neg h6, if_neg h7, if_neg h8, if_neg h9])
  clear h0 h1 h2 h3 h4 h5 h6 h7 h8 h9
  go_enter Try.func48, Try.ntmps48
  go_wp2
  refine bodyPost_ret (v := .tuple #[.string ⟨#[]⟩, .int .u8 0, .bool false]) (by simp [results, Try.results48, go_sem]) rfl ?_
  unfold FormTo
  rw [HE.out]
  exact ⟨rfl, rfl⟩
end Go.Proofs.Ytngeemfcmoahoaa.Ty
