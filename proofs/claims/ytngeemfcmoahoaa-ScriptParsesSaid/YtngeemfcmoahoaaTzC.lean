/-
  Layer 30, the line of an act: its contract. Conditions: as each theorem names.
-/
import Derived.Test.YtngeemfcmoahoaaTzB
import Derived.Lib.ConvBytes
import Derived.Lib.AtoiErrMem
namespace Go.Proofs.Ytngeemfcmoahoaa.Tz
open Go.Proofs
open Go.ChangeShapes Go.WideShapes Go.ChangeAt Go.RowKit Go.Proofs.Ytngeemfcmoahoaa.Kit Go.Proofs.Ytngeemfcmoahoaa.Tx Go.Proofs.Ytngeemfcmoahoaa.Ty

def DataV (w : World) (v : Value) (xs : List Int) : Prop := ∃ A c, v = .slice A xs.length c ∧ Holds w w.heap.size .u8 A xs
/-- What an act's numbers may be. -/
def OkA (a : ActV) : Prop := (0 ≤ a.k ∧ a.k ≤ 255) ∧ (0 ≤ a.m ∧ a.m ≤ 255) ∧ (0 ≤ a.p ∧ a.p ≤ 2147483647) ∧ (0 ≤ a.n ∧ a.n ≤ 2147483647) ∧ (0 ≤ a.v ∧ a.v ≤ 2147483647) ∧ Octets a.d ∧ a.d.length ≤ 100000
def actC (a : ActV) (v : Value) : Array Value := #[.int .u8 a.k, .int .u8 a.m, .int .i64 a.p, .int .i64 a.n, .int .u64 a.v, v]
def MidL (w wr : World) (a : ActV) (j : Nat) (l : List Int) (r : ActV) (v : Value) : Prop :=
  ((lettersP a.k).take j).foldl stepP (wordP a.k, a) = (l, r) ∧ Block wr w.heap.size 40 (actC r v) ∧ DataV w v r.d ∧ (∀ i, i < (lettersP a.k).length → wr.cell? ⟨w.heap.size + 1, i, none⟩ = some (.int .u8 ((lettersP a.k).getD i 0))) ∧ Below w.heap.size w wr ∧ w.heap.size + 2 ≤ wr.heap.size ∧ OkA r ∧ l.length ≤ 6 + j * 200020
theorem hexL_length (xs : List Int) (h : xs.length ≤ 100000) : (hexL xs).length ≤ 200000 := by
  unfold hexL
  split
  · simp
  · rw [flat_length]; omega
theorem text_length {r : ActV} (h : OkA r) (f : Int) : (textA r f).length ≤ 200000 := by
  obtain ⟨_, h1, h2, h3, h4, _, h6⟩ := h
  unfold textA
  split
  · exact Nat.le_trans (decL_length _ (by omega)) (by omega)
  split
  · exact Nat.le_trans (decL_length _ (by omega)) (by omega)
  split
  · exact hexL_length _ h6
  split
  · exact Nat.le_trans (decL_length _ (by omega)) (by omega)
  · exact Nat.le_trans (decL_length _ (by omega)) (by omega)
theorem OkA.clear {r : ActV} (h : OkA r) (f : Int) : OkA (clearA r f) := by
  obtain ⟨h0, h1, h2, h3, h4, h5, h6⟩ := h
  unfold clearA OkA
  split
  · exact ⟨h0, ⟨Int.le_refl _, (show (0 : Int) ≤ 255 by decide)⟩, h2, h3, h4, h5, h6⟩
  split
  · exact ⟨h0, h1, h2, h3, ⟨Int.le_refl _, (show (0 : Int) ≤ 2147483647 by decide)⟩, h5, h6⟩
  split
  · exact ⟨h0, h1, h2, h3, h4, (fun x hx => by simp at hx), by simp⟩
  split
  · exact ⟨h0, h1, ⟨Int.le_refl _, (show (0 : Int) ≤ 2147483647 by decide)⟩, h3, h4, h5, h6⟩
  · exact ⟨h0, h1, h2, ⟨Int.le_refl _, (show (0 : Int) ≤ 2147483647 by decide)⟩, h4, h5, h6⟩
theorem MidL.next {w wr w' : World} {a : ActV} {j : Nat} {l : List Int} {r : ActV} {v v' : Value} (h : MidL w wr a j l r v) (hj : j < (lettersP a.k).length) (f : Int) (hf : (lettersP a.k).getD j 0 = f)
    (hb : Block w' w.heap.size 40 (actC (clearA r f) v')) (hd : DataV w v' (clearA r f).d) (hB : Below w.heap.size w w') (hs : wr.heap.size ≤ w'.heap.size)
    (hc : ∀ i, w'.cell? ⟨w.heap.size + 1, i, none⟩ = wr.cell? ⟨w.heap.size + 1, i, none⟩) : MidL w w' a (j + 1) (l ++ 32 :: textA r f) (clearA r f) v' := by
  obtain ⟨h1, _, _, h4, _, h6, h7, h8⟩ := h
  refine ⟨?_, hb, hd, (fun i hi => (hc i).trans (h4 i hi)), hB, Nat.le_trans h6 hs, h7.clear f, ?_⟩
  · rw [List.take_succ_eq_append_getElem hj, List.foldl_append, h1]
    rw [List.getD_eq_getElem?_getD, List.getElem?_eq_getElem hj] at hf
    have hf' : (lettersP a.k)[j] = f := hf
    rw [hf']
    rfl
  · have := text_length h7 f
    rw [List.length_append, List.length_cons]
    omega
def LineTo (a : ActV) (w : World) (e : Ending) (w' : World) : Prop :=
  Below w.heap.size w w' ∧ match lineP a with
  | none => e = .returned (.tuple #[.string ⟨#[]⟩, .bool false])
  | some l => e = .returned (.tuple #[.string (strOfNums l), .bool true])
theorem str_empty : ((⟨#[]⟩ : ByteArray).toList == []) = true := by rw [ByteArray.toList_eq]; rfl

end Go.Proofs.Ytngeemfcmoahoaa.Tz
