/-
  Layer 30, a text among a line's words, as the program takes it: a contract. Conditions: as each theorem names.
-/
import Derived.Test.YtngeemfcmoahoaaTvB
import Derived.Test.YtngeemfcmoahoaaTxB
namespace Go.Proofs.Ytngeemfcmoahoaa.Tv
open Go.ChangeShapes Go.WideShapes Go.ChangeAt Go.RowKit Go.Proofs.Ytngeemfcmoahoaa.Kit Go.Proofs.Ytngeemfcmoahoaa.Tx Go.Proofs.Ytngeemfcmoahoaa.Ty

def TextTo (w : World) (g t : Nat) (cs : List Int) (e : Ending) (w' : World) : Prop :=
  ∃ wt, Took w g t wt ∧ Below wt.heap.size wt w' ∧ if unB cs = true then ∃ v, e = .returned v ∧ Own w' wt.heap.size 5 .u8 v (unL cs) else e = thrownF

set_option maxRecDepth 100000 in
set_option maxHeartbeats 6400000 in
/-- A text, the next word. -/
theorem text_any (g t : Nat) (ws : List (List Int)) (w : World) (h : WordsAt w g ws t) (ht : t < ws.length) (h7 : t < 7) (hl : (ws.getD t []).length ≤ 1000000) (ho : Octets (ws.getD t [])) :
    Calls Try.prog 43 #[.pointer (some ⟨g, 0, none⟩)] w (TextTo w g t (ws.getD t [])) := by
  have GT := Lib.hid (take_ok g t ws w h ht h7)
  have GU := Lib.hid (fun W => unhex_own (strOfNums (ws.getD t [])) W (by rw [strOfNums_size]; exact hl))
  have HN := Lib.hid (nums_str ho)
  obtain ⟨cs, hcs⟩ : ∃ cs, ws.getD t [] = cs := ⟨_, rfl⟩
  rw [hcs] at GT GU HN ⊢
  clear hcs hl ho h
  go_enter Try.func43, Try.ntmps43
  go_wp2_with fail
  refine GT.out.mono ?_
  rintro e w2 ⟨rfl, hT⟩
  have TK := Lib.hid (show Took w g t w2 from hT)
  clear hT
  go_wp2_with fail
  refine (GU.out w2).mono ?_
  rintro e w3 ⟨v, rfl, own, hb⟩
  rw [HN.out] at own ⊢
  have OW := Lib.hid own
  have HB := Lib.hid hb
  obtain ⟨A, c, rfl, _, _, _⟩ := own.opened
  clear own hb
  cases hu : unB cs with
  | true =>
    go_wp2_with fail
    go_ret
    exact ⟨w2, TK.out, HB.out, by rw [if_pos hu]; exact ⟨_, rfl, OW.out⟩⟩
  | false =>
    go_wp2_with fail
    refine ⟨rfl, w2, TK.out, HB.out, ?_⟩
    rw [if_neg (by rw [hu]; decide)]
    rfl
theorem number_none (g t : Nat) (ws : List (List Int)) (w : World) (most : Int) (h : WordsAt w g ws t) (ht : ws.length ≤ t ∨ 7 ≤ t) :
    Calls Try.prog 42 #[.pointer (some ⟨g, 0, none⟩), .int .i64 most] w (NoForm w) := by
  have GT := Lib.hid (take_no g t ws w h ht)
  clear h
  go_enter Try.func42, Try.ntmps42
  go_wp2_with fail
  refine GT.out.mono ?_
  rintro e w2 ⟨rfl, n, rfl⟩
  go_wp2_with fail
  exact ⟨rfl, rfl, n, rfl⟩
theorem text_none (g t : Nat) (ws : List (List Int)) (w : World) (h : WordsAt w g ws t) (ht : ws.length ≤ t ∨ 7 ≤ t) :
    Calls Try.prog 43 #[.pointer (some ⟨g, 0, none⟩)] w (NoForm w) := by
  have GT := Lib.hid (take_no g t ws w h ht)
  clear h
  go_enter Try.func43, Try.ntmps43
  go_wp2_with fail
  refine GT.out.mono ?_
  rintro e w2 ⟨rfl, n, rfl⟩
  go_wp2_with fail
  exact ⟨rfl, rfl, n, rfl⟩
end Go.Proofs.Ytngeemfcmoahoaa.Tv
