/-
  Layer 30: the example; the document's comparison of acts; an act that comes in; the table. Conditions: as each theorem names.
-/
import Derived.Test.YtngeemfcmoahoaaTzC
import Derived.Test.YtngeemfcmoahoaaTzD
import Derived.Test.YtngeemfcmoahoaaShp
import Derived.IntWalk
import Derived.MakeChecks
import Derived.Lib.LaidTab
import Derived.LaidMore
import Derived.Stop.Joined
import Derived.OpenShut
namespace Go.Proofs.Ytngeemfcmoahoaa.Tz
open Go.Proofs
open Go.ChangeShapes Go.WideShapes Go.ChangeAt Go.RowKit Go.Proofs.Ytngeemfcmoahoaa.Kit Go.Proofs.Ytngeemfcmoahoaa.Tx Go.Proofs.Ytngeemfcmoahoaa.Ty

set_option maxRecDepth 100000 in
set_option maxHeartbeats 3200000 in
theorem awake_any (w : World) : Calls Try.prog 5 #[] w fun e w' => e = .returned (.bool true) ∧ Below w.heap.size w w' := by
  have hB := (Below.refl w.heap.size w).alloc (Nat.le_refl _) (.cells #[.int .u8 10, .int .u8 255] 5)
  have hr : Holds (w.alloc (.cells #[.int .u8 10, .int .u8 255] 5)) (w.alloc (.cells #[.int .u8 10, .int .u8 255] 5)).heap.size .u8 (some ⟨w.heap.size, 0, none⟩) [10, 255] := by
    have blk := Block.new w 5 #[.int .u8 10, .int .u8 255]
    intro _
    refine ⟨w.heap.size, 0, rfl, by simp, fun j hj => ?_⟩
    match j, hj with
    | 0, _ => exact blk.cell 0
    | 1, _ => exact blk.cell 1
  have GH := hex_any (some ⟨w.heap.size, 0, none⟩) [10, 255] 2 _ (by simp) (by intro x hx; simp at hx; omega) hr
  rw [show strOfNums (hexL [10, 255]) = ⟨#[48, 97, 102, 102]⟩ by rfl] at GH
  have G := Lib.hid GH
  have HB := Lib.hid hB
  clear GH hB hr
  go_enter Try.func5, Try.ntmps5
  go_wp2_with (go_at_call 6; refine G.out.mono ?_; rintro e w1 ⟨rfl, hb1⟩)
  go_ret
  exact ⟨rfl, HB.out.trans (hb1.mono HB.out.size)⟩

theorem act_err {cs : List Int} {y : Int} (h : actL cs = .error y) : y = 21 ∨ y = 3 := by
  unfold actL at h
  split at h
  · injection h with h; exact .inl h.symm
  · split at h
    · injection h with h; exact .inr h.symm
    · cases h
theorem data_own {w : World} {B : Nat} {v : Value} {xs : List Int} (h : Own w B 5 .u8 v xs) : DataV w v xs := by
  obtain ⟨A, c, rfl, _, _, hr⟩ := h.opened
  exact ⟨A, c, rfl, hr⟩
theorem DataV.below {w w' : World} {v : Value} {xs : List Int} (h : DataV w v xs) (hb : Below w.heap.size w w') : DataV w' v xs := by
  obtain ⟨A, c, rfl, hr⟩ := h
  exact ⟨A, c, rfl, (hr.below hb).more hb.size⟩

set_option maxRecDepth 100000 in
set_option maxHeartbeats 3200000 in
/-- Acts that tell the same are the same. -/
theorem same_eq (a : ActV) (v v2 : Value) (w : World) (h1 : DataV w v a.d) (h2 : DataV w v2 a.d) :
    Calls Try.prog 12 #[actV a v, actV a v2] w fun e w' => e = .returned (.bool true) ∧ Below w.heap.size w w' := by
  obtain ⟨k, m, p, n, u, d⟩ := a
  simp only at h1 h2
  have b0 := Block.new w 40 (actC ⟨k, m, p, n, u, d⟩ v)
  have hB0 := (Below.refl w.heap.size w).alloc (Nat.le_refl _) (.cells (actC ⟨k, m, p, n, u, d⟩ v) 40)
  have hs0 : (w.alloc (.cells (actC ⟨k, m, p, n, u, d⟩ v) 40)).heap.size = w.heap.size + 1 := by simp
  have b1 := Block.new (w.alloc (.cells (actC ⟨k, m, p, n, u, d⟩ v) 40)) 40 (actC ⟨k, m, p, n, u, d⟩ v2)
  have b2 := b0.alloc (.cells (actC ⟨k, m, p, n, u, d⟩ v2) 40)
  have hB1 := hB0.alloc hB0.size (.cells (actC ⟨k, m, p, n, u, d⟩ v2) 40)
  rw [hs0] at b1
  obtain ⟨W1, hW1⟩ : ∃ W1, (w.alloc (.cells (actC ⟨k, m, p, n, u, d⟩ v) 40)).alloc (.cells (actC ⟨k, m, p, n, u, d⟩ v2) 40) = W1 := ⟨_, rfl⟩
  rw [hW1] at b1 b2 hB1
  have HW1 := Lib.hid hW1
  have HB1 := Lib.hid hB1
  have x0 := b2.cell 0
  have x1 := b2.cell 1
  have x2 := b2.cell 2
  have x3 := b2.cell 3
  have x4 := b2.cell 4
  have x5 := b2.cell 5
  have y0 := b1.cell 0
  have y1 := b1.cell 1
  have y2 := b1.cell 2
  have y3 := b1.cell 3
  have y4 := b1.cell 4
  have y5 := b1.cell 5
  unfold actC at x0 x1 x2 x3 x4 x5 y0 y1 y2 y3 y4 y5
  simp only [List.getElem?_toArray, List.getElem?_cons_zero, List.getElem?_cons_succ] at x0 x1 x2 x3 x4 x5 y0 y1 y2 y3 y4 y5
  obtain ⟨A, c, rfl, hr⟩ := h1.below hB1
  obtain ⟨A2, c2, rfl, hr2⟩ := h2.below hB1
  have k1 := conv_bytes Try.underlying22 Try.underlying5 Try.underlying9 W1 A d c _ hr
  have k2 := conv_bytes Try.underlying22 Try.underlying5 Try.underlying9 W1 A2 d c2 _ hr2
  obtain ⟨sd, hsd⟩ : ∃ sd, strOfNums d = sd := ⟨_, rfl⟩
  rw [hsd] at k1 k2
  have kb : (sd.toList == sd.toList) = true := beq_self_eq_true _
  unfold actV
  clear hW1 b0 b1 b2 hB0 hB1 hs0 h1 h2 hr hr2 hsd
  go_enter Try.func12, Try.ntmps12
  go_wp2_with fail
  rw [show (#[.int .u8 k, .int .u8 m, .int .i64 p, .int .i64 n, .int .u64 u, .slice A d.length c] : Array Value) = actC ⟨k, m, p, n, u, d⟩ (.slice A d.length c) from rfl, show (#[.int .u8 k, .int .u8 m, .int .i64 p, .int .i64 n, .int .u64 u, .slice A2 d.length c2] : Array Value) = actC ⟨k, m, p, n, u, d⟩ (.slice A2 d.length c2) from rfl, HW1.out]
  go_wp2_with fail
  simp only [k1, Result.andThen]
  go_wp2_with fail
  go_ret
  exact ⟨rfl, HB1.out⟩

theorem textA_len {r : ActV} (h : OkA r) (hl : r.d.length ≤ 2000) (f : Int) : (textA r f).length ≤ 4001 := by
  obtain ⟨_, h1, h2, h3, h4, _, h6⟩ := h
  unfold textA
  split
  · exact Nat.le_trans (decL_length _ (by omega)) (by omega)
  split
  · exact Nat.le_trans (decL_length _ (by omega)) (by omega)
  split
  · unfold hexL
    split
    · simp
    · rw [flat_length]; omega
  split
  · exact Nat.le_trans (decL_length _ (by omega)) (by omega)
  · exact Nat.le_trans (decL_length _ (by omega)) (by omega)
theorem clearA_len {r : ActV} (hl : r.d.length ≤ 2000) (f : Int) : (clearA r f).d.length ≤ 2000 := by
  unfold clearA
  repeat' split
  all_goals simp
  all_goals omega
theorem fold_len : ∀ (fs : List Int) (l : List Int) (r : ActV), OkA r → r.d.length ≤ 2000 → (fs.foldl stepP (l, r)).1.length ≤ l.length + fs.length * 4002
  | [], l, r, _, _ => by simp
  | f :: fs, l, r, h, hl => by
    have ih := fold_len fs (l ++ 32 :: textA r f) (clearA r f) (h.clear f) (clearA_len hl f)
    have := textA_len h hl f
    rw [List.foldl_cons]
    show (fs.foldl stepP (l ++ 32 :: textA r f, clearA r f)).1.length ≤ _
    rw [List.length_append, List.length_cons] at ih
    rw [List.length_cons]
    omega
theorem line_length {a : ActV} {l : List Int} (hk : 0 ≤ a.k ∧ a.k ≤ 255) (hm : 0 ≤ a.m ∧ a.m ≤ 255) (hv : 0 ≤ a.v) (ho : Octets a.d) (hl : a.d.length ≤ 2000) (h : lineP a = some l) : l.length ≤ 13000 := by
  unfold lineP at h
  split at h
  · cases h
  next hn =>
  split at h
  case isFalse => cases h
  injection h with h
  subst h
  rw [not_or, Bool.not_eq_false] at hn
  obtain ⟨_, hin⟩ := hn
  unfold inA at hin
  simp only [Bool.and_eq_true, decide_eq_true_eq] at hin
  have h1 := fold_len (lettersP a.k) (wordP a.k) a ⟨hk, hm, ⟨by omega, by omega⟩, ⟨by omega, by omega⟩, ⟨hv, by omega⟩, ho, by omega⟩ hl
  have h2 := letters_length a.k
  have h3 := word_length a.k
  unfold sumP
  omega

/-- An act that comes in. -/
def actDs : List Fld := [.i .u8, .i .u8, .i .i64, .i .i64, .i .u64, .s .u8]
structure ActM where
  a : ActV
  A : Option Addr
  c : Nat
def ActM.Ok (m : ActM) : Prop := (0 ≤ m.a.k ∧ m.a.k ≤ 255) ∧ (0 ≤ m.a.m ∧ m.a.m ≤ 255) ∧ 0 ≤ m.a.v ∧ Octets m.a.d ∧ m.a.d.length ≤ maxLen
def ActM.cells (m : ActM) : List Value := [.int .u8 m.a.k, .int .u8 m.a.m, .int .i64 m.a.p, .int .i64 m.a.n, .int .u64 m.a.v, .slice m.A m.a.d.length m.c]
theorem act_of {w : World} {B : Nat} {vs : List FVal} (h : allOk w B actDs vs) : ∃ m : ActM, m.Ok ∧ Holds w B .u8 m.A m.a.d ∧ allCells actDs vs = m.cells := by
  match vs, h with
  | [.i k, .i m, .i p, .i n, .i v, .s A c d], ⟨h0, h1, h2, h3, h4, h5, _⟩ =>
    have b4 := bounds_u64 h4
    refine ⟨⟨⟨k, m, p, n, v, d⟩, A, c⟩, ⟨bounds_u8 h0, bounds_u8 h1, b4.1, fun z hz => bounds_u8 (h5.2.2.1 z hz), Nat.le_trans h5.1 h5.2.1⟩, h5.2.2.2, ?_⟩
    simp [allCells, actDs, fvCells, ActM.cells]

/-- The table, where the program lays it. -/
theorem tab_vars {P : Program} {W : World} {name : String} {k : IntKind} {zs : List Int} {rest : List (String × DataW Unit)} {g : Nat} {t e : TypeId} {n : Nat} {ps : List MemPlace}
    (hg : P.globalNamed name = some g) (hty : (P.globals[g]?).map (·.type) = some t) (ht : P.underlying t = some (.array n e)) (he : P.underlying e = some (.int k)) (hce : P.cellsOf e = 1) (hct : P.cellsOf t = n)
    (h : DataW.LaidVars P W ((name, Lib.tabData k zs) :: rest) ps) : Lib.TabIs P W name k zs := by
  obtain ⟨g', t', cs, fuel, p, q, hg', ht', hv, htr, _, _⟩ := h
  obtain rfl := Option.some.inj (hg.symm.trans hg')
  obtain rfl := Option.some.inj (hty.symm.trans ht')
  have hc := Lib.cells_of_tab ht he hce hct htr
  unfold Lib.TabIs
  rw [hv, ← hc]
theorem tab_tail {P : Program} {W : World} {x : String × DataW Unit} {rest : List (String × DataW Unit)} {ps : List MemPlace} (h : DataW.LaidVars P W (x :: rest) ps) : ∃ q, DataW.LaidVars P W rest q := by
  obtain ⟨g', t', cs, fuel, p, q, hg', ht', hv, htr, hrest, _⟩ := h
  exact ⟨q, hrest⟩
end Go.Proofs.Ytngeemfcmoahoaa.Tz
