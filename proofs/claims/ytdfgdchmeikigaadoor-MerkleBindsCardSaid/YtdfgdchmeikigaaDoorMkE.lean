/-
  Layer 21, merkle: the document's sum of two sums; lists of sums; the root: plain words, contracts. Conditions: as each theorem names.
-/
import Derived.Test.YtdfgdchmeikigaaDoorMkD
import Derived.Test.YtdfgdchmeikigaaDoorMkL
namespace Go.Proofs.YtdfgdchmeikigaaDoor.Mk
open Go.ChangeShapes Go.WideShapes Go.ChangeAt Go.RowKit Go.Proofs.YtdfgdchmeikigaaDoor.Kit Go.Proofs.YtdfgdchmeikigaaDoor.Sha

set_option maxRecDepth 100000 in
set_option maxHeartbeats 1600000 in
theorem rpair_any (a b : List Int) (w : World) (ha : D32 a) (hb : D32 b) :
    Calls Tryd.prog 32 #[.agg (a.map (Value.int .u8)).toArray, .agg (b.map (Value.int .u8)).toArray] w (Sums (pairL a b) w) := by
  have h1 : ∀ o, Arr (((w.alloc (.cells (a.map (Value.int .u8)).toArray 24)).alloc (.cells (b.map (Value.int .u8)).toArray 24)).alloc o) w.heap.size 24 .u8 a := fun o => ((Arr.new w _ .u8 a).alloc _).alloc o
  have h2 : ∀ o, Arr (((w.alloc (.cells (a.map (Value.int .u8)).toArray 24)).alloc (.cells (b.map (Value.int .u8)).toArray 24)).alloc o) (w.heap.size + 1) 24 .u8 b := fun o => by
    have := Arr.new (w.alloc (.cells (a.map (Value.int .u8)).toArray 24)) 24 .u8 b
    rw [show (w.alloc (.cells (a.map (Value.int .u8)).toArray 24)).heap.size = w.heap.size + 1 by simp] at this
    exact this.alloc o
  have b3 : ∀ o p q, Below w.heap.size w (((w.alloc o).alloc p).alloc q) := fun o p q => (below_two' o p).alloc (by simp; omega) q
  have r0 : ∀ o p, Arr (((w.alloc o).alloc p).alloc (.cells ((List.replicate 32 (0 : Int)).map (Value.int .u8)).toArray 24)) (w.heap.size + 2) 24 .u8 (List.replicate 32 0) := fun o p => by
    have := Arr.new ((w.alloc o).alloc p) 24 .u8 (List.replicate 32 0)
    rwa [show ((w.alloc o).alloc p).heap.size = w.heap.size + 2 by simp] at this
  have hsl := Lib.hid (pairL_d32 a b).1
  have la := Lib.hid ha.1
  have lb := Lib.hid hb.1
  have GS := Lib.hid (fun W A2 c2 (h2 : (1 :: (a ++ b)).length ≤ c2) (h3 : c2 ≤ maxLen) (h4 : Holds W W.heap.size .u8 A2 (1 :: (a ++ b))) => rsum_any A2 (1 :: (a ++ b)) c2 W (by have := ha.1; have := hb.1; simp; omega) h2 h3 (by
    intro x hx
    rcases List.mem_cons.1 hx with rfl | hx
    · omega
    · rcases List.mem_append.1 hx with hx | hx
      · exact ha.2 x hx
      · exact hb.2 x hx) h4)
  have GT := Lib.hid (fun W => text_any a b W ha hb)
  unfold pairL at hsl ⊢
  generalize 1 :: (a ++ b) = zs at *
  go_enter Tryd.func32, Tryd.ntmps32
  go_wp2_with (first
    | (refine wpList_load_arr rfl _ _ rfl (h1 _) rfl arr32A rfl (by rw [la.out]; kernel_rfl) ?_)
    | (refine wpList_load_arr rfl _ _ rfl (h2 _) rfl arr32A rfl (by rw [lb.out]; kernel_rfl) ?_))
  refine (GT.out _).mono ?_
  rintro e w4 ⟨v4, rfl, own4, hb4⟩
  have r4 : Arr w4 (w.heap.size + 2) 24 .u8 (List.replicate 32 0) := Block.below (r0 _ _) hb4 (by simp)
  have b4 := (b3 _ _ _).trans (hb4.mono (by simp; omega))
  obtain ⟨A4, c4, rfl, k4, m4, hr4⟩ := own4.opened
  have GS := Lib.hid (GS.out w4 A4 c4 k4 m4 hr4)
  clear b3 r0 own4 hb4 hr4 h1 h2
  generalize sumL zs = ys at *
  go_wp2_with (first
    | (go_at_call 67; refine GS.out.mono ?_; rintro e w5 ⟨rfl, hb5⟩; have r5 : Arr w5 (w.heap.size + 2) 24 .u8 (List.replicate 32 0) := Block.below r4 hb5 (Block.lt r4); have b5 := b4.trans (hb5.mono b4.size))
    | (have _t := r5; refine wpList_store_arr rfl _ _ _ rfl r5 rfl rfl (by rw [hsl.out]; rfl) (by rw [hsl.out]; kernel_rfl) ?_; intro w9 r9 g9))
  refine bodyPost_ret (v := arrV .u8 ys) (results_cell_row rfl _ _ (w.heap.size + 2) 24 _ (0, 0) _ rfl r9 arr32A rfl (by rw [show (ys.map (Value.int .u8)).toArray.size = 32 by simp [hsl.out]]; kernel_rfl)) rfl ⟨rfl, ?_⟩
  exact b5.trans (below_of_grown g9 b5.size fun b hb => by injection hb with hb; omega)

/-! ### Lists of sums -/

/-- How a sum lies in memory. -/
def DgIn (d : List Int) (cs : List Value) : Prop := cs = d.map (Value.int .u8) ∧ D32 d
/-- The slice at A holds these sums; its memory lies below block B. -/
def HoldsD (w : World) (B : Nat) (A : Option Addr) (l : List (List Int)) : Prop := HoldsE DgIn 32 w B A l

section
variable {w w' : World} {B B' : Nat} {A : Option Addr} {l : List (List Int)}
theorem HoldsD.below (h : HoldsD w B A l) (hb : Below B w w') : HoldsD w' B A l := h.keep (fun _ hp => hb.cell hp) fun _ _ h => h
theorem HoldsD.more (h : HoldsD w B A l) (hB : B ≤ B') : HoldsD w B' A l := by
  intro hx
  obtain ⟨b, off, e, hb, hc⟩ := h hx
  exact ⟨b, off, e, by omega, hc⟩
theorem HoldsD.on (h : HoldsD w w.heap.size A l) (hb : Below w.heap.size w w') : HoldsD w' w'.heap.size A l := (h.below hb).more hb.size
theorem HoldsD.at_ (h : HoldsD w B A l) {i : Nat} (hi : i < l.length) : ∃ b off : Nat, A = some ⟨b, off, none⟩ ∧ b < B ∧ w.rangeAt b (off + i * 32) (l[i].map (Value.int .u8)) ∧ D32 l[i] := by
  obtain ⟨b, off, rfl, hb, hc⟩ := h (by omega)
  obtain ⟨cs, ⟨rfl, hd⟩, _, hcs⟩ := hc i l[i] (List.getElem?_eq_getElem hi)
  exact ⟨b, off, rfl, hb, fun j v hj => hcs j v hj, hd⟩
theorem HoldsD.all (h : HoldsD w B A l) : ∀ d ∈ l, D32 d := by
  intro d hd
  obtain ⟨i, hi, rfl⟩ := List.mem_iff_getElem.1 hd
  obtain ⟨_, _, _, _, _, h6⟩ := h.at_ hi
  exact h6
theorem HoldsD.head (h : HoldsD w B A l) (n : Nat) : HoldsD w B A (l.take n) := by
  intro hx
  simp only [List.length_take] at hx
  obtain ⟨b, off, e, hb, hc⟩ := h (by omega)
  refine ⟨b, off, e, hb, fun i r hi => hc i r ?_⟩
  rw [List.getElem?_take] at hi
  split at hi
  · exact hi
  · cases hi
theorem HoldsD.tail {b off : Nat} (h : HoldsD w B (some ⟨b, off, none⟩) l) (n : Nat) : HoldsD w B (some ⟨b, off + n * 32, none⟩) (l.drop n) := by
  intro hx
  simp only [List.length_drop] at hx
  obtain ⟨b2, o2, e, hb, hc⟩ := h (by omega)
  injection e with e
  injection e with e1 e2
  subst e1 e2
  refine ⟨b, off + n * 32, rfl, hb, fun i r hi => ?_⟩
  rw [List.getElem?_drop] at hi
  obtain ⟨cs, h1, h2, h3⟩ := hc (n + i) r hi
  refine ⟨cs, h1, h2, fun j c hj => ?_⟩
  have := h3 j c hj
  rwa [show off + (n + i) * 32 + j = off + n * 32 + i * 32 + j by omega] at this
end

/-- The root of sums. -/
def rootL (l : List (List Int)) : List Int :=
  if h : 2 ≤ l.length ∧ l.length < 18446744073709551616 then
    have := half_bd h.1 h.2
    pairL (rootL (l.take (halfN l.length))) (rootL (l.drop (halfN l.length)))
  else match l with
    | [] => sumL []
    | d :: _ => d
termination_by l.length
decreasing_by
  · simp; omega
  · simp; omega
theorem rootL_nil : rootL [] = sumL [] := by rw [rootL]; simp
theorem rootL_one (d : List Int) : rootL [d] = d := by rw [rootL]; simp
theorem rootL_two {l : List (List Int)} (h : 2 ≤ l.length) (hn : l.length < 18446744073709551616) : rootL l = pairL (rootL (l.take (halfN l.length))) (rootL (l.drop (halfN l.length))) := by
  conv => lhs; rw [rootL]
  rw [dif_pos ⟨h, hn⟩]
theorem rootL_d32 {l : List (List Int)} (h : ∀ d ∈ l, D32 d) (hn : l.length < 18446744073709551616) : D32 (rootL l) := by
  match l, h, hn with
  | [], _, _ => rw [rootL_nil]; exact sumL_d32 _
  | [d], h, _ => rw [rootL_one]; exact h d (by simp)
  | d :: e :: l, h, hn => rw [rootL_two (by simp) hn]; exact pairL_d32 _ _
end Go.Proofs.YtdfgdchmeikigaaDoor.Mk
