/-
  Layer 22, manifest: what is written is read as it was, plain. Conditions: as each theorem names.
-/
import Derived.Test.YtpdofegmobbipaaMnY
namespace Go.Proofs.Ytpdofegmobbipaa.Mn
open Go.ChangeShapes Go.WideShapes Go.ChangeAt Go.RowKit Go.Proofs.Ytpdofegmobbipaa.Kit Go.Proofs.Ytpdofegmobbipaa.Oct Go.Proofs.Ytpdofegmobbipaa.Ordr

theorem mid_at {α : Type} (L X Y Z : List α) (p n : Nat) (h : L = X ++ (Y ++ Z)) (hp : X.length = p) (hn : Y.length = n) : (L.drop p).take n = Y := by
  subst h hp hn
  rw [List.drop_left, List.take_left]
theorem ordL_at : ∀ (l : List Int) (j : Nat) (h : j < l.length), ((ordL l).drop (2 * j)).take 2 = [l[j] / 256, l[j] % 256]
  | a :: l, 0, _ => by simp [ordL]
  | a :: l, j + 1, h => by
    have ih := ordL_at l j (by simpa using h)
    have e : ordL (a :: l) = a / 256 :: a % 256 :: ordL l := by simp [ordL]
    rw [e, show 2 * (j + 1) = 2 * j + 1 + 1 by omega, List.drop_succ_cons, List.drop_succ_cons]
    exact ih
theorem val_be4 (x : Int) (hx : 0 ≤ x ∧ x < 4294967296) : val (be 4 x) = x := by
  rw [val_be]
  exact Int.emod_eq_of_lt hx.1 hx.2
theorem putL_form (m : Man) : m.putL = [1, m.md] ++ (be 8 m.vr ++ (be 4 m.bk ++ (be 4 m.ol ++ (be 4 m.nl ++ (m.od ++ (m.nd ++ (m.rt ++ ordL m.ord))))))) := by
  unfold Man.putL Man.p6 Man.p5 Man.p4 Man.p3 Man.p2 Man.p1 Man.p0
  simp [List.append_assoc]
theorem may_ord {m : Man} (h : m.May) : ∀ z ∈ m.ord, 0 ≤ z ∧ z < 4096 := by
  intro z hz
  obtain ⟨-, -, -, -, -, hb, ho⟩ := h
  have h1 := ho.2.1 z hz
  have hw : (m.want : Int) ≤ 4096 := by
    unfold Man.want
    split <;> omega
  omega
theorem put_octets {m : Man} (ho : m.Ok) (h : m.May) : Octets m.putL := by
  have app : ∀ {a b : List Int}, Octets a → Octets b → Octets (a ++ b) := fun ha hb x hx => (List.mem_append.1 hx).elim (ha x) (hb x)
  have h2 : Octets [1, m.md] := by
    intro x hx
    simp only [List.mem_cons, List.not_mem_nil, or_false] at hx
    rcases hx with rfl | rfl
    · omega
    · exact ho.md
  have h9 : Octets (ordL m.ord) := by
    intro x hx
    unfold ordL at hx
    obtain ⟨i, hi, hx⟩ := List.mem_flatMap.1 hx
    have := may_ord h i hi
    simp only [List.mem_cons, List.not_mem_nil, or_false] at hx
    rcases hx with rfl | rfl <;> omega
  rw [putL_form]
  exact app h2 (app (be_octets _ _) (app (be_octets _ _) (app (be_octets _ _) (app (be_octets _ _) (app ho.odo (app ho.ndo (app ho.rto h9)))))))
theorem got_man {m : Man} (ho : m.Ok) (h : m.May) (A : Option Addr) (cap : Nat) : manN m.putL (pairs m.putL) A cap = { m with A := A, cap := cap } := by
  have hl := m.putL_length ho
  have hp : pairs m.putL = m.ord.length := pairs_of hl
  have hf := putL_form m
  have bds : (128 ≤ m.bk ∧ m.bk ≤ 4096) ∧ (0 ≤ m.ol ∧ m.ol ≤ 2147483647) ∧ (0 ≤ m.nl ∧ m.nl ≤ 2147483647) := ⟨inB_yes h.2.1, inB_yes h.2.2.1, inB_yes h.2.2.2.1⟩
  have e1 : m.putL.getD 1 0 = m.md := by rw [hf]; rfl
  have e2 : numA m.putL 2 8 = m.vr := by
    unfold numA
    rw [mid_at m.putL [1, m.md] (be 8 m.vr) _ 2 8 hf rfl (be_length _ _), val_be8 _ ho.vr]
  have e3 : numA m.putL 10 4 = m.bk := by
    unfold numA
    rw [mid_at m.putL ([1, m.md] ++ be 8 m.vr) (be 4 m.bk) (be 4 m.ol ++ (be 4 m.nl ++ (m.od ++ (m.nd ++ (m.rt ++ ordL m.ord))))) 10 4 (by rw [hf]; simp [List.append_assoc]) (by simp [be_length]) (be_length _ _), val_be4 _ (by omega)]
  have e4 : numA m.putL 14 4 = m.ol := by
    unfold numA
    rw [mid_at m.putL ([1, m.md] ++ be 8 m.vr ++ be 4 m.bk) (be 4 m.ol) (be 4 m.nl ++ (m.od ++ (m.nd ++ (m.rt ++ ordL m.ord)))) 14 4 (by rw [hf]; simp [List.append_assoc]) (by simp [be_length]) (be_length _ _), val_be4 _ (by omega)]
  have e5 : numA m.putL 18 4 = m.nl := by
    unfold numA
    rw [mid_at m.putL ([1, m.md] ++ be 8 m.vr ++ be 4 m.bk ++ be 4 m.ol) (be 4 m.nl) (m.od ++ (m.nd ++ (m.rt ++ ordL m.ord))) 18 4 (by rw [hf]; simp [List.append_assoc]) (by simp [be_length]) (be_length _ _), val_be4 _ (by omega)]
  have e6 : (m.putL.drop 22).take 32 = m.od := mid_at m.putL ([1, m.md] ++ be 8 m.vr ++ be 4 m.bk ++ be 4 m.ol ++ be 4 m.nl) m.od (m.nd ++ (m.rt ++ ordL m.ord)) 22 32 (by rw [hf]; simp [List.append_assoc]) (by simp [be_length]) ho.odl
  have e7 : (m.putL.drop 54).take 32 = m.nd := mid_at m.putL ([1, m.md] ++ be 8 m.vr ++ be 4 m.bk ++ be 4 m.ol ++ be 4 m.nl ++ m.od) m.nd (m.rt ++ ordL m.ord) 54 32 (by rw [hf]; simp [List.append_assoc]) (by simp [be_length, ho.odl]) ho.ndl
  have e8 : (m.putL.drop 86).take 32 = m.rt := mid_at m.putL ([1, m.md] ++ be 8 m.vr ++ be 4 m.bk ++ be 4 m.ol ++ be 4 m.nl ++ m.od ++ m.nd) m.rt (ordL m.ord) 86 32 (by rw [hf]; simp [List.append_assoc]) (by simp [be_length, ho.odl, ho.ndl]) ho.rtl
  have hd : m.putL.drop 118 = ordL m.ord := by
    have e : m.putL = ([1, m.md] ++ be 8 m.vr ++ be 4 m.bk ++ be 4 m.ol ++ be 4 m.nl ++ m.od ++ m.nd ++ m.rt) ++ ordL m.ord := by rw [hf]; simp [List.append_assoc]
    rw [e]
    exact List.drop_left' (by simp [be_length, ho.odl, ho.ndl, ho.rtl])
  have e9 : ordN m.putL (pairs m.putL) = m.ord := by
    rw [hp]
    apply List.ext_getElem
    · exact ordN_length _ _
    · intro j h1 h2
      have e : (ordN m.putL m.ord.length)[j] = numA m.putL (118 + 2 * j) 2 := by simp [ordN]
      rw [e]
      unfold numA
      rw [← List.drop_drop, hd, ordL_at m.ord j h2]
      have := may_ord h m.ord[j] (List.getElem_mem h2)
      show (0 * 256 + _) * 256 + _ = _
      omega
  unfold manN
  rw [e1, e2, e3, e4, e5, e6, e7, e8, e9]
theorem got_put {m : Man} (ho : m.Ok) (h : m.May) : gotE m.putL = 0 := by
  have hl := m.putL_length ho
  unfold gotE
  rw [if_neg (by omega), if_pos]
  refine ⟨by rw [putL_form]; rfl, ?_, by rw [pairs_of hl]; exact hl⟩
  rw [got_man ho h none 0]
  exact h
end Go.Proofs.Ytpdofegmobbipaa.Mn
