/-
  Layer 18, graph.Turned: contracts. Conditions: as each theorem names.
-/
import Derived.Test.YtojmcjkeniepcaaMGrD
import Derived.Test.YtojmcjkeniepcaaMGOree6
namespace Go.Proofs.Ytojmcjkeniepcaa.Kit
open Go.ChangeShapes Go.WideShapes Go.ChangeAt Go.RowKit

/-- make([]T, n), n variable, of values of one cell. -/
theorem wpList_make_vals {P : Program} (w : World) {ops : Array Oper} {rest : List Oper} {o : Oper} {a : Act} {Q : Exit → Act → World → Prop} (hgd : o.guard = none) (l c : Operand) (t : TypeId)
    (ho : o.op = Op.makeSlice t l c) {e : TypeId} {z : Value} {bytes : Nat} (he : ValElem P t e z bytes) (hz' : z.cells = #[z]) {kl kc : IntKind} {L C : Int} (n m : Nat)
    (hl : a.eval l = .int kl L) (hc : a.eval c = .int kc C) (hL : L = (n : Int)) (hC : C = (m : Int)) (hnm : n ≤ m) (hsz : m ≤ 1099511627776)
    (h : ∀ w', OwnV w' w.heap.size e (.slice (some ⟨w.heap.size, 0, none⟩) n m) (List.replicate n z) → Below w.heap.size w w' → w.heap.size < w'.heap.size →
      wpList P ops Q rest (a.put o.dst (.slice (some ⟨w.heap.size, 0, none⟩) n m)) w') :
    wpList P ops Q (o :: rest) a w := by
  obtain ⟨ht, hinfo, hz1, hb8⟩ := he
  obtain ⟨i, hi, hz, hs, hby⟩ := info_parts hinfo
  subst hL; subst hC
  refine wpList_plain hgd fun K hK => ?_
  have hmul : m * bytes ≤ m * 64 := Nat.mul_le_mul_left _ hb8
  have hmul2 : (bytes : Int) * (m : Int) = ((m * bytes : Nat) : Int) := by push_cast; rw [Int.mul_comm]
  have hrun := run_make (P := P) w t e i z ht hi hz kl kc n m (by omega) (by omega) (by rw [hby, hmul2]; omega) (by omega)
  unfold Oper.wp
  simp [execOp, ho, hl, hc, hrun, Result.andThen]
  refine hK _ _ ?_
  have hcells : (madeCells z.cells ((m : Int).toNat * i.size)) = (List.replicate m z).toArray := by
    apply Array.toList_inj.1
    rw [hs, hz', toList_madeCells_one]
    simp
  rw [Int.toNat_natCast] at hcells
  rw [hcells]
  refine h _ ⟨by simp, .inr ⟨w.heap.size, m, _, by simp, Nat.le_refl _, heap_alloc_new w _, by simpa using hnm, by unfold maxLen; omega, by simp, ?_⟩⟩ ((Below.refl _ _).alloc (Nat.le_refl _) _) (by simp)
  simp [Nat.min_eq_left hnm]
section
variable {w w' : World} {B B' : Nat} {e : TypeId} {us : List Value} {r : Ri} {rs : List Ri}
theorem OwnV.stored {g cap n : Nat} (h : OwnV w B e (.slice (some ⟨g, 0, none⟩) n cap) us) (hn : n = us.length) (i : Nat) (z : Value) :
    OwnV (w.setCell ⟨g, i, none⟩ z) B e (.slice (some ⟨g, 0, none⟩) n cap) (us.set i z) ∧ w.grownBy (w.setCell ⟨g, i, none⟩ z) (some g) := by
  subst hn
  obtain ⟨h1, h2⟩ := World.ownsRow.stored h i z
  refine ⟨?_, h2⟩
  unfold OwnV
  rw [List.length_set]
  exact h1
theorem OwnV.frozenAt {g cap n : Nat} (h : OwnV w B e (.slice (some ⟨g, 0, none⟩) n cap) us) (hn : n = us.length) (i : Nat) : w.frozen? ⟨g, i, none⟩ = false := by
  subst hn
  exact World.ownsRow.frozenAt h i
theorem OwnV.form {v : Value} (h : OwnV w B e v us) (hx : 0 < us.length) : ∃ g cap : Nat, v = .slice (some ⟨g, 0, none⟩) us.length cap ∧ B ≤ g ∧ g < w.heap.size := by
  rcases h.2 with ⟨rfl, h0⟩ | ⟨g, cap, cur, rfl, hb, hg, hnc, hcm, hcs, htake⟩
  · omega
  · exact ⟨g, cap, rfl, hb, (Array.getElem?_eq_some_iff.1 hg).1⟩
/-- Own rows, each in a block of its own, in a row of the call's own at block g. -/
structure RiRows (w : World) (B g : Nat) (rs : List Ri) : Prop where
  o : OwnV w B 25 (.slice (some ⟨g, 0, none⟩) rs.length rs.length) (rs.map Ri.val)
  r : ∀ r ∈ rs, RiOwn w B r
  d : ∀ i j (hi : i < rs.length) (hj : j < rs.length), i ≠ j → rs[i].val.ownBlock = none ∨ rs[i].val.ownBlock ≠ rs[j].val.ownBlock
theorem RiRows.below {g : Nat} (h : RiRows w B g rs) (hb : Below w.heap.size w w') : RiRows w' B g rs := ⟨h.o.below hb, fun r hr => (h.r r hr).below hb, h.d⟩
/-- A row of them grew, and was put back. -/
theorem RiRows.grow {g : Nat} (h : RiRows w B g rs) {i : Nat} (hi : i < rs.length) {x : Ri} (hx : RiOwn w' B x) (hg : w.grownBy w' rs[i].val.ownBlock) (hn : x.val.ownBlock = rs[i].val.ownBlock ∨ x.val.ownBlock = some w.heap.size) :
    RiRows (w'.setCell ⟨g, i, none⟩ x.val) B g (rs.set i x) := by
  have hR := h.r _ (List.getElem_mem hi)
  have o1 : OwnV w' B 25 (.slice (some ⟨g, 0, none⟩) rs.length rs.length) (rs.map Ri.val) := by
    refine h.o.kept hg ?_
    rcases hR.1.apart h.o (by decide) with hh | hh
    · rw [hh]; exact .inr (by simp [Value.ownBlock])
    · exact .inr (Ne.symm hh)
  have hlen : rs.length = (rs.map Ri.val).length := by simp
  obtain ⟨o2, g2⟩ := o1.stored hlen i x.val
  have hl := h.o.lt
  refine ⟨?_, ?_, ?_⟩
  · rw [List.length_set, List.map_set]; exact o2
  · intro q hq
    obtain ⟨j, hj, rfl⟩ := List.getElem_of_mem hq
    rw [List.length_set] at hj
    rw [List.getElem_set]
    split
    · exact hx.grown o1 (by decide) g2
    · rename_i hij
      have hq0 := h.r _ (List.getElem_mem hj)
      have hq1 : RiOwn w' B rs[j] := ⟨hq0.1.kept hg (h.d j i hj hi (Ne.symm hij)), hq0.2⟩
      exact hq1.grown o1 (by decide) g2
  · intro a b ha hb hab
    rw [List.length_set] at ha hb
    rw [List.getElem_set, List.getElem_set]
    have new : ∀ j (hj : j < rs.length), j ≠ i → rs[j].val.ownBlock = none ∨ rs[j].val.ownBlock ≠ x.val.ownBlock := fun j hj hji => by
      rcases hn with hn | hn
      · rw [hn]; exact h.d j i hj hi hji
      · rw [hn]
        cases hv : rs[j].val.ownBlock with
        | none => exact .inl rfl
        | some b => exact .inr (fun e => by injection e with e; have := ((h.r _ (List.getElem_mem hj)).1.lt _ hv).2; omega)
    split
    · rename_i hia
      split
      · rename_i hib; omega
      · rename_i hib
        rcases new b hb (by omega) with hh | hh
        · cases hv : x.val.ownBlock with
          | none => exact .inl rfl
          | some c => exact .inr (by rw [hh]; simp)
        · exact .inr (Ne.symm hh)
    · split
      · exact new a ha (by omega)
      · exact h.d a b ha hb hab
end
end Go.Proofs.Ytojmcjkeniepcaa.Kit
namespace Go.Proofs.Ytojmcjkeniepcaa.Gr
open Go.ChangeShapes Go.WideShapes Go.ChangeAt Go.RowKit Go.Proofs.Ytojmcjkeniepcaa.Kit

def GivesIE (L : List (List Int)) (x : Int) (w : World) (e : Ending) (w' : World) : Prop :=
  ∃ (A : Option Addr) (cap : Nat) (qs : List Ri), e = .returned (.tuple #[.slice A qs.length cap, .int .i64 x]) ∧ qs.length ≤ cap ∧ cap ≤ maxLen ∧ rowsL qs = L ∧ HoldsI w' w'.heap.size A qs ∧ Below w.heap.size w w'
theorem gives_none {x : Int} {w w' : World} (hb : Below w.heap.size w w') : GivesIE [] x w (.returned (.tuple #[.slice none 0 0, .int .i64 x])) w' :=
  ⟨Option.none, 0, [], rfl, Nat.le_refl _, Nat.zero_le _, rfl, fun h => absurd h (by simp), hb⟩

/-- Behind m whole rows, and k numbers of the next one: row j. -/
def midRow (L : List (List Int)) (m k j : Nat) : List Int := turnTo L j m ++ (if (j : Int) ∈ (L.getD m []).take k then [(m : Int)] else [])
def midL (L : List (List Int)) (m k : Nat) : List (List Int) := (List.range L.length).map (midRow L m k)
theorem midL_zero (L : List (List Int)) (m : Nat) : midL L m 0 = (List.range L.length).map fun j => turnTo L j m := by
  unfold midL midRow
  simp
theorem midL_all (L : List (List Int)) (m k : Nat) (hk : (L.getD m []).length ≤ k) : midL L m k = midL L (m + 1) 0 := by
  rw [midL_zero]
  unfold midL midRow
  rw [List.take_of_length_le hk]
  refine List.map_congr_left fun j _ => ?_
  rw [turnTo_next]
theorem midL_length (L : List (List Int)) (m k : Nat) : (midL L m k).length = L.length := by simp [midL]
theorem midL_next {L : List (List Int)} {m k : Nat} {l : List Int} (hm : L.getD m [] = l) (hu : ∀ j, j < k → l.getD j 0 ≠ l.getD k 0) {i : Nat} (hk : k < l.length) (hi : l.getD k 0 = (i : Int)) (hiL : i < L.length) :
    midL L m (k + 1) = (midL L m k).set i (midRow L m k i ++ [(m : Int)]) := by
  refine List.ext_getElem? fun j => ?_
  rw [List.getElem?_set]
  unfold midL
  rw [List.getElem?_map, List.getElem?_map, List.length_map, List.length_range]
  have hnot : (i : Int) ∉ l.take k := by
    intro hmem
    obtain ⟨q, hq, e⟩ := List.getElem_of_mem hmem
    rw [List.length_take] at hq
    have := hu q (by omega)
    apply this
    rw [hi, ← e, List.getElem_take, List.getD, List.getElem?_eq_getElem (by omega)]
    rfl
  by_cases hij : i = j
  · subst hij
    rw [if_pos rfl, if_pos hiL, List.getElem?_range hiL]
    simp only [Option.map_some]
    unfold midRow
    rw [hm, take_all_next hk, hi, if_pos (by simp), if_neg hnot, List.append_nil]
  · rw [if_neg hij]
    cases hr : (List.range L.length)[j]? with
    | none => rfl
    | some q =>
      obtain ⟨hq1, hq2⟩ := List.getElem?_eq_some_iff.1 hr
      rw [List.getElem_range] at hq2
      subst hq2
      simp only [Option.map_some]
      unfold midRow
      rw [hm, take_all_next hk, hi]
      have : ((j : Int) ∈ l.take k ++ [(i : Int)]) ↔ (j : Int) ∈ l.take k := by
        rw [List.mem_append, List.mem_singleton]
        constructor
        · rintro (h | h)
          · exact h
          · omega
        · exact Or.inl
      simp only [this]
theorem midRow_length (L : List (List Int)) (m k j : Nat) : (midRow L m k j).length ≤ m + 1 := by
  unfold midRow
  rw [List.length_append]
  have := turnTo_length L j m
  split <;> simp <;> omega
theorem midRow_in (L : List (List Int)) (m k j : Nat) (hm : m ≤ 1000000) : In64 (midRow L m k j ++ [(m : Int)]) := by
  intro z hz
  unfold midRow at hz
  have h1 := turnTo_in L j m hm
  rw [List.mem_append, List.mem_append] at hz
  rcases hz with (h | h) | h
  · exact h1 z h
  · split at h
    · simp at h; omega
    · simp at h
  · simp at h; omega
theorem rowsL_set (qs : List Ri) (i : Nat) (q : Ri) : rowsL (qs.set i q) = (rowsL qs).set i q.zs := by simp [rowsL, List.map_set]
end Go.Proofs.Ytojmcjkeniepcaa.Gr
