/-
  Layer 13, inflate: what is told: the program's contracts. Conditions: as each theorem names.
-/
import Derived.Test.YthflefdchgpbdaaDoorMInB
namespace Go.Proofs.YthflefdchgpbdaaDoor.Inf
open Go.ChangeShapes Go.WideShapes Go.ChangeAt Go.RowKit Go.Proofs.YthflefdchgpbdaaDoor.Kit Go.Proofs.YthflefdchgpbdaaDoor.Bits Go.Proofs.YthflefdchgpbdaaDoor.Huf Go.Proofs.YthflefdchgpbdaaDoor.Df

/-- What was told goes on by ys. -/
def TellTo (B x : Nat) (k : Ic) (xs ys : List Int) (A : Option Addr) (c : Nat) (w : World) (e : Ending) (w' : World) : Prop :=
  e = .returned (.tuple #[]) ∧ TurnsIn (fun b => b = x ∨ (Value.slice A xs.length c).ownBlock = some b) w w' ∧ ∃ A' c', IAt w' B x k (xs ++ ys) A' c' ∧ Newer w (.slice A xs.length c) (.slice A' (xs ++ ys).length c')
/-- The row is stored anew. -/
theorem IAt.put {w w' : World} {B x : Nat} {k : Ic} {xs zs : List Int} {A A' : Option Addr} {c c' : Nat} (h : IAt w B x k xs A c) (own : Own w' B 5 .u8 (.slice A' zs.length c') zs) (g : TurnsIn (fun b => (Value.slice A xs.length c).ownBlock = some b) w w') (hc : (c' : Int) ≤ k.most) :
    IAt (w'.setCell ⟨x, 1, none⟩ (.slice A' zs.length c')) B x k zs A' c' := by
  have b1 := h.blk.out g (h.own.ne_block h.blk (by decide))
  exact ⟨b1.set_ 1 _, own.out ((TurnsIn.refl (· = x) w').setCell (p := ⟨x, 1, none⟩) (.inl rfl) _) (fun b hb he => own.ne_block b1 (by decide) (by rw [hb, he])), hc, h.most.2⟩
theorem holds_of_own {w : World} {B : Nat} {A : Option Addr} {n c : Nat} {xs : List Int} (h : Own w B 5 .u8 (.slice A n c) xs) : n = xs.length ∧ Holds w w.heap.size .u8 A xs := by
  obtain ⟨_, _, e, _, _, h1⟩ := h.opened
  injection e with e1 e2 e3
  subst e1
  exact ⟨e2, h1⟩

theorem run_append_nothing {P : Program} (w : World) (t ty e : TypeId) (i : TypeInfo) (ht : P.underlying t = some (.slice e)) (hi : P.info? e = some i) {B size : Nat}
    (v : Value) (n : Nat) (xs : List Value) (hown : w.ownsRow B e size v n xs) (A : Option Addr) (c : Nat) : (Builtin.append_ #[t, t] ty #[v, .slice A 0 c]).run P w = .ok v w := by
  rcases A with _ | a
  · exact run_append_no_source w t ty e i ht hi v n xs hown c
  · rcases hown.2 with ⟨rfl, _⟩ | ⟨g, cap, cur, rfl, _, _, hnc, _⟩
    · simp [Builtin.append_, run_underlying ht, sizeOf, typeInfo, hi, Builtin.lenOf, Builtin.firstCells, loadCells, loadCellsFrom]
    · simp [Builtin.append_, run_underlying ht, sizeOf, typeInfo, hi, Builtin.lenOf, Builtin.firstCells, hnc, storeCells, loadCells, loadCellsFrom]
theorem wpList_append_nothing {ops : Array Oper} {rest : List Oper} {o : Oper} {a : Act} {Q : Exit → Act → World → Prop} {w : World} {B : Nat} {v : Value} {xs : List Int} (hgd : o.guard = none) (s x : Operand)
    (ho : o.op = Op.call { callee := Callee.builtin Builtin.append, args := #[s, x], argTypes := #[22, 22] })
    (hown : Own w B 5 .u8 v xs) (hs : a.eval s = v) {A : Option Addr} {c : Nat} (hx : a.eval x = .slice A 0 c) (h : wpList Tryd.prog ops Q rest (a.put o.dst v) w) :
    wpList Tryd.prog ops Q (o :: rest) a w := by
  refine wpList_plain hgd fun K hK => ?_
  obtain ⟨ht, hinfo, _⟩ := elem8
  obtain ⟨i, hi, hz, hss, hby⟩ := info_parts hinfo
  have hrun := run_append_nothing (P := Tryd.prog) w 22 o.type 5 i ht hi _ _ _ hown A c
  unfold Oper.wp
  simp only [execOp, ho, resolve, invoke, builtin, Sem.run_bind, Sem.run_pure, Result.andThen_ok, List.map_toArray, List.map_cons, List.map_nil, hs, hx, hrun]
  exact hK _ _ h

set_option maxRecDepth 100000 in
set_option maxHeartbeats 6400000 in
theorem tell_any (B x : Nat) (k : Ic) (xs ys : List Int) (A : Option Addr) (c : Nat) (Ay : Option Addr) (cy : Nat) (w : World) (hB : B ≤ w.heap.size) (h : IAt w B x k xs A c) (hn : ((xs.length + ys.length : Nat) : Int) ≤ k.most)
    (hy : Holds w w.heap.size .u8 Ay ys) (hne : ∀ b, Ay.map (·.block) = some b → b ≠ x) :
    Calls Tryd.prog 48 #[.pointer (some ⟨x, 0, none⟩), .slice Ay ys.length cy] w (TellTo B x k xs ys A c w) := by
  have GR := Lib.hid (room_any B x k xs A c ys.length w hB h hn)
  have HI := Lib.hid h
  have HY := Lib.hid hy
  have hm := h.most
  clear h hy
  go_enter Tryd.func48, Tryd.ntmps48
  go_wp2_with fail
  refine GR.out.mono ?_
  rintro e w2 ⟨rfl, t2, A2, c2, I2, hc2, n2⟩
  have y1 : w2.cell? ⟨x, 1, none⟩ = some (.slice A2 xs.length c2) := I2.blk.cell 1
  have hs2 := t2.size
  have HT2 := Lib.hid t2
  have HN2 := Lib.hid n2
  have HI2 := Lib.hid I2
  have hy2 : Holds w2 w2.heap.size .u8 Ay ys := by
    intro h0
    obtain ⟨b, off, e, hb, hc⟩ := HY.out h0
    refine ⟨b, off, e, by omega, fun j hj => ?_⟩
    rw [World.cell?_of_block (w := w) (t2.block b hb (fun hx => hne b (by rw [e]; rfl) hx))]
    exact hc j hj
  have HY2 := Lib.hid hy2
  clear hy2 n2 t2
  by_cases h0 : ys.length = 0
  · obtain rfl : ys = [] := List.eq_nil_of_length_eq_zero h0
    have z2 := I2.blk.frozen 1
    have hap := I2.own
    go_wp2_with (at_builtin; refine wpList_append_nothing rfl _ _ rfl hap rfl rfl ?_)
    go_end0
    have i4 := HI2.out.put (zs := xs) hap (TurnsIn.refl _ _) HI2.out.most.1
    refine ⟨rfl, ?_, A2, c2, ?_, ?_⟩
    · exact (HT2.out.mono fun b _ hb => .inl hb).setCell (p := ⟨x, 1, none⟩) (.inl (.inl rfl)) _
    · rw [List.append_nil]
      exact i4
    · rw [List.append_nil]
      exact HN2.out
  · obtain ⟨b, off, rfl, hb, hcy⟩ := HY2.out (by omega)
    obtain ⟨g2, cap2, e2, hBg, hg2, _, _⟩ : ∃ g cap : Nat, Value.slice A2 xs.length c2 = .slice (some ⟨g, 0, none⟩) xs.length cap ∧ B ≤ g ∧ g < w2.heap.size ∧ xs.length ≤ cap ∧ cap ≤ maxLen := by
      rcases I2.own.2 with ⟨e, h1⟩ | ⟨g, cap, cur, e, hbg, hg, hnc, hcm, _, _⟩
      · exfalso
        injection e with e1 e2 e3
        omega
      · exact ⟨g, cap, e, hbg, (Array.getElem?_eq_some_iff.1 hg).1, hnc, hcm⟩
    injection e2 with e21 e22 e23
    subst e21 e23
    have hg2 := hg2
    obtain ⟨ht, hinfo, hb8⟩ := elem8
    obtain ⟨i, hi, hz, hs, hby⟩ := info_parts hinfo
    have hap := I2.own
    unfold Own at hap
    go_wp2_with (at_builtin; refine wpList_append_own_spare _ rfl _ _ 22 rfl B 5 i 1 ht hi hs g2 xs.length c2 (xs.map (Value.int .u8)) rfl hap ⟨b, off, none⟩ ys.length cy (ys.map (Value.int .u8)) rfl (by simp) (by
        intro j u hu
        obtain ⟨hj, rfl⟩ := get_ints hu
        rw [add_plain]
        exact hcy j hj) (ints_one .u8 ys) hc2 ?_; intro w3 o3 g3; have t3 := TurnsIn.ofGrown (S := fun q => (Value.slice (some ⟨g2, 0, none⟩) xs.length c2).ownBlock = some q) g3 (fun q hq => by injection hq with hq; rw [hq]; rfl); have b3 := HI2.out.blk.out t3 (HI2.out.own.ne_block HI2.out.blk (by decide)); have y3 : w3.cell? ⟨x, 1, none⟩ = some (.slice (some ⟨g2, 0, none⟩) xs.length c2) := b3.cell 1; have z3 := b3.frozen 1; have T3 := Lib.hid t3; have O3 := Lib.hid o3; clear b3 t3 o3 g3)
    go_end0
    have o4 : Own w3 B 5 .u8 (.slice (some ⟨g2, 0, none⟩) (xs ++ ys).length c2) (xs ++ ys) := by
      have := O3.out
      unfold Own
      rw [List.map_append, List.length_append]
      exact this
    have i4 := HI2.out.put o4 T3.out HI2.out.most.1
    rw [List.length_append] at i4
    refine ⟨rfl, ?_, _, c2, i4, ?_⟩
    · have q1 := HT2.out
      have q2 := HN2.out
      have q3 := T3.out
      refine TurnsIn.setCell ?_ (p := ⟨x, 1, none⟩) (.inl (.inl rfl)) _
      refine TurnsIn.then_ (q1.mono fun b _ hb => .inl hb) q3 fun b hb he => ?_
      have he : g2 = b := by injection he
      rcases q2 with q2 | q2
      · exact .inr (q2.symm.trans (by rw [← he]; rfl))
      · exact absurd (q2 g2 rfl) (by omega)
    · exact HN2.out
end Go.Proofs.YthflefdchgpbdaaDoor.Inf
