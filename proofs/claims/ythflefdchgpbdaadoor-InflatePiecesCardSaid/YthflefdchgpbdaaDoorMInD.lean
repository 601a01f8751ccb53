/-
  Layer 13, inflate: what is told again: the program's contracts. Conditions: as each theorem names.
-/
import Derived.Test.YthflefdchgpbdaaDoorMInC
namespace Go.Proofs.YthflefdchgpbdaaDoor.Inf
open Go.ChangeShapes Go.WideShapes Go.ChangeAt Go.RowKit Go.Proofs.YthflefdchgpbdaaDoor.Kit Go.Proofs.YthflefdchgpbdaaDoor.Bits Go.Proofs.YthflefdchgpbdaaDoor.Huf Go.Proofs.YthflefdchgpbdaaDoor.Df

/-- So many more, each of which stands d ahead of it. -/
def rep (xs : List Int) : Nat → Nat → List Int
  | 0, _ => xs
  | n + 1, d => rep xs n d ++ [(rep xs n d)[(rep xs n d).length - d]?.getD 0]
theorem rep_length (xs : List Int) (n d : Nat) : (rep xs n d).length = xs.length + n := by
  induction n with
  | zero => rfl
  | succ n ih => rw [rep, List.length_append, ih]; simp; omega
theorem IAt.alloc {w : World} {B x : Nat} {k : Ic} {xs : List Int} {A : Option Addr} {c : Nat} (h : IAt w B x k xs A c) (o : Obj) : IAt (w.alloc o) B x k xs A c := ⟨h.blk.alloc o, h.own.alloc o, h.most⟩
theorem step_append_byte {w : World} {B g N c m : Nat} {L : List Int} {y : Int} {ops : Array Oper} {o : Oper} {a : Act} {K : Act → World → Prop} {Q : Exit → Act → World → Prop} {E : Prop} (hg : o.guard = none) (s x : Operand)
    (ho : o.op = Op.call { callee := Callee.builtin Builtin.append, args := #[s, x], argTypes := #[22, 22] })
    (hown : Own w B 5 .u8 (.slice (some ⟨g, 0, none⟩) N c) L) (hb : Block w m 5 #[.int .u8 y]) (hN : L.length = N) (hs : a.eval s = .slice (some ⟨g, 0, none⟩) N c) (hx : a.eval x = .slice (some ⟨m, 0, none⟩) 1 1) (hroom : N + 1 ≤ c)
    (hK : ∀ w', Own w' B 5 .u8 (.slice (some ⟨g, 0, none⟩) (N + 1) c) (L ++ [y]) → TurnsIn (fun b => b = g) w w' → K (a.put o.dst (.slice (some ⟨g, 0, none⟩) (N + 1) c)) w') :
    if Region.wanted o (yielded ops a.tmps) = true then Oper.wp Tryd.prog o a w K Q else E := by
  have hw : Region.wanted o (yielded ops a.tmps) = true := by simp [Region.wanted, hg]
  rw [if_pos hw]
  obtain ⟨ht, hinfo, hb8⟩ := elem8
  obtain ⟨i, hi, hz, hss, hby⟩ := info_parts hinfo
  have hap := hown
  unfold Own at hap
  rw [hN] at hap
  refine wp_append_own_spare _ s x 22 ho B 5 i 1 ht hi hss g N c (L.map (Value.int .u8)) hs hap ⟨m, 0, none⟩ 1 1 ([y].map (Value.int .u8)) hx rfl ?_ (ints_one .u8 [y]) hroom fun w' h2 h3 => hK w' ?_ ?_
  · intro j u hu
    rcases j with _ | j
    · rw [add_plain]
      exact (hb.cell 0).trans hu
    · simp at hu
  · unfold Own
    rw [List.map_append, List.length_append, hN]
    exact h2
  · exact TurnsIn.ofGrown h3 fun q hq => (Option.some.inj hq).symm
def RepTo (B x : Nat) (k : Ic) (xs ys : List Int) (A : Option Addr) (c : Nat) (w : World) (e : Ending) (w' : World) : Prop :=
  e = .returned (.tuple #[]) ∧ TurnsIn (fun b => b = x ∨ (Value.slice A xs.length c).ownBlock = some b) w w' ∧ ∃ A' c', IAt w' B x k ys A' c' ∧ Newer w (.slice A xs.length c) (.slice A' ys.length c')

set_option maxRecDepth 100000 in
set_option maxHeartbeats 6400000 in
theorem repeat_any (B x : Nat) (k : Ic) (xs : List Int) (A : Option Addr) (c n d : Nat) (w : World) (hB : B ≤ w.heap.size) (h : IAt w B x k xs A c) (hn : ((xs.length + n : Nat) : Int) ≤ k.most) (hd : 0 < d) (hdx : d ≤ xs.length) :
    Calls Tryd.prog 66 #[.pointer (some ⟨x, 0, none⟩), .int .i64 (n : Int), .int .i64 (d : Int)] w (RepTo B x k xs (rep xs n d) A c w) := by
  have GR := Lib.hid (room_any B x k xs A c n w hB h hn)
  have HI := Lib.hid h
  have hm := h.most
  clear h
  go_enter Tryd.func66, Tryd.ntmps66
  go_wp2_with fail
  refine GR.out.mono ?_
  rintro e w2 ⟨rfl, t2, A2, c2, I2, hc2, n2⟩
  have hs2 := t2.size
  have HT2 := Lib.hid t2
  have HN2 := Lib.hid n2
  have HI2 := Lib.hid I2
  have hm2 := I2.most
  obtain ⟨g2, e2, hg2⟩ : ∃ g : Nat, A2 = some ⟨g, 0, none⟩ ∧ g < w2.heap.size := by
    obtain ⟨g, cap, e, hbg, hg, _, _⟩ := I2.own.form (by omega)
    injection e with e1 e2 e3
    exact ⟨g, e1, hg⟩
  subst e2
  clear I2 n2 t2
  go_wp2_with fail
  go_loopw [10] (fun v wr => ∃ i : Nat, i ≤ n ∧ v = .int .i64 i ∧ IAt wr B x k (rep xs i d) (some ⟨g2, 0, none⟩) c2 ∧ TurnsIn (fun b => b = x ∨ b = g2) w2 wr) (fun v _ => n - (intOf v).toNat)
  case atStart => exact ⟨0, Nat.zero_le _, rfl, HI2.out, TurnsIn.refl _ _⟩
  case round =>
    obtain ⟨i, hi, rfl, I3, t3⟩ := hrel
    by_cases hlt : i < n
    · have hL := rep_length xs i d
      have hR : rep xs (i + 1) d = rep xs i d ++ [(rep xs i d)[(rep xs i d).length - d]?.getD 0] := rfl
      have HR := Lib.hid hR
      clear hR
      obtain ⟨R, hRR⟩ : ∃ R, rep xs (i + 1) d = R := ⟨_, rfl⟩
      have HRR := Lib.hid hRR
      rw [hRR] at HR
      clear hRR
      generalize rep xs i d = L at *
      obtain ⟨N, hN⟩ : ∃ N, L.length = N := ⟨_, rfl⟩
      obtain ⟨j, hj⟩ : ∃ j, N - d = j := ⟨_, rfl⟩
      have hjL : j < L.length := by omega
      have p0 : (0 : Int) ≤ (j : Int) := by omega
      have p1 : (j : Int) < (N : Int) := by omega
      have hw : IntKind.i64.wrap ((N : Int) - (d : Int)) = (j : Int) := by rw [IntKind.wrap_i64]; omega
      have y0 := I3.own.cellAt rfl hjL
      have hHR := HR.out
      rw [show L.length - d = j by omega] at hHR
      clear HR
      have HR := Lib.hid hHR
      clear hHR
      generalize L[j]?.getD 0 = y at *
      have x0 := I3.blk
      rw [hN] at x0
      have hltI : (i : Int) < (n : Int) := by omega
      have HI3 := Lib.hid I3
      have HT3 := Lib.hid t3
      have HN := Lib.hid hN
      have HJ := Lib.hid hj
      have hbnd : N + 1 ≤ c2 := by omega
      have hg3 : g2 < wr.heap.size := by have := t3.size; omega
      have X0 := Lib.hid x0
      have Y0 := Lib.hid y0
      have HL := Lib.hid hL
      clear hL hjL hN hj I3 t3 x0 y0
      go_wp2_with fail
      have x1 : wr.cell? ⟨x, 1, none⟩ = some (.slice (some ⟨g2, 0, none⟩) N c2) := X0.out.cell 1
      have y1 := Y0.out
      have o1 : Own wr B 5 .u8 (.slice (some ⟨g2, 0, none⟩) N c2) L := by have := HI3.out.own; rw [HN.out] at this; exact this
      have O1 := Lib.hid o1
      have x2 : (wr.alloc (.cells #[.int .u8 y] 5)).cell? ⟨x, 1, none⟩ = some (.slice (some ⟨g2, 0, none⟩) N c2) := (X0.out.alloc _).cell 1
      have hgx : x ≠ g2 := fun he => o1.ne_block X0.out (by decide) (by rw [he]; rfl)
      clear o1
      go_region_law (first
        | (have _t := y1; refine step_append_byte (by rfl) _ _ (by rfl) (y := y) (L := L) (B := B) (by exact (O1.out.alloc _).drewN 1) (by exact (Block.new wr _ _).drewN 1) HN.out (by rfl) (by rfl) hbnd ?_; intro w8 o8 t8; have b8 := (show Block w8 x _ _ from ((X0.out.alloc (.cells #[.int .u8 y] 5)).drewN 1).out t8 hgx); have x8 : w8.cell? ⟨x, 1, none⟩ = some (.slice (some ⟨g2, 0, none⟩) N c2) := b8.cell 1; have z8 := b8.frozen 1; have B8 := Lib.hid b8; have O8 := Lib.hid o8; have T8 := Lib.hid t8; clear b8 o8 t8 _t))
      all_goals
        go_wp2_with fail
        go_roundw
        case rel =>
          have hRL : R.length = N + 1 := by rw [HR.out, List.length_append, HN.out]; rfl
          have t9 : TurnsIn (fun b => b = g2) wr w8 := (((TurnsIn.refl _ wr).alloc (.cells #[.int .u8 y] 5)).drewN 1).trans T8.out
          have o9 : Own w8 B 5 .u8 (.slice (some ⟨g2, 0, none⟩) R.length c2) R := by
            rw [hRL, HR.out]
            exact O8.out
          have i9 := HI3.out.put o9 (t9.mono fun b _ hb => by rw [hb]; rfl) HI3.out.most.1
          rw [hRL] at i9
          exact ⟨i + 1, by omega, by go_num, by rw [HRR.out]; exact i9, (HT3.out.trans (t9.mono fun b _ hb => .inr hb)).setCell (p := ⟨x, 1, none⟩) (.inl (.inl rfl)) _⟩
        case measure => simp [intOf] <;> omega
    · go_wp2_with fail
      obtain rfl : i = n := by omega
      go_end0
      have q2 := HN2.out
      refine ⟨rfl, (HT2.out.mono fun b _ hb => .inl hb).then_ t3 fun b hb he => ?_, some ⟨g2, 0, none⟩, c2, I3, q2⟩
      rcases he with he | he
      · exact .inl he
      · rcases q2 with q2 | q2
        · exact .inr (q2.symm.trans (by rw [he]; rfl))
        · exact absurd (q2 g2 rfl) (by omega)
end Go.Proofs.YthflefdchgpbdaaDoor.Inf
