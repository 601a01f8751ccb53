/-
  Layer 21, merkle: sums of one type as sums of another, however many came in: contract. Conditions: as each theorem names.
-/
import Derived.Test.YtdfgdchmeikigaaDoorMkI
import Derived.SizedLaws
namespace Go.Proofs.YtdfgdchmeikigaaDoor.Mk
open Go.ChangeShapes Go.WideShapes Go.ChangeAt Go.RowKit Go.Proofs.YtdfgdchmeikigaaDoor.Kit Go.Proofs.YtdfgdchmeikigaaDoor.Sha

/-- How many elements a slice that came in has at most. -/
theorem sized_len {H : Type} {enc : TypeId × Value → H} {P : Program} {w : World} {t e : TypeId} {A : Option Addr} {n c : Nat} {d : DataW H} {ps : List MemPlace} {ts : List TypeId} {ds : List (DataW H)} {j : Nat}
    (ht : P.underlying t = some (.slice e)) (h : DataW.Trod enc P w 0 (fun _ => true) true t (.slice A n c) d ps) (hs : (DataW.weightsEach P ts ds).all (· ≤ reachBytes) = true) (hj : ts[j]? = some t) (hd : ds[j]? = some d) : n * P.bytesOf e ≤ reachBytes := by
  obtain ⟨fuel, hfu⟩ := h
  rcases DataW.trod_slice ht hfu with ⟨hcs, _⟩ | ⟨a, len, cap, elems, rest, m, _, hcs, hx, _, hl, hm, hlen, _, _, _⟩
  · simp [Value.cells] at hcs
    obtain ⟨_, rfl, _⟩ := hcs
    rw [Nat.zero_mul]
    exact Nat.zero_le _
  · simp [Value.cells] at hcs
    obtain ⟨_, rfl, _⟩ := hcs
    simp only [Prod.mk.injEq] at hx
    have := sized_slice hs hj (by rw [hd, hx.1]) ht
    simp only [List.length_map] at this
    refine Nat.le_trans (Nat.mul_le_mul_right _ ?_) this
    omega

theorem sized_dig {H : Type} {enc : TypeId × Value → H} {w : World} {A : Option Addr} {n c : Nat} {d : DataW H} {ps : List MemPlace} {ts : List TypeId} {ds : List (DataW H)}
    (h : DataW.Trod enc Tryd.prog w 0 (fun _ => true) true 45 (.slice A n c) d ps) (hs : (DataW.weightsEach Tryd.prog ts ds).all (· ≤ reachBytes) = true) (j : Nat) (hj : ts[j]? = some 45 := by rfl) (hd : ds[j]? = some d := by rfl) : n * 32 ≤ 140737488351232 := by
  have h1 := sized_len Tryd.underlying45 h hs hj hd
  rw [show Tryd.prog.bytesOf 24 = 32 by kernel_rfl] at h1
  exact h1

section
variable {w w' : World} {B : Nat} {e t : TypeId} {v : Value} {l : List (List Int)} {P : Program}
theorem run_append_dig2 (he : DigElem P t e) (h : OwnD w B e v l) {d : List Int} (hd : D32 d) (c : Nat) (hsz : (l.length + 1) * 32 ≤ 140737488355328) (hbase : B ≤ w.heap.size) (ty : TypeId) :
    ∃ A' c' w', (Builtin.append_ #[t, t] ty #[v, .slice (some ⟨w.heap.size, 0, none⟩) 1 c]).run P (w.alloc (.cells (dcells d).toArray e)) = .ok (.slice A' (l.length + 1) c') w' ∧
      OwnD w' B e (.slice A' (l.length + 1) c') (l ++ [d]) ∧ TurnsIn (fun b => v.ownBlock = some b) w w' := by
  obtain ⟨ht, hinfo⟩ := he
  obtain ⟨i, hi, hz, hs, hby⟩ := info_parts hinfo
  have hdl : (dcells d).length = 32 := by unfold dcells; rw [List.length_map]; exact hd.1
  have hnew := Block.new w e (dcells d).toArray
  obtain ⟨g, cap, w', hrun, h2, h3, _, _⟩ := run_append_lies (P := P) (w.alloc (.cells (dcells d).toArray e)) t ty B e i _ 32 32 ht hi hz hs hby rfl (by omega) v l.length (l.flatMap dcells) (World.ownsRow.alloc h.1 _)
    ⟨w.heap.size, 0, none⟩ 1 c (dcells d) (by rw [hdl]) (by
      intro j u hu
      have := World.news_of_block hnew j u (by simpa using hu)
      exact this) (ints_one .u8 d) (by omega) (by unfold maxLen; omega) hsz (by simp; omega) _ rfl
  refine ⟨some ⟨g, 0, none⟩, cap, w', hrun, ⟨?_, fun x hx => ?_⟩, ((TurnsIn.refl _ w).alloc _).trans (.ofGrown h3 fun b hb => hb)⟩
  · rw [List.length_append, List.flatMap_append]
    simpa using h2
  · rcases List.mem_append.1 hx with hx | hx
    · exact h.2 x hx
    · obtain rfl := List.mem_singleton.1 hx
      exact hd

theorem wpList_append_dig2 {ops : Array Oper} {rest : List Oper} {o : Oper} {a : Act} {Q : Exit → Act → World → Prop} (hgd : o.guard = none) (s x : Operand) (t : TypeId)
    (ho : o.op = Op.call { callee := Callee.builtin Builtin.append, args := #[s, x], argTypes := #[t, t] }) (he : DigElem P t e)
    (hown : OwnD w B e v l) (hs : a.eval s = v) {d : List Int} (hd : D32 d) {c : Nat} (hx : a.eval x = .slice (some ⟨w.heap.size, 0, none⟩) 1 c) (hsz : (l.length + 1) * 32 ≤ 140737488355328) (hbase : B ≤ w.heap.size)
    (hK : ∀ A' c' w', OwnD w' B e (.slice A' (l.length + 1) c') (l ++ [d]) → TurnsIn (fun b => v.ownBlock = some b) w w' → wpList P ops Q rest (a.put o.dst (.slice A' (l.length + 1) c')) w') :
    wpList P ops Q (o :: rest) a (w.alloc (.cells (dcells d).toArray e)) := by
  refine wpList_plain hgd fun K hK2 => ?_
  obtain ⟨A', c', w', hrun, h2, h3⟩ := run_append_dig2 he hown hd c hsz hbase o.type
  unfold Oper.wp
  simp only [execOp, ho, resolve, invoke, builtin, Sem.run_bind, Sem.run_pure, Result.andThen_ok, List.map_toArray, List.map_cons, List.map_nil, hs, hx, hrun]
  exact hK2 _ _ (hK _ _ _ h2 h3)
end

set_option maxRecDepth 100000 in
set_option maxHeartbeats 1600000 in
theorem digests_big (A : Option Addr) (l : List (List Int)) (c : Nat) (w : World) (hc : l.length ≤ c) (hm : c ≤ maxLen) (hr : HoldsD w w.heap.size A l) (h1 : l.length * 32 ≤ 140737488351232) :
    Calls Tryd.prog 29 #[.slice A l.length c] w (RowedD 26 l w) := by
  unfold maxLen at hm
  have o0 := OwnD.empty (B := w.heap.size) w 26 (Nat.le_refl _)
  have b0 := below_new (w := w) (.cells #[] 26)
  go_enter Tryd.func29, Tryd.ntmps29
  go_wp2_with fail
  go_loopw [3, 4] (fun v s wr => ∃ (i : Nat) (A' : Option Addr) (c' : Nat), i ≤ l.length ∧ s = .int .i64 i ∧ v = .slice A' i c' ∧ OwnD wr w.heap.size 26 (.slice A' i c') (l.take i) ∧ Below w.heap.size w wr) (fun _ s _ => l.length - (intOf s).toNat)
  case atStart => exact ⟨0, _, _, by omega, rfl, rfl, o0, b0⟩
  case round =>
    clear o0 b0
    obtain ⟨i, A', c', hi, rfl, rfl, own, hb⟩ := hrel
    by_cases hlt : i < l.length
    · obtain ⟨b, off, rfl, hbl, hrg, hd⟩ := (hr.below hb).at_ hlt
      have hjn := Lib.hid (show l.take (i + 1) = l.take i ++ [l[i]] from List.take_succ_eq_append_getElem hlt)
      have hdl := Lib.hid hd.1
      have hd := Lib.hid hd
      have htl := Lib.hid (show (l.take i).length = i by rw [List.length_take]; omega)
      have hbs := hb.size
      generalize l[i] = d at *
      have hlen2 : ((l.take i).length + 1) * 32 ≤ 140737488355328 := by rw [htl.out]; omega
      go_wp2_with (first
        | (refine wpList_load_mid rfl _ _ rfl b (off + i * 32) rfl (d.map (Value.int .u8)) _ hrg arr32A rfl (by rw [List.length_map, hdl.out]; kernel_rfl) ?_)
        | (refine wpList_build_dig rfl _ _ rfl elemD zeroD hd.out rfl ?_)
        | (refine wpList_append_dig2 rfl _ _ _ rfl elemD own rfl hd.out rfl hlen2 hbs ?_; rw [htl.out]; intro A2 c2 w2 own2 t2; have hb2 := hb.trans (own.turned t2 hbs)))
      go_roundw
      case rel => exact ⟨i + 1, A2, c2, by omega, by go_num, rfl, by rw [hjn.out]; exact own2, hb2⟩
      case measure => simp [intOf] <;> omega
    · obtain rfl : i = l.length := by omega
      rw [List.take_of_length_le (Nat.le_refl _)] at own
      go_wp2_with fail
      go_ret
      exact ⟨_, rfl, own, hb⟩
end Go.Proofs.YtdfgdchmeikigaaDoor.Mk
