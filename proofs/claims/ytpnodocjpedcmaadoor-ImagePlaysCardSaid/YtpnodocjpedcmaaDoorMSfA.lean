/-
  Layer 6, the document's sectors: rows of them; find: contracts. Conditions: as each theorem names.
-/
import Derived.Test.YtpnodocjpedcmaaDoorMGIays2
import Derived.Deep.AppendLies
import Derived.Deep.MidRow
import Derived.LoopTactic
import Derived.Deep.QuietTactic
import Derived.BigQuiet
namespace Go.Proofs.YtpnodocjpedcmaaDoor.Sec
open Go.ChangeShapes Go.WideShapes Go.ChangeAt Go.RowKit Go.Proofs.YtpnodocjpedcmaaDoor.Kit

def strB : Option (List Int) → ByteArray
  | some xs => strOfNums xs
  | none => ⟨#[]⟩
def cellsF (p : Int × Option (List Int)) : List Value := [.int .i64 p.1, .string (strB p.2), .bool p.2.isNone]
/-- The slice at A holds these sectors; its memory lies below block B. -/
def HoldsF (w : World) (B : Nat) (A : Option Addr) (l : Sl) : Prop :=
  0 < l.length → ∃ b off : Nat, A = some ⟨b, off, none⟩ ∧ b < B ∧ ∀ (j : Nat) (p : Int × Option (List Int)), l[j]? = some p → w.rangeAt b (off + j * 3) (cellsF p)
theorem HoldsF.nil {w : World} {B : Nat} {A : Option Addr} : HoldsF w B A [] := fun h => absurd h (by simp)
theorem HoldsF.below {w w' : World} {B : Nat} {A : Option Addr} {l : Sl} (h : HoldsF w B A l) (hb : Below B w w') : HoldsF w' B A l := by
  intro hx
  obtain ⟨b, off, e, hB, hc⟩ := h hx
  exact ⟨b, off, e, hB, fun j p hj i u hu => (hb.cell (p := ⟨b, _, none⟩) hB).trans (hc j p hj i u hu)⟩
theorem HoldsF.more {w : World} {B B' : Nat} {A : Option Addr} {l : Sl} (h : HoldsF w B A l) (hB : B ≤ B') : HoldsF w B' A l := by
  intro hx
  obtain ⟨b, off, e, hb, hc⟩ := h hx
  exact ⟨b, off, e, by omega, hc⟩
theorem HoldsF.drewN {w : World} {B : Nat} {A : Option Addr} {l : Sl} (h : HoldsF w B A l) (n : Nat) : HoldsF (w.drewN n) B A l := h

/-- v is a row of sectors of the call's own. -/
def OwnF (w : World) (B : Nat) (v : Value) (l : Sl) : Prop := w.ownsRow B 95 3 v l.length (l.flatMap cellsF)
theorem flatF : ∀ (l : Sl) (i j : Nat) (p : Int × Option (List Int)) (u : Value), l[i]? = some p → (cellsF p)[j]? = some u → (l.flatMap cellsF)[i * 3 + j]? = some u
  | [], i, j, s, u, h, _ => by simp at h
  | a :: l, 0, j, s, u, h, hu => by
    simp at h
    subst h
    have hj : j < (cellsF a).length := (List.getElem?_eq_some_iff.1 hu).1
    rw [List.flatMap_cons, Nat.zero_mul, Nat.zero_add, List.getElem?_append_left hj]
    exact hu
  | a :: l, i + 1, j, s, u, h, hu => by
    have ih := flatF l i j s u (by simpa using h) hu
    rw [List.flatMap_cons, List.getElem?_append_right (by simp [cellsF]; omega)]
    have e : (i + 1) * 3 + j - (cellsF a).length = i * 3 + j := by simp [cellsF]; omega
    rw [e]
    exact ih
section
variable {w w' : World} {B : Nat} {v : Value} {l : Sl}
theorem OwnF.nil (w : World) (B : Nat) : OwnF w B (.slice none 0 0) [] := World.ownsRow_nil w B _ 3
theorem OwnF.empty {B : Nat} (w : World) (hB : B ≤ w.heap.size) : OwnF (w.alloc (.cells #[] 95)) B (.slice (some ⟨w.heap.size, 0, none⟩) 0 0) [] :=
  World.ownsRow_lit (size := 3) w #[] 0 hB (Nat.zero_le _) rfl
theorem OwnF.opened (h : OwnF w B v l) : ∃ (A : Option Addr) (c : Nat), v = .slice A l.length c ∧ l.length ≤ c ∧ c ≤ maxLen ∧ HoldsF w w.heap.size A l := by
  rcases h.2 with ⟨rfl, h0⟩ | ⟨g, cap, cur, rfl, hb, hg2, hnc, hcm, hcs, htake⟩
  · refine ⟨none, 0, by rw [h0], by omega, Nat.zero_le _, fun hx => by omega⟩
  · refine ⟨some ⟨g, 0, none⟩, cap, rfl, hnc, hcm, fun hx => ⟨g, 0, rfl, (Array.getElem?_eq_some_iff.1 hg2).1, fun i p hi j u hu => ?_⟩⟩
    have hcell := World.ownsRow.cells h (g := g) rfl (i * 3 + j) u (flatF l i j p u hi hu)
    rw [add_plain] at hcell
    rw [Nat.zero_add] at hcell ⊢
    exact hcell
theorem OwnF.lt (h : OwnF w B v l) : ∀ g, v.ownBlock = some g → B ≤ g ∧ g < w.heap.size := World.ownsRow.lt h
theorem OwnF.alloc (h : OwnF w B v l) (o : Obj) : OwnF (w.alloc o) B v l := World.ownsRow.alloc h o
theorem OwnF.drewN (h : OwnF w B v l) (n : Nat) : OwnF (w.drewN n) B v l := h
theorem OwnF.mono {B' : Nat} (h : OwnF w B v l) (hB : B' ≤ B) : OwnF w B' v l := by
  rcases h.2 with ⟨rfl, h0⟩ | ⟨g, cap, cur, rfl, hbg, hg, hnc, hcm, hcs, htake⟩
  · exact ⟨h.1, .inl ⟨rfl, h0⟩⟩
  · exact ⟨h.1, .inr ⟨g, cap, cur, rfl, by omega, hg, hnc, hcm, hcs, htake⟩⟩
theorem OwnF.out {S : Nat → Prop} (h : OwnF w B v l) (ho : TurnsIn S w w') (hv : ∀ g, v.ownBlock = some g → ¬ S g) : OwnF w' B v l := by
  rcases h.2 with ⟨rfl, h0⟩ | ⟨g, cap, cur, rfl, hbg, hg, hnc, hcm, hcs, htake⟩
  · exact ⟨h.1, .inl ⟨rfl, h0⟩⟩
  · exact ⟨h.1, .inr ⟨g, cap, cur, rfl, hbg, (ho.block g (Array.getElem?_eq_some_iff.1 hg).1 (hv g rfl)).trans hg, hnc, hcm, hcs, htake⟩⟩
theorem OwnF.turned (h : OwnF w B v l) (t : TurnsIn (fun b => v.ownBlock = some b) w w') (hB : B ≤ w.heap.size) : Below B w w' :=
  t.toBelow hB fun b hb he => by have := h.lt b he; omega
theorem elemF : Tryd.prog.underlying 28 = some (.slice 95) ∧ (Tryd.prog.info? 95).map (fun i => (i.zero, i.size, i.bytes)) = some (some (.agg #[.int .i64 0, .string ⟨#[]⟩, .bool false]), 3, 32) := by
  constructor <;> kernel_rfl

theorem run_append_F (h : OwnF w B v l) (p : Int × Option (List Int)) (c : Nat) (hsz : l.length ≤ 1000000000) (hbase : B ≤ w.heap.size) (ty : TypeId) :
    ∃ A' c' w', (Builtin.append_ #[28, 28] ty #[v, .slice (some ⟨w.heap.size, 0, none⟩) 1 c]).run Tryd.prog (w.alloc (.cells (cellsF p).toArray 95)) = .ok (.slice A' (l.length + 1) c') w' ∧
      OwnF w' B (.slice A' (l.length + 1) c') (l ++ [p]) ∧ TurnsIn (fun b => v.ownBlock = some b) w w' := by
  obtain ⟨ht, hinfo⟩ := elemF
  obtain ⟨i, hi, hz, hs, hby⟩ := info_parts hinfo
  have hnew := Block.new w 95 (cellsF p).toArray
  obtain ⟨g, cap, w', hrun, h2, h3, _, _⟩ := run_append_lies (P := Tryd.prog) (w.alloc (.cells (cellsF p).toArray 95)) 28 ty B 95 i _ 3 32 ht hi hz hs hby rfl (by omega) v l.length (l.flatMap cellsF) (h.alloc _)
    ⟨w.heap.size, 0, none⟩ 1 c (cellsF p) (by simp [cellsF]) (by
      intro j u hu
      have := World.news_of_block hnew j u (by simpa using hu)
      exact this) (by
      intro u hu
      simp [cellsF] at hu
      rcases hu with rfl | rfl | rfl <;> rfl) (by omega) (by unfold maxLen; omega) (by omega) (by simp; omega) _ rfl
  refine ⟨some ⟨g, 0, none⟩, cap, w', hrun, ?_, ((TurnsIn.refl _ w).alloc _).trans (.ofGrown h3 fun b hb => hb)⟩
  unfold OwnF
  rw [List.length_append, List.flatMap_append]
  simpa using h2
theorem wpList_append_F {ops : Array Oper} {rest : List Oper} {o : Oper} {a : Act} {Q : Exit → Act → World → Prop} (hgd : o.guard = none) (s x : Operand)
    (ho : o.op = Op.call { callee := Callee.builtin Builtin.append, args := #[s, x], argTypes := #[28, 28] })
    (p : Int × Option (List Int)) (hown : OwnF w B v l) (hs : a.eval s = v) {c : Nat} (hx : a.eval x = .slice (some ⟨w.heap.size, 0, none⟩) 1 c) (hsz : l.length ≤ 1000000000) (hbase : B ≤ w.heap.size)
    (hK : ∀ v' w', OwnF w' B v' (l ++ [p]) → Below B w w' → wpList Tryd.prog ops Q rest (a.put o.dst v') w') :
    wpList Tryd.prog ops Q (o :: rest) a (w.alloc (.cells #[.int .i64 p.1, .string (strB p.2), .bool p.2.isNone] 95)) := by
  refine wpList_plain hgd fun K hK2 => ?_
  obtain ⟨A', c', w', hrun, h2, h3⟩ := run_append_F hown p c hsz hbase o.type
  have hrun' : (Builtin.append_ #[28, 28] o.type #[v, .slice (some ⟨w.heap.size, 0, none⟩) 1 c]).run Tryd.prog (w.alloc (.cells #[.int .i64 p.1, .string (strB p.2), .bool p.2.isNone] 95)) = .ok (.slice A' (l.length + 1) c') w' := hrun
  unfold Oper.wp
  simp only [execOp, ho, resolve, invoke, builtin, Sem.run_bind, Sem.run_pure, Result.andThen_ok, List.map_toArray, List.map_cons, List.map_nil, hs, hx, hrun']
  exact hK2 _ _ (hK _ _ h2 (hown.turned h3 hbase))
end

/-- find: where a sector stands. -/
def FindsAt (l : Sl) (k : Int) (w : World) (e : Ending) (w' : World) : Prop :=
  w = w' ∧ match getS l k with
    | none => e = .returned (.int .i64 (-1))
    | some o => ∃ i : Nat, l[i]? = some (k, o) ∧ e = .returned (.int .i64 i)
theorem getS_take {l : Sl} {k : Int} {j : Nat} (hj : j < l.length) (h : getS (l.take j) k = none) : getS l k = if (l.getD j (0, none)).1 = k then some (l.getD j (0, none)).2 else getS (l.drop (j + 1)) k := by
  induction l generalizing j with
  | nil => simp at hj
  | cons q r ih =>
    obtain ⟨i, u⟩ := q
    cases j with
    | zero => rfl
    | succ n =>
      have e1 : getS ((i, u) :: r.take n) k = if i = k then some u else getS (r.take n) k := rfl
      rw [List.take_succ_cons, e1] at h
      have e2 : getS ((i, u) :: r) k = if i = k then some u else getS r k := rfl
      by_cases c : i = k
      · rw [if_pos c] at h; cases h
      · rw [if_neg c] at h
        rw [e2, if_neg c, ih (by simpa using hj) h]
        simp
theorem getS_take_next {l : Sl} {k : Int} {j : Nat} (hj : j < l.length) (h : getS (l.take j) k = none) (hk : (l.getD j (0, none)).1 ≠ k) : getS (l.take (j + 1)) k = none := by
  induction l generalizing j with
  | nil => simp at hj
  | cons q r ih =>
    obtain ⟨i, u⟩ := q
    cases j with
    | zero =>
      have e1 : getS ((i, u) :: ([] : Sl)) k = if i = k then some u else none := rfl
      simp only [Nat.zero_add, List.take_succ_cons, List.take_zero]
      rw [e1, if_neg (by simpa using hk)]
    | succ n =>
      have e1 : ∀ m, getS ((i, u) :: r.take m) k = if i = k then some u else getS (r.take m) k := fun _ => rfl
      rw [List.take_succ_cons, e1] at h ⊢
      by_cases c : i = k
      · rw [if_pos c] at h; cases h
      · rw [if_neg c] at h ⊢
        exact ih (by simpa using hj) h (by simpa using hk)

set_option maxRecDepth 100000 in
set_option maxHeartbeats 1600000 in
theorem find_any (A : Option Addr) (l : Sl) (c : Nat) (k : Int) (w : World) (hl : l.length ≤ 1000000000) (hr : HoldsF w w.heap.size A l) :
    Calls Tryd.prog 80 #[.slice A l.length c, .int .i64 k] w (FindsAt l k w) := by
  have HT := Lib.hid (fun j (h : j < l.length) => @getS_take l k j h)
  have HN := Lib.hid (fun j (h : j < l.length) => @getS_take_next l k j h)
  have HE : Hid (l.take l.length = l) := Lib.hid List.take_length
  go_enter Tryd.func80, Tryd.ntmps80
  go_wp2
  go_loop [8] (fun i => ∃ j : Nat, j ≤ l.length ∧ i = .int .i64 j ∧ getS (l.take j) k = none) (fun i => l.length - (intOf i).toNat)
  case atStart => exact ⟨0, Nat.zero_le _, rfl, rfl⟩
  case round =>
    obtain ⟨j, hj, rfl, hnone⟩ := hrel
    have Ha := Lib.hid hnone
    clear hnone
    by_cases hlt : j < l.length
    · obtain ⟨b, off, rfl, hb, hc⟩ := hr (by omega)
      have hp : l[j]? = some (l.getD j (0, none)) := by simp [List.getD, List.getElem?_eq_getElem hlt]
      have hcj : w.cell? ⟨b, off + j * 3, none⟩ = some (.int .i64 (l.getD j (0, none)).1) := hc j _ hp 0 _ rfl
      have hnext := Lib.hid (HN.out j hlt Ha.out)
      have hthis := Lib.hid (HT.out j hlt Ha.out)
      have HP := Lib.hid hp
      clear hc hp
      generalize l.getD j (0, none) = q at *
      have d1 : decide ((j : Int) < (l.length : Int)) = true := decide_eq_true (by omega)
      have d2 : decide (j < l.length) = true := decide_eq_true hlt
      by_cases hq : q.1 = k
      · have e1 : (q.1 == k) = true := by simpa using hq
        have hg : getS l k = some q.2 := by rw [hthis.out, if_pos hq]
        have Hg := Lib.hid hg
        have HQ := Lib.hid hq
        clear hg hq
        go_wp2
        go_ret
        refine ⟨rfl, ?_⟩
        rw [Hg.out]
        exact ⟨j, by rw [HP.out, ← HQ.out], rfl⟩
      · have e1 : (q.1 == k) = false := by simpa using hq
        have HQ := Lib.hid hq
        clear hq
        go_wp2
        go_round
        case rel => exact ⟨j + 1, hlt, by go_num, hnext.out HQ.out⟩
        case measure => simp [intOf] <;> omega
    · obtain rfl : j = l.length := by omega
      have d1 : decide ((l.length : Int) < (l.length : Int)) = false := decide_eq_false (by omega)
      have d2 : decide (l.length < l.length) = false := decide_eq_false (by omega)
      rw [HE.out] at Ha
      go_wp2
      go_ret
      refine ⟨rfl, ?_⟩
      rw [Ha.out]
      rfl
end Go.Proofs.YtpnodocjpedcmaaDoor.Sec
