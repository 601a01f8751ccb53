/-
  Layer 6, the document's sectors: put: contract. Conditions: as each theorem names.
-/
import Derived.Test.YtpnodocjpedcmaaDoorMGIays0
import Derived.Deep.RegionWith
namespace Go.Proofs.YtpnodocjpedcmaaDoor.Sec
open Go.ChangeShapes Go.WideShapes Go.ChangeAt Go.RowKit Go.Proofs.YtpnodocjpedcmaaDoor.Kit

/-- A row of cells of any values is loaded, where a guard may stand. -/
theorem wpList_load_midV {P : Program} {w : World} {ops : Array Oper} {rest : List Oper} {o : Oper} {a : Act} {Q : Exit → Act → World → Prop} (hw : Region.wanted o (yielded ops a.tmps) = true) (ty : TypeId) (x : Operand) (ho : o.op = .load ty x)
    (b f : Nat) (hx : a.eval x = .pointer (some ⟨b, f, none⟩)) (cs : List Value) (hc : w.rangeAt b f cs) {d : TypeDesc} (hu : P.underlying ty = some d) (hd : d.isRow = true) (hi : (P.info? ty).map (·.size) = some cs.length)
    (hK : wpList P ops Q rest (a.put o.dst (.agg cs.toArray)) w) : wpList P ops Q (o :: rest) a w :=
  wpList_step fun K hK' => by
    rw [if_pos hw]
    exact wp_load_mid ty x ho b f hx cs d hc hu hd hi (hK' _ _ hK)
theorem block_range {w : World} {g : Nat} {t : TypeId} {L : List Value} (h : Block w g t L.toArray) : w.rangeAt g 0 L := by
  intro j v hj
  rw [h.cell, List.getElem?_toArray, Nat.zero_add, hj]

/-- One round of put. -/
def stepP (k : Int) (o : Option (List Int)) (s : Sl × Bool) (p : Int × Option (List Int)) : Sl × Bool :=
  if s.2 = false ∧ k ≤ p.1 then (if p.1 = k then (s.1 ++ [(k, o)], true) else (s.1 ++ [(k, o)] ++ [p], true)) else (if p.1 = k then s else (s.1 ++ [p], s.2))
def finP (k : Int) (o : Option (List Int)) (s : Sl × Bool) : Sl := if s.2 = true then s.1 else s.1 ++ [(k, o)]
theorem put_tail (k : Int) (o : Option (List Int)) : ∀ (l acc : Sl), (∀ p ∈ l, k < p.1) → l.foldl (stepP k o) (acc, true) = (acc ++ l, true)
  | [], acc, _ => by simp
  | p :: r, acc, h => by
    have hp := h p (by simp)
    rw [List.foldl_cons]
    have e : stepP k o (acc, true) p = (acc ++ [p], true) := by
      unfold stepP
      rw [if_neg (by simp), if_neg (by omega)]
    rw [e, put_tail k o r (acc ++ [p]) (fun x hx => h x (List.mem_cons_of_mem _ hx))]
    simp
theorem put_fold (k : Int) (o : Option (List Int)) : ∀ (l acc : Sl), Up l → finP k o (l.foldl (stepP k o) (acc, false)) = acc ++ putS l k o
  | [], acc, _ => rfl
  | p :: r, acc, h => by
    obtain ⟨j, u⟩ := p
    obtain ⟨h1, h2⟩ := List.pairwise_cons.1 h
    rw [List.foldl_cons]
    unfold putS
    by_cases c1 : k < j
    · have e : stepP k o (acc, false) (j, u) = (acc ++ [(k, o)] ++ [(j, u)], true) := by
        unfold stepP
        rw [if_pos ⟨rfl, by show k ≤ j; omega⟩, if_neg (by show ¬ j = k; omega)]
      rw [e, put_tail k o r _ (fun x hx => by have : j < x.1 := h1 x hx; omega), if_pos c1]
      unfold finP
      simp
    · by_cases c2 : k = j
      · subst c2
        have e : stepP k o (acc, false) (k, u) = (acc ++ [(k, o)], true) := by
          unfold stepP
          rw [if_pos ⟨rfl, Int.le_refl _⟩, if_pos rfl]
        rw [e, put_tail k o r _ (fun x hx => by have : k < x.1 := h1 x hx; omega), if_neg c1, if_pos rfl]
        unfold finP
        simp
      · have e : stepP k o (acc, false) (j, u) = (acc ++ [(j, u)], false) := by
          unfold stepP
          rw [if_neg (by rintro ⟨_, hh⟩; have : k ≤ j := hh; omega), if_neg (by show ¬ j = k; omega)]
        rw [e, put_fold k o r _ h2, if_neg c1, if_neg c2]
        simp
theorem stepP_len (k : Int) (o : Option (List Int)) : ∀ (l : Sl) (s : Sl × Bool), (l.foldl (stepP k o) s).1.length ≤ s.1.length + 2 * l.length
  | [], s => by simp
  | p :: r, s => by
    rw [List.foldl_cons]
    have := stepP_len k o r (stepP k o s p)
    have e : (stepP k o s p).1.length ≤ s.1.length + 2 := by
      unfold stepP
      split
      · split <;> simp
      · split <;> simp
    rw [List.length_cons]
    omega
def putA (l : Sl) (k : Int) (o : Option (List Int)) (j : Nat) : Sl × Bool := (l.take j).foldl (stepP k o) ([], false)
theorem putA_next (l : Sl) (k : Int) (o : Option (List Int)) (j : Nat) (h : j < l.length) : putA l k o (j + 1) = stepP k o (putA l k o j) (l.getD j (0, none)) := by
  unfold putA
  rw [List.take_succ_eq_append_getElem h, List.foldl_append]
  simp [List.getD, List.getElem?_eq_getElem h]
theorem putA_len (l : Sl) (k : Int) (o : Option (List Int)) (j : Nat) : (putA l k o j).1.length ≤ 2 * l.length := by
  have := stepP_len k o (l.take j) ([], false)
  have := List.length_take_le j l
  unfold putA
  simp at *
  omega

def GivesF (l : Sl) (w : World) (e : Ending) (w' : World) : Prop := ∃ v, e = .returned v ∧ OwnF w' w.heap.size v l ∧ Below w.heap.size w w'

set_option maxRecDepth 100000 in
set_option maxHeartbeats 6400000 in
theorem put_any (A : Option Addr) (l : Sl) (c : Nat) (k : Int) (o : Option (List Int)) (w : World) (hl : l.length ≤ 10000000) (hu : Up l) (hr : HoldsF w w.heap.size A l) :
    Calls Tryd.prog 44 #[.slice A l.length c, .agg (cellsF (k, o)).toArray] w (GivesF (putS l k o) w) := by
  have HF : Hid (finP k o (putA l k o l.length) = putS l k o) := Lib.hid (by have := put_fold k o l [] hu; unfold putA; rw [List.take_length, this]; rfl)
  have HA := Lib.hid (fun j (h : j < l.length) => putA_next l k o j h)
  have HL := Lib.hid (fun j => putA_len l k o j)
  have H0 : Hid (putA l k o 0 = ([], false)) := Lib.hid rfl
  generalize putS l k o = R at *
  have X1 : Block (w.alloc (.cells (cellsF (k, o)).toArray 95)) w.heap.size 95 (cellsF (k, o)).toArray := Block.new w _ _
  have B1 : Below w.heap.size w (w.alloc (.cells (cellsF (k, o)).toArray 95)) := (Below.refl _ _).alloc (Nat.le_refl _) _
  have hr1 := hr.below B1
  have z1 : (w.alloc (.cells (cellsF (k, o)).toArray 95)).heap.size = w.heap.size + 1 := by simp
  generalize hW : w.alloc (.cells (cellsF (k, o)).toArray 95) = w1 at *
  have own0 : OwnF (w1.alloc (.cells #[] 95)) (w.heap.size + 1) (.slice (some ⟨w1.heap.size, 0, none⟩) 0 0) [] := OwnF.empty w1 (by omega)
  have C0 : Below (w.heap.size + 1) w1 (w1.alloc (.cells #[] 95)) := (Below.refl _ _).alloc (by omega) _
  have Hz := Lib.hid z1
  have Hle : w.heap.size + 1 ≤ w1.heap.size := by omega
  clear z1 hr hu
  go_enter Tryd.func44, Tryd.ntmps44
  go_wp2
  go_loopw [5, 6, 11] (fun v d i wz => ∃ j : Nat, j ≤ l.length ∧ i = .int .i64 j ∧ d = .bool (putA l k o j).2 ∧ OwnF wz (w.heap.size + 1) v (putA l k o j).1 ∧ Below (w.heap.size + 1) w1 wz) (fun _ _ i _ => l.length - (intOf i).toNat)
  case atStart => exact ⟨0, Nat.zero_le _, rfl, by rw [H0.out], by rw [H0.out]; first | exact own0 | (simpa using own0), by first | exact C0 | (simpa using C0)⟩
  case round =>
    clear own0 C0
    obtain ⟨j, hj, rfl, rfl, own, C⟩ := hrel
    have hlen := HL.out j
    have X := X1.below C (by omega)
    have hk0 : wr.cell? ⟨w.heap.size, 0, none⟩ = some (.int .i64 k) := X.cell 0
    by_cases hlt : j < l.length
    · obtain ⟨b, off, rfl, hb, hc⟩ := hr1 (by omega)
      have hp : l[j]? = some (l.getD j (0, none)) := by simp [List.getD, List.getElem?_eq_getElem hlt]
      have hcw : wr.rangeAt b (off + j * 3) (cellsF (l.getD j (0, none))) := fun i u hu => (C.cell (p := ⟨b, _, none⟩) (by show b < w.heap.size + 1; omega)).trans (hc j _ hp i u hu)
      have hcj : wr.cell? ⟨b, off + j * 3, none⟩ = some (.int .i64 (l.getD j (0, none)).1) := hcw 0 _ rfl
      have hnext := Lib.hid (HA.out j hlt)
      have hr2 := Lib.hid (fun (wz : World) (h : Below (w.heap.size + 1) w1 wz) => (fun i u hu => (h.cell (p := ⟨b, _, none⟩) (by show b < w.heap.size + 1; omega)).trans (hc j _ hp i u hu) : wz.rangeAt b (off + j * 3) (cellsF (l.getD j (0, none)))))
      clear hc hp HA HL
      generalize hq : l.getD j (0, none) = q at *
      clear hq
      obtain ⟨out, d, hst⟩ : ∃ out d, putA l k o j = (out, d) := ⟨_, _, rfl⟩
      rw [hst] at own hlen hnext
      simp only [hst]
      clear hst
      have d1 : decide ((j : Int) < (l.length : Int)) = true := decide_eq_true (by omega)
      have d2 : decide (j < l.length) = true := decide_eq_true hlt
      have HB := Lib.hid C
      have hxr := Lib.hid (fun (wz : World) (h : Below (w.heap.size + 1) w1 wz) => block_range (L := cellsF (k, o)) (X1.below h (by omega)))
      simp only at own hlen
      clear C X
      by_cases ht : d = false ∧ k ≤ q.1
      · obtain ⟨rfl, hle⟩ := ht
        have hd3 : decide (k ≤ q.1) = true := decide_eq_true hle
        by_cases he : q.1 = k
        · have he1 : (q.1 != k) = false := by simpa using he
          have he2 : (q.1 == k) = true := by simpa using he
          have HS : Hid (putA l k o (j + 1) = (out ++ [(k, o)], true)) := Lib.hid (by rw [hnext.out]; unfold stepP; rw [if_pos ⟨rfl, hle⟩, if_pos he])
          clear he hnext
          go_wp2_with fail
          go_quiet (fail)
          have C4 : Below (w.heap.size + 1) w1 (wr.drewN nq) := below_draws HB.out _
          have own4 := own.drewN nq
          go_wp2_with (first
            | (have _t := own4; refine wpList_load_midV (by rfl) _ _ rfl w.heap.size 0 rfl [.int .i64 k, .string (strB o), .bool o.isNone] (hxr.out _ C4) Tryd.underlying95 rfl (by rfl) ?_)
            | (have _t := own4; at_builtin; refine wpList_append_F rfl _ _ rfl (k, o) own4 rfl rfl (by omega) (by have := C4.size; omega) ?_; clear _t; intro v5 w5 own5 b5; have C5 := C4.trans b5; have m0 : w5.cell? ⟨b, off + j * 3, none⟩ = some (.int .i64 q.1) := hr2.out w5 C5 0 _ rfl; have m1 : w5.cell? ⟨w.heap.size, 0, none⟩ = some (.int .i64 k) := hxr.out w5 C5 0 _ rfl; clear own4 own hk0 hcj))
          go_quiet (fail)
          have C6 : Below (w.heap.size + 1) w1 (w5.drewN nq) := below_draws C5 _
          have own6 := own5.drewN nq
          go_wp2_with fail
          go_roundw
          case rel => exact ⟨j + 1, hlt, by go_num, by rw [HS.out], by rw [HS.out]; exact own6, C6⟩
          case measure => simp [intOf] <;> omega
        · have he1 : (q.1 != k) = true := by simpa using he
          have he2 : (q.1 == k) = false := by simpa using he
          have HS : Hid (putA l k o (j + 1) = (out ++ [(k, o)] ++ [q], true)) := Lib.hid (by rw [hnext.out]; unfold stepP; rw [if_pos ⟨rfl, hle⟩, if_neg he])
          clear he hnext
          go_wp2_with fail
          go_quiet (fail)
          have C4 : Below (w.heap.size + 1) w1 (wr.drewN nq) := below_draws HB.out _
          have own4 := own.drewN nq
          go_wp2_with (first
            | (have _t := own4; refine wpList_load_midV (by rfl) _ _ rfl w.heap.size 0 rfl [.int .i64 k, .string (strB o), .bool o.isNone] (hxr.out _ C4) Tryd.underlying95 rfl (by rfl) ?_)
            | (have _t := own4; at_builtin; refine wpList_append_F rfl _ _ rfl (k, o) own4 rfl rfl (by omega) (by have := C4.size; omega) ?_; clear _t; intro v5 w5 own5 b5; have C5 := C4.trans b5; have m0 : w5.cell? ⟨b, off + j * 3, none⟩ = some (.int .i64 q.1) := hr2.out w5 C5 0 _ rfl; have m1 : w5.cell? ⟨w.heap.size, 0, none⟩ = some (.int .i64 k) := hxr.out w5 C5 0 _ rfl; clear own4 own hk0 hcj))
          go_quiet (fail)
          have C6 : Below (w.heap.size + 1) w1 (w5.drewN nq) := below_draws C5 _
          have own6 := own5.drewN nq
          generalize w5.drewN nq = w6 at *
          go_wp2_with (first
            | (have _t := own6; refine wpList_load_midV (by rfl) _ _ rfl b (off + j * 3) rfl [.int .i64 q.1, .string (strB q.2), .bool q.2.isNone] (hr2.out _ C6) Tryd.underlying95 rfl (by rfl) ?_)
            | (have _t := own6; at_builtin; refine wpList_append_F rfl _ _ rfl q own6 rfl rfl (by first | omega | (simp only [List.length_append, List.length_cons, List.length_nil]; omega)) (by have := C6.size; omega) ?_; clear _t; intro v7 w7 own7 b7; have C7 := C6.trans b7; clear own6))
          go_roundw
          case rel => exact ⟨j + 1, hlt, by go_num, by rw [HS.out], by rw [HS.out]; exact own7, C7⟩
          case measure => simp [intOf] <;> omega
      · cases d with
        | true =>
          by_cases he : q.1 = k
          · have he1 : (q.1 != k) = false := by simpa using he
            have he2 : (q.1 == k) = true := by simpa using he
            have HS : Hid (putA l k o (j + 1) = (out, true)) := Lib.hid (by rw [hnext.out]; unfold stepP; rw [if_neg (by simp), if_pos he])
            clear he hnext
            go_wp2_with fail
            go_quiet (fail)
            have m0 : (wr.drewN nq).cell? ⟨b, off + j * 3, none⟩ = some (.int .i64 q.1) := hr2.out _ (below_draws HB.out nq) 0 _ rfl
            have m1 : (wr.drewN nq).cell? ⟨w.heap.size, 0, none⟩ = some (.int .i64 k) := hxr.out _ (below_draws HB.out nq) 0 _ rfl
            have own5 := own.drewN nq
            have C5 : Below (w.heap.size + 1) w1 (wr.drewN nq) := below_draws HB.out _
            generalize wr.drewN nq = w5 at *
            go_wp2_with fail
            go_quiet (fail)
            have C6 : Below (w.heap.size + 1) w1 (w5.drewN nq) := below_draws C5 _
            have own6 := own5.drewN nq
            go_wp2_with fail
            go_roundw
            case rel => exact ⟨j + 1, hlt, by go_num, by rw [HS.out], by rw [HS.out]; exact own6, C6⟩
            case measure => simp [intOf] <;> omega
          · have he1 : (q.1 != k) = true := by simpa using he
            have he2 : (q.1 == k) = false := by simpa using he
            have HS : Hid (putA l k o (j + 1) = (out ++ [q], true)) := Lib.hid (by rw [hnext.out]; unfold stepP; rw [if_neg (by simp), if_neg he])
            clear he hnext
            go_wp2_with fail
            go_quiet (fail)
            have m0 : (wr.drewN nq).cell? ⟨b, off + j * 3, none⟩ = some (.int .i64 q.1) := hr2.out _ (below_draws HB.out nq) 0 _ rfl
            have m1 : (wr.drewN nq).cell? ⟨w.heap.size, 0, none⟩ = some (.int .i64 k) := hxr.out _ (below_draws HB.out nq) 0 _ rfl
            have own5 := own.drewN nq
            have C5 : Below (w.heap.size + 1) w1 (wr.drewN nq) := below_draws HB.out _
            generalize wr.drewN nq = w5 at *
            go_wp2_with fail
            go_quiet (fail)
            have C6 : Below (w.heap.size + 1) w1 (w5.drewN nq) := below_draws C5 _
            have own6 := own5.drewN nq
            generalize w5.drewN nq = w6 at *
            go_wp2_with (first
              | (have _t := own6; refine wpList_load_midV (by rfl) _ _ rfl b (off + j * 3) rfl [.int .i64 q.1, .string (strB q.2), .bool q.2.isNone] (hr2.out _ C6) Tryd.underlying95 rfl (by rfl) ?_)
              | (have _t := own6; at_builtin; refine wpList_append_F rfl _ _ rfl q own6 rfl rfl (by first | omega | (simp only [List.length_append, List.length_cons, List.length_nil]; omega)) (by have := C6.size; omega) ?_; clear _t; intro v7 w7 own7 b7; have C7 := C6.trans b7; clear own6))
            go_roundw
            case rel => exact ⟨j + 1, hlt, by go_num, by rw [HS.out], by rw [HS.out]; exact own7, C7⟩
            case measure => simp [intOf] <;> omega
        | false =>
          have hle : ¬ k ≤ q.1 := fun h => ht ⟨rfl, h⟩
          have hd3 : decide (k ≤ q.1) = false := decide_eq_false hle
          have he : ¬ q.1 = k := by omega
          have he1 : (q.1 != k) = true := by simpa using he
          have he2 : (q.1 == k) = false := by simpa using he
          have HS : Hid (putA l k o (j + 1) = (out ++ [q], false)) := Lib.hid (by rw [hnext.out]; unfold stepP; rw [if_neg (by rintro ⟨_, h⟩; exact hle h), if_neg he])
          clear he hnext
          go_wp2_with fail
          go_quiet (fail)
          have m0 : (wr.drewN nq).cell? ⟨b, off + j * 3, none⟩ = some (.int .i64 q.1) := hr2.out _ (below_draws HB.out nq) 0 _ rfl
          have m1 : (wr.drewN nq).cell? ⟨w.heap.size, 0, none⟩ = some (.int .i64 k) := hxr.out _ (below_draws HB.out nq) 0 _ rfl
          have own5 := own.drewN nq
          have C5 : Below (w.heap.size + 1) w1 (wr.drewN nq) := below_draws HB.out _
          generalize wr.drewN nq = w5 at *
          go_wp2_with fail
          go_quiet (fail)
          have C6 : Below (w.heap.size + 1) w1 (w5.drewN nq) := below_draws C5 _
          have own6 := own5.drewN nq
          generalize w5.drewN nq = w6 at *
          go_wp2_with (first
            | (have _t := own6; refine wpList_load_midV (by rfl) _ _ rfl b (off + j * 3) rfl [.int .i64 q.1, .string (strB q.2), .bool q.2.isNone] (hr2.out _ C6) Tryd.underlying95 rfl (by rfl) ?_)
            | (have _t := own6; at_builtin; refine wpList_append_F rfl _ _ rfl q own6 rfl rfl (by first | omega | (simp only [List.length_append, List.length_cons, List.length_nil]; omega)) (by have := C6.size; omega) ?_; clear _t; intro v7 w7 own7 b7; have C7 := C6.trans b7; clear own6))
          go_roundw
          case rel => exact ⟨j + 1, hlt, by go_num, by rw [HS.out], by rw [HS.out]; exact own7, C7⟩
          case measure => simp [intOf] <;> omega
    · obtain rfl : j = l.length := by omega
      have d1 : decide ((l.length : Int) < (l.length : Int)) = false := decide_eq_false (by omega)
      have d2 : decide (l.length < l.length) = false := decide_eq_false (by omega)
      have hX := block_range (L := [.int .i64 k, .string (strB o), .bool o.isNone]) X
      obtain ⟨out, d, hst⟩ : ∃ out d, putA l k o l.length = (out, d) := ⟨_, _, rfl⟩
      rw [hst] at own hlen HF
      simp only [hst]
      clear hst
      simp only at own hlen
      cases d with
      | true =>
        have hR : out = R := HF.out
        have HR := Lib.hid hR
        clear hR
        go_wp2_with fail
        go_ret
        exact ⟨_, rfl, by rw [← HR.out]; exact own.mono (by omega), B1.trans (C.mono (by omega))⟩
      | false =>
        have hR : out ++ [(k, o)] = R := HF.out
        have HR := Lib.hid hR
        clear hR
        go_wp2_with (first
          | (have _t := own; refine wpList_load_midV (by rfl) _ _ rfl w.heap.size 0 rfl [.int .i64 k, .string (strB o), .bool o.isNone] hX Tryd.underlying95 rfl (by rfl) ?_)
          | (have _t := own; at_builtin; refine wpList_append_F rfl _ _ rfl (k, o) own rfl rfl (by omega) (by have := C.size; omega) ?_; clear _t; intro v5 w5 own5 b5; have C5 := C.trans b5; clear own))
        go_ret
        exact ⟨_, rfl, by rw [← HR.out]; exact own5.mono (by omega), B1.trans (C5.mono (by omega))⟩
end Go.Proofs.YtpnodocjpedcmaaDoor.Sec
