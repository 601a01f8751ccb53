/-
  Layer 6, sector: Sync: contract. Conditions: as each theorem names.
  Layer 6, sector: a map's keys, sorted: contract. Conditions: as each theorem names.
  Layer 6, the document's device: New, fall, Down: contracts. Conditions: as each theorem names.
  Layer 24, journal: a record that comes in. Conditions: as each theorem names.
-/
import Derived.Test.YtpnodocjpedcmaaDoorMSeG
import Derived.Test.YtpnodocjpedcmaaDoorMGIays0
import Derived.Maps.RangeWalk
import Derived.LoopTactic
import Derived.Test.YtpnodocjpedcmaaDoorMSkA
import Derived.Test.YtpnodocjpedcmaaDoorMSfB
import Derived.Test.YtpnodocjpedcmaaDoorMJrA
import Derived.Test.YtpnodocjpedcmaaDoorMGIays1
import Derived.IntWalk
namespace Go.Proofs.YtpnodocjpedcmaaDoor.Sec
open Go.ChangeShapes Go.WideShapes Go.ChangeAt Go.RowKit Go.Proofs.YtpnodocjpedcmaaDoor.Kit Go.Maps Go.ChangeMaps Go.MapKept

/-- What waits is kept, and waits no more. -/
def Dv.flush (s : Dv) : Dv := { s with kept := merge s.kept s.waits, waits := [] }
def Dv.sync (s : Dv) : Int × Dv := if s.off = true then (8, s) else if s.fuse = 0 then (8, s.tick) else (0, s.tick.flush)
theorem Dv.Ok.flush {s : Dv} (h : s.Ok) : s.flush.Ok :=
  ⟨h.s1, h.s2, h.c1, h.c2, merge_up h.ku, up_nil, fun p hp => by
    rcases mem_merge hp with hp | hp
    · exact h.kr p hp
    · exact h.wr_ p hp, fun _ h => (List.not_mem_nil h).elim, fun _ h => (List.not_mem_nil h).elim, h.f1, h.f2, h.o1, h.w1⟩

/-- clear(m). -/
theorem MapAt.clear {w : World} {I : Nat → Prop} {R : Value → Option (DataW Unit × List MemPlace)} {b n : Nat} {l : Sl} {t e : TypeId} (ht : Tryd.prog.underlying t = some (.map 3 e)) (h : MapAt w I R b n l) :
    ∃ w', (∀ ty, (Builtin.clear_ #[t] ty #[.map (some b)]).run Tryd.prog w = .ok (.tuple #[]) w') ∧ MapAt w' I R b n [] ∧ w.mapTurned w' b := by
  obtain ⟨es, ⟨e1, c1, h1, F, _⟩, h2⟩ := h
  refine ⟨setBlock w b (.map #[] c1), fun ty => ?_, ?_, ⟨e1, c1, #[], c1, h1, rfl⟩⟩
  · simp [Builtin.clear_, run_underlying ht, MapKept.run_getObj_map h1, MapKept.run_setObj_map _ h1, Result.andThen, setBlock]
  · refine ⟨[], ⟨#[], c1, heap_setBlock_same h1 _, ⟨by simp, MapKept.stamped_empty c1, by simp⟩, Nat.le_refl _, rfl⟩, .nil⟩

/-- A device, its map of what waits under way in a loop. -/
theorem has_get {w : World} {I : Nat → Prop} {n : Nat} {es : List (Lit × DataW Unit)} {l : Sl} (h : Ties w I n es l) (k : Int) (hk : Maps.has (.map es) (.int .i64 k) = true) : ∃ o, getS l k = some o := by
  cases hg : getS l k with
  | some o => exact ⟨o, rfl⟩
  | none => rw [(h.get_no k hg).1] at hk; cases hk

/-- The loop of Sync: kc is kept by now; left tells what is still to come. -/
structure Going (w0 w : World) (I : Nat → Prop) (a mk mw r N : Nat) (s : Dv) (es : List (Lit × DataW Unit)) (left : Lit → Bool) (cnt : Nat) (kc : Sl) : Prop where
  blk : Block w a 91 (s.cells mk mw)
  k : MapAt w I RK mk s.size kc
  ku : Up kc
  kr : ∀ p ∈ kc, 0 ≤ p.1 ∧ p.1 < s.count
  rg : w.ranges Tryd.prog 3 RW mw r N (.map es) left cnt
  ties : Ties w I s.size es s.waits
  sub : ∀ kl, left kl = true → Maps.has (.map es) kl = true
  is : ∀ j, getS kc j = match getS s.waits j with | some o => if left (.int .i64 j) = true then getS s.kept j else some o | none => getS s.kept j
  tn : TurnsIn (DSet a mk mw) w0 w
  nr : w0.heap.size ≤ r
  na : a < w0.heap.size
  nk : mk < w0.heap.size
  nw : mw < w0.heap.size

theorem iter_no_row {w : World} {b r n : Nat} {D : DataW Unit} {left : Lit → Bool} {cnt : Nat} (h : w.ranges Tryd.prog 3 RW b r n D left cnt) (cs : Array Value) (t : TypeId) (f : Nat × Nat) : w.heap[r]? ≠ some (.cells cs t f) := by
  obtain ⟨es, clock, since, seen, c0, _, _, _, _, hr, _⟩ := h
  rw [hr]
  intro e
  injection e with e
  cases e

/-- One entry is kept. -/
theorem Going.step {w0 w1 : World} {I : Nat → Prop} {a mk mw r N : Nat} {s : Dv} {es : List (Lit × DataW Unit)} {left : Lit → Bool} {cnt cnt1 : Nat} {kc : Sl} {w : World} (hok : s.Ok) (ne : mk ≠ mw) (h : Going w0 w I a mk mw r N s es left cnt kc) (x : Int) (v : Value) (y : DataW Unit × List MemPlace)
    (hx : (Lit.int .i64 x).wf = true) (hl : left (.int .i64 x) = true) (hv : RW v = some y) (hat : ∀ zd, (DataW.map es).atKey (.int .i64 x) zd = y.1) (hrg : w1.ranges Tryd.prog 3 RW mw r N (.map es) (fun z => left z && !z.sameKey (.int .i64 x)) cnt1) (hg : w.grownBy w1 (some r)) :
    w1.cell? ⟨a, 2, none⟩ = some (.map (some mk)) ∧ (∃ g m, v = .slice (some ⟨g, 0, none⟩) s.size m) ∧ ∃ w2, (Instr.mapUpdate 88 (.map (some mk)) (.int .i64 x) (.agg #[v, .bool false])).run Tryd.prog w1 = .ok () w2 ∧
      Going w0 w2 I a mk mw r N s es (fun z => left z && !z.sameKey (.int .i64 x)) cnt1 (putS kc x (match getS s.waits x with | some o => o | none => none)) := by
  obtain ⟨o, ho⟩ := has_get h.ties x (h.sub _ hl)
  obtain ⟨q1, q2⟩ := hok.wr_ _ (mem_getS ho)
  cases o with
  | none => exact absurd rfl (hok.wn _ (mem_getS ho))
  | some xs =>
    simp only [ho]
    obtain ⟨_, d, hd, htie⟩ := h.ties.get_yes x _ ho
    have hy : y.1 = d := by rw [← hat (.lit (.bool true)), hd]
    have hnr := fun cs f => iter_no_row h.rg cs 5 f
    have t1 : TurnsIn (fun b => b = r) w w1 := TurnsIn.ofGrown (row := some r) hg fun b hb => (Option.some.inj hb).symm
    have hS : ∀ b, b = r → I b → ∀ cs f, w.heap[b]? ≠ some (.cells cs 5 f) := by rintro b rfl _ cs f; exact hnr cs f
    have hna := h.na
    have hnk := h.nk
    have hnw := h.nw
    have hnrr := h.nr
    have blk1 := h.blk.out t1 (by omega)
    have k1 := h.k.out t1 (by omega) hS
    have ties1 := h.ties.out t1 hS
    obtain ⟨_, g, c, e1, e2, e3, eI, e4⟩ := htie.out t1 hS
    change d = codeS g s.size c at e1
    have hv' : RW v = some (codeS g s.size c, y.2) := by rw [hv, ← e1, ← hy]
    obtain rfl := RW_some hv'
    have hc2 := hok.c2
    have hfew : kc.length < 1000000000 := by
      have := up_length kc 0 h.ku h.kr
      omega
    have hxb : -9223372036854775808 ≤ x ∧ x ≤ 9223372036854775807 := by simp only at q1 q2; omega
    obtain ⟨w2, hrun, hm2, ht2⟩ := k1.store Tryd.underlying88 h.ku hfew x hxb _ (some xs) (GoodV.kept eI e2 e3 e4)
    have t2 : TurnsIn (fun b => b = mk) w1 w2 := TurnsIn.ofGrown (row := some mk) ht2.grown fun b hb => (Option.some.inj hb).symm
    have hS2 : ∀ b, b = mk → I b → ∀ cs f, w1.heap[b]? ≠ some (.cells cs 5 f) := fun b hb _ cs f => row_not_map k1 b hb cs f
    have hak : a ≠ mk := by
      rintro rfl
      exact h.k.no_row _ _ _ h.blk
    refine ⟨blk1.cell 2, ⟨g, c, rfl⟩, w2, hrun, ⟨blk1.out t2 hak, hm2, h.ku.putS x (some xs), fun p hp => ?_, ?_, ties1.out t2 hS2, fun kl hkl => ?_, fun j => ?_, ?_, h.nr, h.na, h.nk, h.nw⟩⟩
    · rcases mem_putS hp with rfl | hp
      · exact ⟨q1, q2⟩
      · exact h.kr p hp
    · refine hrg.kept ht2.grown (fun e => ne (Option.some.inj e).symm) (fun e => ?_)
      have := Option.some.inj e
      omega
    · simp only [Bool.and_eq_true] at hkl
      exact h.sub kl hkl.1
    · rw [getS_putS h.ku]
      by_cases c : j = x
      · subst c
        rw [if_pos rfl, ho]
        simp only [same_int, decide_true, Bool.not_true, Bool.and_false]
        rfl
      · rw [if_neg c, h.is j]
        simp only [same_int, decide_eq_false c, Bool.not_false, Bool.and_true]
    · refine (h.tn.then_ t1 fun b hb e => ?_).trans (t2.mono fun b _ e => Or.inr (Or.inl e))
      omega

/-- The loop is done. -/
theorem Going.done {w0 w : World} {I : Nat → Prop} {a mk mw r N : Nat} {s : Dv} {es : List (Lit × DataW Unit)} {left : Lit → Bool} {cnt : Nat} {kc : Sl} (hok : s.Ok) (ne : mk ≠ mw) (h : Going w0 w I a mk mw r N s es left cnt kc) (hl : ∀ kl, left kl = false) :
    w.cell? ⟨a, 3, none⟩ = some (.map (some mw)) ∧ ∃ w', (∀ ty, (Builtin.clear_ #[89] ty #[.map (some mw)]).run Tryd.prog w = .ok (.tuple #[]) w') ∧ DvAt w' I a mk mw s.flush ∧ TurnsIn (DSet a mk mw) w0 w' := by
  have hm : MapAt w I RW mw s.size s.waits := MapAt.of h.rg.owns h.ties
  obtain ⟨w', hrun, hm', ht⟩ := hm.clear Tryd.underlying89
  have t : TurnsIn (fun b => b = mw) w w' := TurnsIn.ofGrown (row := some mw) ht.grown fun b hb => (Option.some.inj hb).symm
  have hS : ∀ b, b = mw → I b → ∀ cs f, w.heap[b]? ≠ some (.cells cs 5 f) := fun b hb _ cs f => row_not_map hm b hb cs f
  have haw : a ≠ mw := by
    rintro rfl
    exact hm.no_row _ _ _ h.blk
  have hk : kc = merge s.kept s.waits := by
    refine sl_ext h.ku (merge_up hok.ku) fun j => ?_
    rw [h.is j, getS_merge hok.ku hok.wu]
    cases getS s.waits j with
    | none => rfl
    | some o => simp only [hl]; rfl
  refine ⟨h.blk.cell 3, w', hrun, ⟨h.blk.out t haw, ?_, hm', ne, hok.flush⟩, h.tn.trans (t.mono fun b _ e => Or.inr (Or.inr e))⟩
  show MapAt w' I RK mk s.size (merge s.kept s.waits)
  rw [← hk]
  exact h.k.out t ne hS

theorem Going.start {w1 w2 : World} {I : Nat → Prop} {a mk mw N : Nat} {s : Dv} {es : List (Lit × DataW Unit)} (hd : DvAt w1 I a mk mw s) (hties : Ties w1 I s.size es s.waits)
    (hrg : w2.ranges Tryd.prog 3 RW mw w1.heap.size N (.map es) (Maps.has (.map es)) (Maps.size (.map es))) (hg : w1.grownBy w2 none) :
    Going w1 w2 I a mk mw w1.heap.size N s es (Maps.has (.map es)) (Maps.size (.map es)) s.kept := by
  have t : TurnsIn (fun _ => False) w1 w2 := TurnsIn.ofGrown (row := none) hg fun b hb => by cases hb
  refine ⟨hd.blk.out t id, hd.k.out t id (fun _ h => h.elim), hd.ok.ku, hd.ok.kr, hrg, hties.out t (fun _ h => h.elim), fun _ h => h, fun j => ?_, t.mono fun _ _ h => h.elim, Nat.le_refl _, hd.lt.1, hd.lt.2.1, hd.lt.2.2⟩
  cases hj : getS s.waits j with
  | none => rfl
  | some o => simp only [(hties.get_yes j o hj).1, if_true]

theorem invK : ∀ key kl, keyOf Tryd.prog 3 key = some kl → ∃ x : Int, key = Value.int .i64 x := fun key kl h => by
  obtain ⟨x, rfl, _⟩ := Maps.keyOf_int_inv Tryd.underlying3 h
  exact ⟨x, rfl⟩
theorem invV : ∀ v y, RW v = some y → ∃ c : Value, v = id c := fun v _ _ => ⟨v, rfl⟩

set_option maxRecDepth 100000 in
set_option maxHeartbeats 3200000 in
theorem sync_any (I : Nat → Prop) (a mk mw : Nat) (s : Dv) (w : World) (h : DvAt w I a mk mw s) (hof : s.offs ≤ 1000000000) :
    Calls Tryd.prog 53 #[.pointer (some ⟨a, 0, none⟩)] w (Leaves I a mk mw w s.sync.2 (.int .i64 s.sync.1)) := by
  have GI := Lib.hid (isOn_any I a mk mw s w h)
  have GB := Lib.hid (blows_any I a mk mw s w h hof)
  unfold Dv.sync
  cases hoff : s.off with
  | true =>
    rw [if_pos rfl]
    rw [hoff] at GI
    go_enter Tryd.func53, Tryd.ntmps53
    go_wp2_with (go_at_call 41; (with_reducible refine GI.out.mono ?_); rintro e w1 ⟨rfl, rfl⟩)
    go_ret
    exact ⟨rfl, h, TurnsIn.refl _ _⟩
  | false =>
    rw [if_neg (by decide)]
    rw [hoff] at GI
    unfold Dv.blown at GB
    by_cases hf : s.fuse = 0
    · rw [if_pos hf]
      rw [decide_eq_true hf] at GB
      clear hf
      go_enter Tryd.func53, Tryd.ntmps53
      go_wp2_with (first
        | (go_at_call 41; (with_reducible refine GI.out.mono ?_); rintro e w1 ⟨rfl, rfl⟩)
        | (go_at_call 43; (with_reducible refine GB.out.mono ?_); rintro e w1 ⟨rfl, hd, ht⟩))
      go_ret
      exact ⟨rfl, hd, ht⟩
    · rw [if_neg hf]
      rw [decide_eq_false hf] at GB
      clear hf h hoff
      generalize s.tick = s2 at *
      go_enter Tryd.func53, Tryd.ntmps53
      go_wp2_with (first
        | (go_at_call 41; (with_reducible refine GI.out.mono ?_); rintro e w1 ⟨rfl, rfl⟩)
        | (go_at_call 43; (with_reducible refine GB.out.mono ?_); rintro e w1 ⟨rfl, hd, ht⟩; have q3 := hd.reads.2.2.2.1; have hwt := hd.wt; obtain ⟨es, hown, hties⟩ := hwt)
        | (at_range; refine wpList_range_own _ rfl _ 89 rfl 3 22 keyI Tryd.underlying89 RW mw s2.waits.length (.map es) rfl hown ?_; intro w2 hrg hg hs))
      have hst := Going.start hd hties hrg hg
      have hok := Lib.hid hd.ok
      have hne := hd.ne
      have hIs := Lib.hid ht
      clear hg hs hd ht hown hties q3 hrg GI GB
      generalize hr : w1.heap.size = r at *
      clear hr
      go_frame
      go_loopw [3] (fun _ wr => ∃ left cnt kc, Going w1 wr I a mk mw r s2.waits.length s2 es left cnt kc) (fun _ wr => wr.rangeLeft mw r)
      case atStart => exact ⟨_, _, _, hst⟩
      case round =>
        clear hst
        obtain ⟨left, cnt, kc, hgo⟩ := hrel
        have hrg := hgo.rg
        go_wp2_with (at_next; refine wpList_next_ranges _ rfl _ rfl 3 keyI RW (Value.int .i64) id invK invV mw r s2.waits.length (.map es) left cnt rfl hrg ?_ ?_)
        · intro _ hl0
          obtain ⟨q3, w5, hclr, hD, hT⟩ := hgo.done hok.out hne hl0
          have HD := Lib.hid hD
          have HT := Lib.hid (hIs.out.trans hT)
          clear hgo hrg hD hT hl0
          go_wp2
          go_ret
          exact ⟨rfl, HD.out, HT.out⟩
        · intro x c kl y0 y1 w6 cnt1 hkey hlk hv hat hrg1 hlt hg1 hs1 hen
          obtain ⟨x', ex, rfl, hwx⟩ := Maps.keyOf_int_inv Tryd.underlying3 hkey
          cases ex
          obtain ⟨q2, ⟨g, m, rfl⟩, w7, hup, hgo7⟩ := hgo.step hok.out hne x c (y0, y1) hwx hlk hv hat hrg1 hg1
          have HG := Lib.hid hgo7
          have HM : Hid (w7.rangeLeft mw r < wr.rangeLeft mw r) := Lib.hid (by rw [hgo7.rg.left_eq, hgo.rg.left_eq]; exact hlt)
          clear hgo hrg hgo7 hkey hlk hv hat hrg1 hlt hg1 hs1 hwx
          go_wp2
          go_roundw
          case rel => exact ⟨_, _, _, HG.out⟩
          case measure => exact HM.out
end Go.Proofs.YtpnodocjpedcmaaDoor.Sec

namespace Go.Proofs.YtpnodocjpedcmaaDoor.Sk
open Go.RowKit Go.Maps Go.Sort Go.Shelf Go.Proofs Go.Proofs.YtpnodocjpedcmaaDoor.Kit Go.Proofs.YtpnodocjpedcmaaDoor.Sec Go.ChangeMaps

theorem sortsA (m : Nat) : AnyZI.SortsIn Tryd.prog sortedA_ren Fence.wide m :=
  ⟨fun blk off cap ss W hH hblk hsz => callsIn_wide.2 (AnyM.slices_Sort_int sortA blk off cap ss W hH hblk hsz),
   fun p cap W => callsIn_wide.2 (AnyM.slices_Sort_int_none sortA p cap W)⟩

theorem keys_any (mb : Option Nat) (W : World) : Calls Tryd.prog 47 #[.map mb] W fun e w' => e = .returned (.func (.func 75) #[] #[.pointer (some ⟨W.heap.size, 0, none⟩)]) ∧ w' = W.alloc (.cells #[.map mb] 89) :=
  (callsIn_wide (n := 5)).1 (AnyZI.keys_in keysA Fence.wide 5 trivial rfl mb W)

theorem sorted_any {H : Type} (b nn : Nat) (D0 : DataW H) (R : Value → Option (DataW H × List MemPlace)) (w : World) (hown : w.ownsMap Tryd.prog 3 R b nn D0) (hmax : Maps.size D0 ≤ maxLen) (hbytes : Maps.size D0 * 8 ≤ 140737488355328) :
    Calls Tryd.prog 46 #[.func (.func 75) #[] #[.pointer (some ⟨w.heap.size, 0, none⟩)]] (w.alloc (.cells #[.map (some b)] 89)) fun e w' => ∃ (v : Value) (ss : List Int), e = .returned v ∧ ss.Perm (intKeys D0) ∧
      w'.ownsRow (w.alloc (.cells #[.map (some b)] 89)).heap.size 3 1 v ss.length ((ss.mergeSort (fun x y => decide (x ≤ y))).map encZ) ∧ (v = .slice none 0 0 ↔ ss = []) ∧ Below (w.alloc (.cells #[.map (some b)] 89)).heap.size (w.alloc (.cells #[.map (some b)] 89)) w' := by
  refine (callsIn_wide (n := 5)).1 ?_
  have hbl := hown.lt
  have hseq : SeqGives Fence.wide 2 Tryd.prog 75 #[.pointer (some ⟨w.heap.size, 0, none⟩)] encZ (fun ss => ss.Perm (intKeys D0)) (Maps.size D0) (w.alloc (.cells #[.map (some b)] 89)) :=
    AnyZI.keys_gives (ρ := keysA_ren) { keysA with } Fence.wide _ trivial rfl (by omega) w.heap.size b nn D0 _ (by simp) (by simp) (by
      obtain ⟨es, clock, hb, Ft, hs, hD⟩ := hown
      exact ⟨es, clock, (Below.heap_alloc _ _ b hbl).trans hb, Ft, hs, hD⟩)
  exact (AnyZI.sorted_in sortedA Fence.wide 5 trivial trivial trivial trivial rfl (by omega) (sortsA _) (enters_of Tryd.func74 (by kernel_rfl) rfl) 75 #[.pointer (some ⟨w.heap.size, 0, none⟩)] trivial (enters_of Tryd.func75 (by kernel_rfl) rfl) _ _ hmax hbytes _ hseq).mono fun e w' h => h

/-- The sectors' numbers, in their order. -/
theorem keys_map {w : World} {I : Nat → Prop} {n : Nat} {es : List (Lit × DataW Unit)} {l : Sl} (h : Ties w I n es l) : intKeys (DataW.map es) = l.map (·.1) := by
  induction h with
  | nil => rfl
  | @cons p q es l hp _ ih =>
    have e : intKeys (DataW.map (p :: es)) = intKeys (DataW.map [p]) ++ intKeys (DataW.map es) := rfl
    rw [e, ih]
    obtain ⟨p1, p2⟩ := p
    obtain ⟨rfl, _⟩ := hp
    rfl
theorem sorted_keys {l : Sl} (hu : Up l) {ss : List Int} (h : ss.Perm (l.map (·.1))) : ss.mergeSort (fun x y => decide (x ≤ y)) = l.map (·.1) := by
  have e := mergeSort_of_perm_i h
  rw [e]
  apply List.mergeSort_of_pairwise
  have := hu
  unfold Up at this
  rw [List.pairwise_map]
  exact this.imp (fun h => by simp; omega)

/-- slices.Sorted(maps.Keys(m)), its second step. -/
def GivesK (l : Sl) (w : World) (e : Ending) (w' : World) : Prop := ∃ v, e = .returned v ∧ Own w' w.heap.size 3 .i64 v (l.map (·.1)) ∧ Below w.heap.size w w'
theorem sorted_map {w : World} {I : Nat → Prop} {R : Value → Option (DataW Unit × List MemPlace)} {b n : Nat} {l : Sl} (h : MapAt w I R b n l) (hu : Up l) (hl : l.length < 1000000000) :
    Calls Tryd.prog 46 #[.func (.func 75) #[] #[.pointer (some ⟨w.heap.size, 0, none⟩)]] (w.alloc (.cells #[.map (some b)] 89)) (GivesK l w) := by
  obtain ⟨es, h1, h2⟩ := h
  have hsz : Maps.size (DataW.map es) = l.length := h2.length
  have h8 : Maps.size (DataW.map es) * 8 ≤ 140737488355328 := by rw [hsz]; omega
  have hm : Maps.size (DataW.map es) ≤ maxLen := by rw [hsz]; exact Nat.le_of_lt (len_ok hl)
  refine (sorted_any b l.length (DataW.map es) R w h1 hm h8).mono fun e w' ⟨v, ss, he, hp, hown, _, hb⟩ => ⟨v, he, ?_, ?_⟩
  · rw [keys_map h2] at hp
    have hlen := hp.length_eq
    rw [sorted_keys hu hp] at hown
    rw [hlen] at hown
    exact Own.mono (B := (w.alloc (.cells #[.map (some b)] 89)).heap.size) hown (by simp)
  · exact ((Below.refl _ w).alloc (Nat.le_refl _) _).trans (hb.mono (by simp))
end Go.Proofs.YtpnodocjpedcmaaDoor.Sk

namespace Go.Proofs.YtpnodocjpedcmaaDoor.Sec
open Go.ChangeShapes Go.WideShapes Go.ChangeAt Go.RowKit Go.Proofs.YtpnodocjpedcmaaDoor.Kit

def dCells (Ak : Option Addr) (ck : Nat) (Aw : Option Addr) (cw : Nat) (s : Dv) : Array Value :=
  #[.int .i64 s.size, .int .i64 s.count, .slice Ak s.kept.length ck, .slice Aw s.waits.length cw, .bool s.off, .int .i64 s.offs, .int .i64 s.fuse, .int .u64 s.wr]
/-- v is the document's device. -/
def RDv (w : World) (v : Value) (s : Dv) : Prop :=
  ∃ Ak ck Aw cw, v = .agg (dCells Ak ck Aw cw s) ∧ HoldsF w w.heap.size Ak s.kept ∧ HoldsF w w.heap.size Aw s.waits ∧ s.kept.length ≤ ck ∧ ck ≤ maxLen ∧ s.waits.length ≤ cw ∧ cw ≤ maxLen
theorem RDv.below {w w' : World} {v : Value} {s : Dv} (h : RDv w v s) (hb : Below w.heap.size w w') : RDv w' v s := by
  obtain ⟨Ak, ck, Aw, cw, e, h1, h2, r⟩ := h
  exact ⟨Ak, ck, Aw, cw, e, (h1.below hb).more hb.size, (h2.below hb).more hb.size, r⟩
def GivesD (s : Dv) (w : World) (e : Ending) (w' : World) : Prop := ∃ v, e = .returned v ∧ RDv w' v s ∧ Below w.heap.size w w'
def GivesED (E : Int) (s : Dv) (w : World) (e : Ending) (w' : World) : Prop := ∃ v, e = .returned (.tuple #[.int .i64 E, v]) ∧ RDv w' v s ∧ Below w.heap.size w w'

/-- A whole block is stored over. -/
theorem wpList_store_blk {P : Program} {w : World} {ops : Array Oper} {rest : List Oper} {o : Oper} {a : Act} {Q : Exit → Act → World → Prop} (hgd : o.guard = none) (ty : TypeId) (x y : Operand) (ho : o.op = .store ty x y)
    {g : Nat} {t : TypeId} {cs : Array Value} {ds : List Value} (h : Block w g t cs) (hx : a.eval x = .pointer (some ⟨g, 0, none⟩)) (hy : a.eval y = .agg ds.toArray) (hl : ds.length = cs.size) (hi : (P.info? ty).map (·.size) = some ds.length) (hone : ∀ u ∈ ds, u.oneCell' = true)
    (hK : ∀ w', Block w' g t ds.toArray → w.grownBy w' (some g) → wpList P ops Q rest (a.put o.dst undef) w') : wpList P ops Q (o :: rest) a w := by
  refine wpList_store_mid hgd ty x y ho g 0 ds.toArray hx hy ?_ (by simpa using hi) (all_oneCell_toArray hone) ?_
  · intro j hj
    have hj' : j < cs.size := by simpa [hl] using hj
    exact ⟨by rw [Nat.zero_add, h.cell, Array.getElem?_eq_getElem hj']; rfl, by rw [Nat.zero_add]; exact h.frozen j⟩
  · refine hK _ ?_ (setCells_grown g _ 0 w)
    have := setCells_block ds 0 w _ h (by omega)
    have e : (cs.toList.take 0 ++ (ds ++ cs.toList.drop (0 + ds.length))).toArray = ds.toArray := by
      rw [List.drop_of_length_le (by simp [hl])]
      simp
    rw [e] at this
    simpa using this

def zD : Array Value := #[.int .i64 0, .int .i64 0, .slice none 0 0, .slice none 0 0, .bool false, .int .i64 0, .int .i64 0, .int .u64 0]
theorem dCells_one (Ak : Option Addr) (ck : Nat) (Aw : Option Addr) (cw : Nat) (s : Dv) : ∀ u ∈ (dCells Ak ck Aw cw s).toList, u.oneCell' = true := by
  intro u hu
  unfold dCells at hu
  simp only [List.mem_cons, List.not_mem_nil, or_false] at hu
  rcases hu with rfl | rfl | rfl | rfl | rfl | rfl | rfl | rfl <;> rfl
/-- No cell is a text. -/
def NoText (cs : Array Value) : Prop := ∀ (i : Nat) (x : ByteArray), cs[i]? ≠ some (.string x)
theorem noText_list {cs : Array Value} (h : ∀ u ∈ cs.toList, ∀ x : ByteArray, u ≠ .string x) : NoText cs := fun i x e => h _ (List.mem_of_getElem? (by rw [← Array.getElem?_toList] at e; exact e)) x rfl
theorem dCells_noText (Ak : Option Addr) (ck : Nat) (Aw : Option Addr) (cw : Nat) (s : Dv) : NoText (dCells Ak ck Aw cw s) := noText_list (by
  intro u hu x
  unfold dCells at hu
  simp only [List.mem_cons, List.not_mem_nil, or_false] at hu
  rcases hu with rfl | rfl | rfl | rfl | rfl | rfl | rfl | rfl <;> exact fun e => by cases e)
theorem zD_noText : NoText zD := noText_list (by
  intro u hu x
  unfold zD at hu
  simp only [List.mem_cons, List.not_mem_nil, or_false] at hu
  rcases hu with rfl | rfl | rfl | rfl | rfl | rfl | rfl | rfl <;> exact fun e => by cases e)
/-- Rows of sectors stay while a block without texts turns. -/
theorem HoldsF.kept {w w' : World} {A : Option Addr} {l : Sl} {g : Nat} {t : TypeId} {cs : Array Value} (h : HoldsF w w.heap.size A l) (X : Block w g t cs) (hcs : NoText cs) (hg : w.grownBy w' (some g)) : HoldsF w' w'.heap.size A l := by
  intro hx
  obtain ⟨b, off, e, hb, hc⟩ := h hx
  have hne : b ≠ g := by
    rintro rfl
    have h1 := hc 0 (l[0]'hx) (List.getElem?_eq_getElem hx) 1 _ rfl
    rw [X.cell] at h1
    exact hcs _ _ h1
  refine ⟨b, off, e, Nat.lt_of_lt_of_le hb hg.size, fun j p hj i u hu => ?_⟩
  exact (World.cell?_of_block (w := w) (a := ⟨b, _, none⟩) (hg.block b hb (fun e => hne (Option.some.inj e)))).trans (hc j p hj i u hu)
theorem RDv.kept {w w' : World} {v : Value} {s : Dv} {g : Nat} {t : TypeId} {cs : Array Value} (h : RDv w v s) (X : Block w g t cs) (hcs : NoText cs) (hg : w.grownBy w' (some g)) : RDv w' v s := by
  obtain ⟨Ak, ck, Aw, cw, e, h1, h2, r⟩ := h
  exact ⟨Ak, ck, Aw, cw, e, h1.kept X hcs hg, h2.kept X hcs hg, r⟩
theorem block_two (w : World) (o : Obj) (t : TypeId) (cs : Array Value) : Block ((w.alloc o).alloc (.cells cs t)) (w.heap.size + 1) t cs := by
  have := Block.new (w.alloc o) t cs
  rwa [show (w.alloc o).heap.size = w.heap.size + 1 by simp] at this
theorem below_two (w : World) (o p : Obj) : Below w.heap.size w ((w.alloc o).alloc p) := ((Below.refl _ _).alloc (Nat.le_refl _) _).alloc (by simp) _

set_option maxRecDepth 100000 in
set_option maxHeartbeats 1600000 in
theorem rnew_any (size count : Nat) (w : World) :
    Calls Tryd.prog 11 #[.int .i64 size, .int .i64 count] w (GivesD (Dv.new size count) w) := by
  go_enter Tryd.func11, Tryd.ntmps11
  go_wp2
  exact bodyPost_ret (v := .agg (dCells none 0 none 0 (Dv.new size count))) (results_cell_row rfl _ _ w.heap.size 31 _ (0, 0) _ rfl (Block.new w _ _) Tryd.underlying31 rfl (by kernel_rfl)) rfl
    ⟨_, rfl, ⟨none, 0, none, 0, rfl, HoldsF.nil, HoldsF.nil, Nat.le_refl _, Nat.zero_le _, Nat.le_refl _, Nat.zero_le _⟩, (Below.refl _ _).alloc (Nat.le_refl _) _⟩

set_option maxRecDepth 100000 in
set_option maxHeartbeats 1600000 in
theorem rfall_any (v : Value) (s : Dv) (w : World) (h : RDv w v s) (hb : 0 ≤ s.offs ∧ s.offs ≤ 1000000000) :
    Calls Tryd.prog 45 #[v] w (GivesD s.down w) := by
  obtain ⟨Ak, ck, Aw, cw, rfl, hk, hw, r⟩ := h
  have hB := fun o p => below_two w o p
  have HG := Lib.hid (fun (cs : Array Value) (o p : Obj) => (⟨(hk.below (hB o p)).more (hB o p).size, (hw.below (hB o p)).more (hB o p).size⟩ : _ ∧ _))
  have HR := Lib.hid r
  clear hB hk hw r
  unfold dCells Dv.down
  cases hoff : s.off with
  | true =>
    go_enter Tryd.func45, Tryd.ntmps45
    go_wp2
    refine bodyPost_ret (v := .agg (dCells Ak ck Aw cw { s with off := true })) (results_cell_row rfl _ _ (w.heap.size + 1) 31 _ (0, 0) _ rfl (block_two w _ _ _) Tryd.underlying31 rfl (by kernel_rfl)) rfl
      ⟨_, rfl, ⟨Ak, ck, Aw, cw, ?_, (HG.out #[] _ _).1, (HG.out #[] _ _).2, HR.out⟩, below_two w _ _⟩
    unfold dCells
    rw [hoff]
  | false =>
    go_enter Tryd.func45, Tryd.ntmps45
    go_wp2
    exact bodyPost_ret (v := .agg (dCells Ak ck Aw cw { s with off := true, offs := s.offs + 1 })) (results_cell_row rfl _ _ (w.heap.size + 1) 31 _ (0, 0) _ rfl (block_two w _ _ _) Tryd.underlying31 rfl (by kernel_rfl)) rfl
      ⟨_, rfl, ⟨Ak, ck, Aw, cw, rfl, (HG.out #[] _ _).1, (HG.out #[] _ _).2, HR.out⟩, below_two w _ _⟩

end Go.Proofs.YtpnodocjpedcmaaDoor.Sec

namespace Go.Proofs.YtpnodocjpedcmaaDoor.Jr
open Go.ChangeShapes Go.WideShapes Go.ChangeAt Go.RowKit Go.Proofs.YtpnodocjpedcmaaDoor.Kit

def recDs : List Fld := [.i .u64, .i .u8, .i .u64, .i .i64, .i .u8, .i .u8, .a .u8 32, .i .u64, .i .i64, .i .i64, .i .u64, .i .i64, .i .i64]
theorem rec_of {w : World} {B : Nat} {vs : List FVal} (h : allOk w B recDs vs) : ∃ r : Rec, r.Ok ∧ True ∧ allCells recDs vs = r.cells := by
  match vs, h with
  | [.i sq, .i ac, .i vr, .i le, .i st, .i md, .a mn, .i nv, .i nl, .i dn, .i at_, .i bk, .i az], ⟨h0, h1, h2, h3, h4, h5, h6, h7, h8, h9, h10, h11, h12, _⟩ =>
    have b7 := bounds_u64 h7
    have b10 := bounds_u64 h10
    have b0 := bounds_u64 h0
    have b2 := bounds_u64 h2
    refine ⟨⟨sq, ac, vr, le, st, md, mn, nv, nl, dn, at_, bk, az⟩, ⟨⟨b0.1, by have := b0.2; show sq < _; omega⟩, bounds_u8 h1, ⟨b2.1, by have := b2.2; show vr < _; omega⟩, bounds_i64 h3, bounds_u8 h4, bounds_u8 h5, h6.1, fun z hz => bounds_u8 (h6.2 z hz), ⟨b7.1, by have := b7.2; show nv < _; omega⟩, bounds_i64 h8, bounds_i64 h9, ⟨b10.1, by have := b10.2; show at_ < _; omega⟩, bounds_i64 h11, bounds_i64 h12⟩, trivial, ?_⟩
    simp [allCells, recDs, fvCells, Rec.cells]
end Go.Proofs.YtpnodocjpedcmaaDoor.Jr
