/-
  As Pls, over PlZ: own words for slices of plans ([][]Step) that came in. Conditions: as each theorem names.
-/
import Derived.Test.YtheofegmbajmkaaRec3
import Derived.Test.YtheofegmbajmkaaPlZ
namespace Go.Proofs.Ytheofegmbajmkaa.Pl
open Go.ChangeShapes Go.WideShapes Go.ChangeAt Go.RowKit Go.Proofs.Ytheofegmbajmkaa.Kit
theorem steps_more {k0 k1 k2 : IntKind} {w : World} {B B' : Nat} {A : Option Addr} {ss : List Stp} (h : HoldsE (StpIn k0 k1 k2 w B) 4 w B A ss) (hB : B ≤ B') : HoldsE (StpIn k0 k1 k2 w B') 4 w B' A ss := by
  intro hx
  obtain ⟨b, off, e, hb, hc⟩ := h hx
  refine ⟨b, off, e, by omega, fun i r hi => ?_⟩
  obtain ⟨cs, ⟨r0, r1, r2, r3, r4, r5, r6, r7⟩, h2, h3⟩ := hc i r hi
  exact ⟨cs, ⟨r0, r1, r2, r3, r4, r5, r6, r7.more hB⟩, h2, h3⟩
end Go.Proofs.Ytheofegmbajmkaa.Pl
namespace Go.Proofs.Ytheofegmbajmkaa.Kit
open Go.ChangeShapes Go.WideShapes Go.ChangeAt Go.RowKit
section
variable {H : Type} {enc : TypeId × Value → H} {P : Program} {w w' : World} {b0 : Nat}
/-- A slice among cells, element by element. -/
theorem slice_of {R : Type} (E : R → List Value → Prop) {t e : TypeId} (sz : Nat) (ht : P.underlying t = some (.slice e)) (hc : P.cellsOf e = sz) (hsz : 0 < sz)
    (hE : ∀ (n : Nat) (cs : List Value) (y : DataW H × List MemPlace), DataW.trod enc P w 0 (fun _ => true) true n e cs = some y → (∀ x ∈ y.2, x.block < w.heap.size) → ∃ r, E r cs)
    {m : Nat} {ws : List Value} {z : DataW H × List MemPlace} (hfu : DataW.trod enc P w 0 (fun _ => true) true m t ws = some z) (hlt : ∀ x ∈ z.2, x.block < w.heap.size) :
    ∃ (A : Option Addr) (cap : Nat) (rs : List R), ws = [.slice A rs.length cap] ∧ rs.length ≤ cap ∧ cap ≤ maxLen ∧ HoldsE E sz w w.heap.size A rs := by
  rcases DataW.trod_slice ht hfu with ⟨hcs, _⟩ | ⟨a, len, cap, elems, rest, n, _, hcs, hx, _, hl, hm, hlen, hel, _, _⟩
  · exact ⟨none, 0, [], hcs, Nat.le_refl _, Nat.zero_le _, fun h => absurd h (by simp)⟩
  · have each : ∀ i, i < len → ∃ r, ∃ cs, E r cs ∧ cs.length = sz ∧ ∀ (j : Nat) (c : Value), cs[j]? = some c → w.cell? (a.add (i * sz + j)) = some c := by
      intro i hi
      have h1 := hel i hi
      have hx' : elems[i]? = some (elems[i]'(by omega)) := List.getElem?_eq_getElem (by omega)
      rw [hx'] at h1
      obtain ⟨cs, h2, h3⟩ := Option.bind_eq_some_iff.1 h1
      obtain ⟨_, h5, h6⟩ := World.cells?_some h2
      obtain ⟨r, hr⟩ := hE _ _ _ h3 (fun x hxx => hlt x (by
        rw [hx]
        refine List.mem_append_right _ ?_
        refine List.mem_flatMap.2 ⟨elems[i]'(by omega), ?_, hxx⟩
        first | exact List.getElem_mem _ | exact List.mem_append_left _ (List.getElem_mem _)))
      refine ⟨r, cs, hr, by rw [h5, hc], fun j c hj => ?_⟩
      have hj' : j < cs.length := by
        rcases Nat.lt_or_ge j cs.length with h' | h'
        · exact h'
        · rw [List.getElem?_eq_none h'] at hj; cases hj
      have h7 := h6 j (by omega)
      rw [hc] at h7
      have hadd : (a.add (i * sz)).add j = a.add (i * sz + j) := by
        unfold Addr.add
        by_cases h1 : i * sz = 0 <;> by_cases h2 : j = 0 <;> simp [h1, h2, Nat.add_assoc]
      rw [hadd] at h7
      rw [h7, hj]
    obtain ⟨rs, q1, q2⟩ := list_of len each
    refine ⟨some a, cap, rs, by rw [q1]; exact hcs, by omega, hm, fun hx0 => ?_⟩
    obtain ⟨b, off, spot⟩ := a
    have hr0 : rs[0]? = some (rs[0]'hx0) := List.getElem?_eq_getElem hx0
    obtain ⟨cs0, _, hl0, hc0⟩ := q2 0 _ hr0
    have hspot : spot = none := by simpa [Addr.add] using World.cell?_spot (hc0 0 _ (List.getElem?_eq_getElem (by omega)))
    subst hspot
    have hpos : 0 < (elems.length + rest.length) * P.cellsOf e := Nat.mul_pos (by omega) (by omega)
    refine ⟨b, off, rfl, hlt (.cell b (off + 0)) (by rw [hx]; exact List.mem_append_left _ (MemPlace.mem_row.2 ⟨0, hpos, by simp⟩)), fun i r hi => ?_⟩
    obtain ⟨cs, h1, h2, h3⟩ := q2 i r hi
    refine ⟨cs, h1, h2, fun j c hj => ?_⟩
    have := h3 j c hj
    rw [add_plain] at this
    rw [Nat.add_assoc]
    exact this

/-- A plan. -/
structure Plan where
  A : Option Addr
  cap : Nat
  ss : List Stp
def PlanIn (w : World) (B : Nat) (p : Plan) (cs : List Value) : Prop := cs = [.slice p.A p.ss.length p.cap] ∧ p.ss.length ≤ p.cap ∧ p.cap ≤ maxLen ∧ HoldsE (StpIn .u8 .i64 .i64 w B) 4 w B p.A p.ss
/-- The slice at A holds these plans, all below block B. -/
def HoldsP (w : World) (B : Nat) (A : Option Addr) (ps : List Plan) : Prop := HoldsE (PlanIn w B) 1 w B A ps
theorem open_plans {t u e : TypeId} {fs : Array Field} (ht : P.underlying t = some (.slice u)) (hu : P.underlying u = some (.slice e)) (he : P.underlying e = some (.struct fs)) (h0 : isInt P fs 0 0 .u8 = true) (h1 : isInt P fs 1 1 .i64 = true) (h2 : isInt P fs 2 2 .i64 = true) (h3 : isBytes P fs 3 3 = true)
    (hsz : fs.size = 4) (hce : P.cellsOf e = 4) (hcu : P.cellsOf u = 1) {v : Value} {d : DataW H} {ps : List MemPlace} (hval : Value.okWide P w .any b0 t v) (h : DataW.Trod enc P w 0 (fun _ => true) true t v d ps) (hlt : ∀ x ∈ ps, x.block < w.heap.size) :
    ∃ (A : Option Addr) (cap : Nat) (ls : List Plan), v = .slice A ls.length cap ∧ ls.length ≤ cap ∧ cap ≤ maxLen ∧ HoldsP w w.heap.size A ls :=
  open_slice_of (PlanIn w w.heap.size) 1 ht hcu (by omega) (fun _ _ _ h hp => by
    obtain ⟨A, cap, ss, rfl, r1, r2, r3⟩ := slice_of (StpIn .u8 .i64 .i64 w w.heap.size) 4 hu hce (by omega) (fun _ _ _ h hp => read_iiib he h0 h1 h2 h3 hsz hce h hp) h hp
    exact ⟨⟨A, cap, ss⟩, rfl, r1, r2, r3⟩) hval h hlt
theorem planAt {B : Nat} {A : Option Addr} {ps : List Plan} (h : HoldsP w B A ps) {i : Nat} (hi : i < ps.length) :
    ∃ b off : Nat, A = some ⟨b, off, none⟩ ∧ b < B ∧ w.cell? ⟨b, off + i, none⟩ = some (.slice ps[i].A ps[i].ss.length ps[i].cap) ∧ ps[i].ss.length ≤ ps[i].cap ∧ ps[i].cap ≤ maxLen ∧ HoldsE (StpIn .u8 .i64 .i64 w B) 4 w B ps[i].A ps[i].ss := by
  obtain ⟨b, off, rfl, hb, hc⟩ := h (by omega)
  obtain ⟨cs, ⟨rfl, r4, r5, r6⟩, _, hcs⟩ := hc i ps[i] (List.getElem?_eq_getElem hi)
  exact ⟨b, off, rfl, hb, by simpa using hcs 0 _ rfl, r4, r5, r6⟩
theorem HoldsP.below {B : Nat} {A : Option Addr} {ps : List Plan} (h : HoldsP w B A ps) (hb : Below B w w') : HoldsP w' B A ps :=
  h.keep (fun _ hp => hb.cell hp) fun _ _ ⟨r0, r4, r5, r6⟩ => ⟨r0, r4, r5, steps_below r6 hb⟩
theorem HoldsP.more {B B' : Nat} {A : Option Addr} {ps : List Plan} (h : HoldsP w B A ps) (hB : B ≤ B') : HoldsP w B' A ps := by
  intro hx
  obtain ⟨b, off, e, hb, hc⟩ := h hx
  refine ⟨b, off, e, by omega, fun i r hi => ?_⟩
  obtain ⟨cs, ⟨r0, r4, r5, r6⟩, h2, h3⟩ := hc i r hi
  exact ⟨cs, ⟨r0, r4, r5, Pl.steps_more r6 hB⟩, h2, h3⟩
end
end Go.Proofs.Ytheofegmbajmkaa.Kit
namespace Go.Proofs.Ytheofegmbajmkaa.Gr
open Go.ChangeShapes Go.WideShapes Go.ChangeAt Go.RowKit Go.Proofs.Ytheofegmbajmkaa.Kit Go.Proofs.Ytheofegmbajmkaa.Pl

def greatP (ps : List Plan) : Bool := decide (40 < ps.length) || ps.any fun p => greatB p.ss
theorem greatP_no {ps : List Plan} (h : greatP ps = false) : ps.length ≤ 40 ∧ ∀ p ∈ ps, p.ss.length ≤ 60 := by
  unfold greatP at h
  rw [Bool.or_eq_false_iff] at h
  refine ⟨by have := of_decide_eq_false h.1; omega, fun s hs => ?_⟩
  have := List.any_eq_false.1 h.2 s hs
  exact (great_no (by simpa using this)).1
set_option maxRecDepth 100000 in
set_option maxHeartbeats 3200000 in
theorem greatp_any (A : Option Addr) (ps : List Plan) (c : Nat) (w : World) (_ : ps.length ≤ c) (_ : c ≤ maxLen) (hr : HoldsP w w.heap.size A ps) :
    Calls Try.prog 6 #[.slice A ps.length c] w (Gives (.bool (greatP ps)) w) := by
  obtain ⟨bv, hbv⟩ : ∃ bv, greatP ps = bv := ⟨_, rfl⟩
  rw [hbv]
  have HBV := Lib.hid hbv
  clear hbv
  by_cases h40 : 40 < ps.length
  · obtain rfl : bv = true := by rw [← HBV.out]; unfold greatP; rw [decide_eq_true h40]; rfl
    have d0 : decide ((40 : Int) < (ps.length : Int)) = true := decide_eq_true (by omega)
    clear hr
    go_enter Try.func6, Try.ntmps6
    go_wp2_with fail
    go_ret
    exact ⟨rfl, Below.refl _ _⟩
  · have d0 : decide ((40 : Int) < (ps.length : Int)) = false := decide_eq_false (by omega)
    go_enter Try.func6, Try.ntmps6
    go_wp2_with fail
    go_loopw [9] (fun v wr => ∃ k : Nat, k ≤ ps.length ∧ v = .int .i64 k ∧ ((ps.take k).any fun p => greatB p.ss) = false ∧ Below w.heap.size w wr) (fun v _ => ps.length - (intOf v).toNat)
    case atStart => exact ⟨0, Nat.zero_le _, rfl, by simp, Below.refl _ _⟩
    case round =>
      obtain ⟨k, hk, rfl, hn, B⟩ := hrel
      obtain ⟨wo, rfl⟩ : ∃ wo : World, wo = wr := ⟨_, rfl⟩
      have HN := Lib.hid hn
      clear hn
      by_cases hlt : k < ps.length
      · have d1 : decide (k < ps.length) = true := decide_eq_true hlt
        obtain ⟨b, off, rfl, -, hc1, hl1, hm1, hh⟩ := planAt (hr.below B) hlt
        have i1 : (k : Int) < (ps.length : Int) := by omega
        have HNX : Hid (((ps.take (k + 1)).any fun p => greatB p.ss) = greatB ps[k].ss) := Lib.hid (by rw [List.take_succ_eq_append_getElem hlt, List.any_append, HN.out]; simp)
        have HMM : Hid (greatB ps[k].ss = true → greatP ps = true) := Lib.hid (fun h => by
          unfold greatP
          rw [List.any_eq_true.2 ⟨_, List.getElem_mem hlt, h⟩, Bool.or_true])
        have G := Lib.hid (Pl.great_any ps[k].A ps[k].ss ps[k].cap wo hl1 hm1 (steps_more hh B.size))
        obtain ⟨A5, c5, ss, hx⟩ : ∃ A5 c5 ss, ps[k] = ⟨A5, c5, ss⟩ := ⟨_, _, _, rfl⟩
        rw [hx] at hc1 HNX HMM G
        simp only at hc1 HNX HMM G
        clear hx hh hr hl1 hm1
        cases hg : greatB ss with
        | true =>
          rw [hg] at G
          obtain rfl : bv = true := by rw [← HBV.out]; exact HMM.out hg
          clear hg
          go_wp2_with (go_at_call 14; refine G.out.mono ?_; rintro e w2 ⟨rfl, hb2⟩)
          go_ret
          exact ⟨rfl, B.trans (hb2.mono B.size)⟩
        | false =>
          rw [hg] at G HNX
          clear hg
          go_wp2_with (go_at_call 14; refine G.out.mono ?_; rintro e w2 ⟨rfl, hb2⟩)
          go_roundw
          case rel => exact ⟨k + 1, by omega, by go_num, HNX.out, B.trans (hb2.mono B.size)⟩
          case measure => simp [intOf]; omega
      · have d1 : decide (k < ps.length) = false := decide_eq_false hlt
        obtain rfl : bv = false := by
          rw [← HBV.out]
          have h := HN.out
          rw [List.take_of_length_le (by omega)] at h
          unfold greatP
          rw [h, decide_eq_false h40]
          rfl
        go_wp2_with fail
        go_ret
        exact ⟨rfl, B⟩
end Go.Proofs.Ytheofegmbajmkaa.Gr
