/-
  Layer 24, journal: records that come in; a journal and its device of the call's own. Conditions: as each theorem names.
  Layer 24: the law's journal in the first two sectors: contracts. Conditions: as each theorem names.
-/
import Derived.Test.YtpnodocjpedcmaaDoorMJoB
import Derived.Test.YtpnodocjpedcmaaDoorMJoC
import Derived.Test.YtpnodocjpedcmaaDoorMGIays3
import Derived.Test.YtpnodocjpedcmaaDoorMGIays14
import Derived.Deep.QuietTactic
import Derived.BigQuiet
import Derived.Lib.QuietBelow
namespace Go.Proofs.YtpnodocjpedcmaaDoor.Jr
open Go.ChangeShapes Go.WideShapes Go.ChangeAt Go.RowKit Go.Proofs.YtpnodocjpedcmaaDoor.Kit Go.Proofs.YtpnodocjpedcmaaDoor.Sec
open Go.Proofs.YtpnodocjpedcmaaDoor.Sha (LaidS)
open Go.Proofs.YtpnodocjpedcmaaDoor.Pt (PartAt Lies chunkP On Whole whole_of)

/-- A whole row is loaded, in a region whose callees make memory. -/
theorem qload_row {P : Program} {ops : Array Oper} {o : Oper} {a : Act} {C : World → Prop} {K : Act → Prop} {E : Prop}
    (hw : Region.wanted o (yielded ops a.tmps) = true) (ty : TypeId) (x : Operand) (ho : o.op = .load ty x) (b f : Nat) (hx : a.eval x = .pointer (some ⟨b, f, none⟩)) (cs : List Value) (d : TypeDesc) (hc : ∀ W, C W → W.rangeAt b f cs)
    (hu : P.underlying ty = some d) (hd : d.isRow = true) (hi : (P.info? ty).map (·.size) = some cs.length) (hK : K (a.put o.dst (.agg cs.toArray))) :
    if Region.wanted o (yielded ops a.tmps) = true then o.quiet P a C K else E := by
  rw [if_pos hw]
  refine ⟨.agg cs.toArray, fun W hW => ?_, hK⟩
  unfold Oper.quietAt execOp
  simp only [ho, hx, Instr.loadAt, Instr.sureAddr, Sem.run_bind, Sem.run_pure, Result.andThen_ok, run_loadVar_mid W b f ty cs d (hc W hW) hu hd hi, Oper.quietUpon]
  trivial
theorem qrange {w : World} {b f : Nat} {cs : List Value} (h : w.rangeAt b f cs) : ∀ W, (∃ p : Regrown, W = Go.Sort.grow (redrawn w p.d) p.os) → W.rangeAt b f cs := by
  rintro W ⟨p, rfl⟩ j v hj
  exact cell_regrown (h j v hj) p.d p.os
theorem block_regrown {w : World} {g : Nat} {t : TypeId} {cs : Array Value} (h : Block w g t cs) (d : Nat) (os : Array Obj) : Block (Go.Sort.grow (redrawn w d) os) g t cs := Block.below h (below_regrown w d os) (Block.lt h)

/-! ### records that come in -/
def RecIn (r : Rec) (cs : List Value) : Prop := r.Ok ∧ cs = r.cells
theorem open_recs {H : Type} {enc : TypeId × Value → H} {P : Program} {w : World} {b0 : Nat} {t e : TypeId} {fs : Array Field} (ht : P.underlying t = some (.slice e)) (he : P.underlying e = some (.struct fs)) (hs : shapeB P fs.toList 0 recDs = true) (hc : P.cellsOf e = 44)
    {v : Value} {d : DataW H} {ps : List MemPlace} (hval : Value.okWide P w .any b0 t v) (h : DataW.Trod enc P w 0 (fun _ => true) true t v d ps) (hlt : ∀ x ∈ ps, x.block < w.heap.size) :
    ∃ (A : Option Addr) (cap : Nat) (rs : List Rec), v = .slice A rs.length cap ∧ rs.length ≤ cap ∧ cap ≤ maxLen ∧ HoldsE RecIn 44 w w.heap.size A rs :=
  open_slice_of RecIn 44 ht hc (by omega) (fun _ _ _ h hp => by
    obtain ⟨vs, h1, h2⟩ := read_shape he hs hc h hp
    obtain ⟨r, h3, _, h4⟩ := rec_of h1
    exact ⟨r, h3, h2.trans h4⟩) hval h hlt
theorem recAt {w : World} {B : Nat} {A : Option Addr} {rs : List Rec} (h : HoldsE RecIn 44 w B A rs) {i : Nat} (hi : i < rs.length) :
    ∃ b off : Nat, A = some ⟨b, off, none⟩ ∧ b < B ∧ w.rangeAt b (off + i * 44) rs[i].cells ∧ rs[i].Ok := by
  obtain ⟨b, off, e, hb, hc⟩ := h (by omega)
  obtain ⟨cs, ⟨h1, rfl⟩, h2, h3⟩ := hc i rs[i] (List.getElem?_eq_getElem hi)
  exact ⟨b, off, e, hb, h3, h1⟩
theorem recs_below {w w' : World} {B : Nat} {A : Option Addr} {rs : List Rec} (h : HoldsE RecIn 44 w B A rs) (hb : Below B w w') : HoldsE RecIn 44 w' B A rs :=
  h.keep (fun _ hp => hb.cell hp) (fun _ _ h => h)

/-- == on records tells something. -/
theorem arr_any (xs ys : List Int) (h : xs.length = 32) (h' : ys.length = 32) : ∃ b, ∀ w : World, (Op.equalIn 9999 48 (.agg (xs.map (Value.int .u8)).toArray) (.agg (ys.map (Value.int .u8)).toArray)).run Tryd.prog w = .ok b w := by
  refine ⟨decide (∀ j ∈ List.range xs.length, xs[j]?.getD 0 = ys[j]?.getD 0), fun w => ?_⟩
  have h1 := run_equalIn_array (P := Tryd.prog) (w := w) (t := 48) 9998 (xs.map (Value.int .u8)).toArray (ys.map (Value.int .u8)).toArray (n := xs.length) (e := 5) (by rw [h]; exact Tryd.underlying48) (Option.eq_some_of_isSome (by kernel_rfl))
  have h2 := run_eqItems_ints (P := Tryd.prog) (w := w) (e := 5) (k := .u8) (k' := .u8) 9997 (by kernel_rfl) Tryd.underlying5 (by kernel_rfl) xs ys (List.range xs.length) (fun j hj => by have := List.mem_range.1 hj; omega)
  rw [h2] at h1
  exact h1
set_option maxRecDepth 100000 in
set_option maxHeartbeats 3200000 in
theorem eql_rec (r s : Rec) (h : r.man.length = 32) (h' : s.man.length = 32) : ∃ b, (∀ W, (binOp .eql 50 (.agg r.cells.toArray) (.agg s.cells.toArray)).run Tryd.prog W = .ok (.bool b) W) := by
  match hm : r.man, h, hm' : s.man, h' with
  | [a0, a1, a2, a3, a4, a5, a6, a7, a8, a9, a10, a11, a12, a13, a14, a15, a16, a17, a18, a19, a20, a21, a22, a23, a24, a25, a26, a27, a28, a29, a30, a31], _, [b0, b1, b2, b3, b4, b5, b6, b7, b8, b9, b10, b11, b12, b13, b14, b15, b16, b17, b18, b19, b20, b21, b22, b23, b24, b25, b26, b27, b28, b29, b30, b31], _ =>
    obtain ⟨b, hE⟩ := arr_any [a0, a1, a2, a3, a4, a5, a6, a7, a8, a9, a10, a11, a12, a13, a14, a15, a16, a17, a18, a19, a20, a21, a22, a23, a24, a25, a26, a27, a28, a29, a30, a31] [b0, b1, b2, b3, b4, b5, b6, b7, b8, b9, b10, b11, b12, b13, b14, b15, b16, b17, b18, b19, b20, b21, b22, b23, b24, b25, b26, b27, b28, b29, b30, b31] rfl rfl
    simp only [List.map_cons, List.map_nil] at hE
    unfold Rec.cells
    rw [hm, hm']
    simp only [List.map_cons, List.map_nil, List.cons_append, List.nil_append]
    refine ⟨decide (r.seq = s.seq) && (decide (r.act = s.act) && (decide (r.ver = s.ver) && (decide (r.len = s.len) && (decide (r.st = s.st) && (decide (r.md = s.md) && (b && (decide (r.nv = s.nv) && (decide (r.nl = s.nl) && (decide (r.dn = s.dn) && (decide (r.at_ = s.at_) && (decide (r.blk = s.blk) && decide (r.asz = s.asz)))))))))))), fun W => ?_⟩
    have hE1 := hE W
    clear hm hm' h h' hE
    go_simp
    clear hE1
    obtain ⟨r1, r2, r3, r4, r5, r6, r7, r8, r9, r10, r11, r12, r13⟩ := r
    obtain ⟨s1, s2, s3, s4, s5, s6, s7, s8, s9, s10, s11, s12, s13⟩ := s
    simp only
    by_cases e1 : r1 = s1
    case neg => simp [*]
    by_cases e2 : r2 = s2
    case neg => simp [*]
    by_cases e3 : r3 = s3
    case neg => simp [*]
    by_cases e4 : r4 = s4
    case neg => simp [*]
    by_cases e5 : r5 = s5
    case neg => simp [*]
    by_cases e6 : r6 = s6
    case neg => simp [*]
    cases b
    · simp [*]
    by_cases e8 : r8 = s8
    case neg => simp [*]
    by_cases e9 : r9 = s9
    case neg => simp [*]
    by_cases e10 : r10 = s10
    case neg => simp [*]
    by_cases e11 : r11 = s11
    case neg => simp [*]
    by_cases e12 : r12 = s12
    case neg => simp [*]
    by_cases e13 : r13 = s13
    case neg => simp [*]
    simp [*]
set_option maxRecDepth 100000 in
set_option maxHeartbeats 3200000 in
theorem neq_same (r : Rec) (h : r.man.length = 32) (W : World) : (binOp .neq 50 (.agg r.cells.toArray) (.agg r.cells.toArray)).run Tryd.prog W = .ok (.bool false) W := by
  match hm : r.man, h with
  | [a0, a1, a2, a3, a4, a5, a6, a7, a8, a9, a10, a11, a12, a13, a14, a15, a16, a17, a18, a19, a20, a21, a22, a23, a24, a25, a26, a27, a28, a29, a30, a31], _ =>
    have hE := arr_same [a0, a1, a2, a3, a4, a5, a6, a7, a8, a9, a10, a11, a12, a13, a14, a15, a16, a17, a18, a19, a20, a21, a22, a23, a24, a25, a26, a27, a28, a29, a30, a31] rfl W
    simp only [List.map_cons, List.map_nil] at hE
    unfold Rec.cells
    rw [hm]
    simp only [List.map_cons, List.map_nil, List.cons_append, List.nil_append]
    go_simp

/-! ### a journal of the call's own -/
structure JDev (w0 w : World) (a mk mw j p0 p1 : Nat) (s : Dv) (r : Rec) : Prop where
  d : DvAt w (fun _ => True) a mk mw s
  b : Below w0.heap.size w0 w
  ga : w0.heap.size ≤ a
  gk : w0.heap.size ≤ mk
  gw : w0.heap.size ≤ mw
  gj : w0.heap.size ≤ j
  at_ : JAt w j a p0 p1 r
section
variable {w0 w w' : World} {a mk mw j p0 p1 : Nat} {s : Dv} {r : Rec}
theorem JDev.below (h : JDev w0 w a mk mw j p0 p1 s r) (hb : Below w.heap.size w w') : JDev w0 w' a mk mw j p0 p1 s r :=
  ⟨h.d.below hb, h.b.trans (hb.mono h.b.size), h.ga, h.gk, h.gw, h.gj, h.at_.below hb⟩
theorem JDev.jset (h : JDev w0 w a mk mw j p0 p1 s r) (b : Nat) (hb : b < w0.heap.size) : ¬ JSet a mk mw j b := by
  have := h.ga; have := h.gk; have := h.gw; have := h.gj
  rintro ((rfl | rfl | rfl) | rfl) <;> omega
theorem JDev.wrote (h : JDev w0 w a mk mw j p0 p1 s r) {q : Int × Dv} {t : Rec} {e : Ending} (g : Wrote (fun _ => True) a mk mw j p0 p1 q r t w e w') : e = .returned (.int .i64 q.1) ∧ JDev w0 w' a mk mw j p0 p1 q.2 (if q.1 = 0 then t else r) ∧ TurnsIn (JSet a mk mw j) w w' := by
  obtain ⟨g1, g2, g3, g4⟩ := g
  exact ⟨g1, ⟨g2, h.b.trans (g4.toBelow h.b.size h.jset), h.ga, h.gk, h.gw, h.gj, g3⟩, g4⟩
theorem JDev.turn (h : JDev w0 w a mk mw j p0 p1 s r) {s' : Dv} (hd : DvAt w' (fun _ => True) a mk mw s') (t : TurnsIn (DSet a mk mw) w w') : JDev w0 w' a mk mw j p0 p1 s' r :=
  ⟨hd, h.b.trans (t.toBelow h.b.size fun b hb hx => h.jset b hb (Or.inl hx)), h.ga, h.gk, h.gw, h.gj, h.at_.turn h.d t⟩
/-- Another block stays while the journal turns. -/
theorem JDev.keeps (h : JDev w0 w a mk mw j p0 p1 s r) (t : TurnsIn (JSet a mk mw j) w w') {g : Nat} {ty : TypeId} {cs : Array Value} (X : Block w g ty cs) (h1 : ty ≠ 91) (h2 : ty ≠ 107) : Block w' g ty cs := by
  refine X.out t ?_
  rintro (hx | rfl)
  · exact h.d.not_cells X h1 hx
  · have := h.at_.j
    unfold JBlk Block at this
    unfold Block at X
    rw [this] at X
    injection X with X
    injection X with _ X _
    exact h2 X.symm
end
end Go.Proofs.YtpnodocjpedcmaaDoor.Jr

namespace Go.Proofs.YtpnodocjpedcmaaDoor.Jr
open Go.ChangeShapes Go.WideShapes Go.ChangeAt Go.RowKit Go.Proofs.YtpnodocjpedcmaaDoor.Kit Go.Proofs.YtpnodocjpedcmaaDoor.Sec
open Go.Proofs.YtpnodocjpedcmaaDoor.Sha (LaidS)
open Go.Proofs.YtpnodocjpedcmaaDoor.Pt (PartAt Lies chunkP On Whole whole_of)

def placesV : List Value := [.int .i64 0, .int .i64 1, .int .i64 1, .int .i64 1, .int .i64 0, .int .i64 0, .int .i64 0, .int .i64 0, .int .i64 0, .int .i64 0, .int .i64 0]
set_option maxRecDepth 100000 in
set_option maxHeartbeats 3200000 in
theorem places_any (w : World) : Calls Tryd.prog 17 #[] w fun e w' => e = .returned (.agg placesV.toArray) ∧ Below w.heap.size w w' := by
  have r0 : Block (w.alloc (.cells #[.int .i64 0, .int .i64 0, .int .i64 0, .int .i64 0, .int .i64 0, .int .i64 0, .int .i64 0, .int .i64 0, .int .i64 0, .int .i64 0, .int .i64 0] 45)) w.heap.size 45 #[.int .i64 0, .int .i64 0, .int .i64 0, .int .i64 0, .int .i64 0, .int .i64 0, .int .i64 0, .int .i64 0, .int .i64 0, .int .i64 0, .int .i64 0] := Block.new w _ _
  have hb0 := below_last w (.cells #[.int .i64 0, .int .i64 0, .int .i64 0, .int .i64 0, .int .i64 0, .int .i64 0, .int .i64 0, .int .i64 0, .int .i64 0, .int .i64 0, .int .i64 0] 45)
  go_enter Tryd.func17, Tryd.ntmps17
  go_wp2_with (first
    | (have _t := r0; refine wpList_store_blk rfl _ _ _ rfl (ds := placesV) r0 rfl rfl rfl (by kernel_rfl) (by decide) ?_; clear _t; intro w9 r9 g9))
  refine bodyPost_ret (v := .agg placesV.toArray) (results_cell_row rfl _ _ w.heap.size 45 _ (0, 0) _ rfl r9 Tryd.underlying45 rfl (by kernel_rfl)) rfl ⟨rfl, ?_⟩
  exact hb0.trans (below_of_grown g9 hb0.size fun b hb => by injection hb with hb; omega)

/-- A journal on a device of the call's own is opened. -/
theorem open_dev {w0 w : World} {a mk mw j p0 p1 : Nat} {s : Dv} {r : Rec} (h : JDev w0 w a mk mw j p0 p1 s r) (hc : 2 ≤ s.count) (hoff : s.off = false) (hL : LaidS w0) :
    Calls Tryd.prog 16 #[.pointer (some ⟨a, 0, none⟩), .agg placesV.toArray] w fun e w' => ∃ j' p0' p1', e = .returned (.tuple #[.pointer (some ⟨j', 0, none⟩), .int .i64 0]) ∧ Below w.heap.size w w' ∧ JAt w' j' a p0' p1' (lastF s.read) ∧ JDev w0 w' a mk mw j p0 p1 s r := by
  refine (jopen_any (fun _ => True) a mk mw s 0 0 0 0 0 0 0 w h.d hc (hL.below h.b)).mono ?_
  rintro e w' ⟨hb, he⟩
  rw [if_neg (by rw [hoff]; decide)] at he
  obtain ⟨j', p0', p1', _, he, hj⟩ := he
  exact ⟨j', p0', p1', he, hb, hj, h.below hb⟩
/-- The first journal on a new device. -/
theorem open_new {w0 w : World} {a mk mw : Nat} (h : Dev w0 w a mk mw (Dv.new 128 4)) (hL : LaidS w0) :
    Calls Tryd.prog 16 #[.pointer (some ⟨a, 0, none⟩), .agg placesV.toArray] w fun e w' => ∃ j p0 p1, e = .returned (.tuple #[.pointer (some ⟨j, 0, none⟩), .int .i64 0]) ∧ JDev w0 w' a mk mw j p0 p1 (Dv.new 128 4) rec0 := by
  refine (jopen_any (fun _ => True) a mk mw (Dv.new 128 4) 0 0 0 0 0 0 0 w h.d (by decide) (hL.below h.b)).mono ?_
  rintro e w' ⟨hb, he⟩
  rw [if_neg (by decide)] at he
  obtain ⟨j, p0, p1, hj0, he, hj⟩ := he
  rw [lastF_of (stands_new (by decide) (by decide))] at hj
  have := h.below hb
  exact ⟨j, p0, p1, he, this.d, this.b, this.ga, this.gk, this.gw, Nat.le_trans h.b.size hj0, hj⟩
theorem last_dev {w0 w : World} {a mk mw j p0 p1 : Nat} {s : Dv} {r : Rec} (h : JDev w0 w a mk mw j p0 p1 s r) (hr : r.Ok) :
    Calls Tryd.prog 18 #[.pointer (some ⟨j, 0, none⟩)] w fun e w' => e = .returned (.agg r.cells.toArray) ∧ Below w.heap.size w w' := last_any j a p0 p1 r w h.at_ hr.man

theorem JDev.beside {w0 w : World} {a mk mw j p0 p1 : Nat} {s : Dv} {r : Rec} (h : JDev w0 w a mk mw j p0 p1 s r) {g : Nat} {cs : Array Value} (X : Block w g 50 cs) (hg : w0.heap.size ≤ g) (i : Nat) (u : Value) : JDev w0 (w.setCell ⟨g, i, none⟩ u) a mk mw j p0 p1 s r := by
  have t : TurnsIn (fun b => b = g) w (w.setCell ⟨g, i, none⟩ u) := TurnsIn.setCell (S := fun b => b = g) (p := ⟨g, i, none⟩) (TurnsIn.refl _ w) (Or.inl rfl) u
  have far : ∀ {q : Nat} {ty : TypeId} {ds : Array Value}, Block w q ty ds → ty ≠ 50 → Block (w.setCell ⟨g, i, none⟩ u) q ty ds := by
    intro q ty ds hq hne
    refine Block.far hq ?_ u
    intro e
    have e : q = g := e
    rw [e] at hq
    unfold Block at hq X
    rw [X] at hq
    injection hq with hq
    injection hq with _ hq _
    exact hne hq.symm
  exact ⟨h.d.beside X (by decide) (by decide) t, h.b.setCell hg u, h.ga, h.gk, h.gw, h.gj, ⟨far h.at_.j (by decide), far h.at_.p0 (by decide), far h.at_.p1 (by decide)⟩⟩

/-- Behind n records, k of which were taken. -/
structure KAt (w W : World) (a mk mw j p0 p1 n k : Nat) (s : Dv) (r : Rec) : Prop where
  g : JDev w W a mk mw j p0 p1 s r
  on : On s
  ws : s.waits = []
  st : StandsF s.read r k
  c : s.count = 4
  z : s.size = 128
  o : s.offs = 0
  wr : s.wr ≤ n
  k : k ≤ n
theorem KAt.start {w W : World} {a mk mw j p0 p1 : Nat} (h : JDev w W a mk mw j p0 p1 (Dv.new 128 4) rec0) : KAt w W a mk mw j p0 p1 0 0 (Dv.new 128 4) rec0 :=
  ⟨h, On.new (by decide) (by decide) (by decide) (by decide), rfl, stands_new (by decide) (by decide), rfl, rfl, rfl, Int.le_refl _, Nat.le_refl _⟩
theorem KAt.dev {w W W' : World} {a mk mw j p0 p1 n k : Nat} {s : Dv} {r : Rec} (h : KAt w W a mk mw j p0 p1 n k s r) (g : JDev w W' a mk mw j p0 p1 s r) : KAt w W' a mk mw j p0 p1 n k s r :=
  ⟨g, h.on, h.ws, h.st, h.c, h.z, h.o, h.wr, h.k⟩
theorem KAt.more {w W : World} {a mk mw j p0 p1 n k : Nat} {s : Dv} {r : Rec} (h : KAt w W a mk mw j p0 p1 n k s r) : KAt w W a mk mw j p0 p1 (n + 1) k s r :=
  ⟨h.g, h.on, h.ws, h.st, h.c, h.z, h.o, by have := h.wr; omega, by have := h.k; omega⟩
theorem KAt.last {w W : World} {a mk mw j p0 p1 n k : Nat} {s : Dv} {r : Rec} (h : KAt w W a mk mw j p0 p1 n k s r) : lastF s.read = r := lastF_of h.st
/-- What Write answers to a record that may not be. -/
theorem kwrite_no {w W : World} {a mk mw j p0 p1 n k : Nat} {s : Dv} {r x : Rec} (h : KAt w W a mk mw j p0 p1 n k s r) (hn : n ≤ 100) (hx : x.Ok) (hm : (x.num ((k : Int) + 1)).may = false) (hL : LaidS w) :
    Calls Tryd.prog 21 #[.pointer (some ⟨j, 0, none⟩), .agg x.cells.toArray] W fun e W' => e = .returned (.int .i64 3) ∧ Below W.heap.size W W' := by
  have hs := h.st.seq
  have hk := h.k
  exact jwrite_no j a p0 p1 r x W h.g.at_ hx (by rw [hs]; omega) (by rw [hs]; exact hm) (hL.below h.g.b)
/-- What Write does to one that may be. -/
theorem kwrite_yes {w W : World} {a mk mw j p0 p1 n k : Nat} {s : Dv} {r x : Rec} (h : KAt w W a mk mw j p0 p1 n k s r) (hn : n ≤ 100) (hx : x.Ok) (hm : (x.num ((k : Int) + 1)).may = true) (hL : LaidS w) :
    Calls Tryd.prog 21 #[.pointer (some ⟨j, 0, none⟩), .agg x.cells.toArray] W fun e W' => e = .returned (.int .i64 0) ∧ TurnsIn (JSet a mk mw j) W W' ∧ ∃ s', KAt w W' a mk mw j p0 p1 (n + 1) (k + 1) s' (x.num ((k : Int) + 1)) := by
  have hs := h.st.seq
  have hk := h.k
  have hwr := h.wr
  have hmod : ((k : Int) + 1) % 2 = (((k + 1) % 2 : Nat) : Int) := by omega
  have hpos := Nat.mod_lt (k + 1) (show 0 < 2 by omega)
  have hw := jwrite_yes (fun _ => True) j a p0 p1 mk mw s r x W h.g.at_ h.g.d (fun _ _ => trivial) hx h.st.ok.man (by rw [hs]; omega) (by rw [hs]; exact hm) (by rw [h.c]; omega) (by rw [h.o]; omega) (by omega) (hL.below h.g.b)
  rw [hs, hmod] at hw
  have hon := writeJ_on h.on h.ws (i := (((k + 1) % 2 : Nat) : Int)) (xs := chunkP s.size (x.num ((k : Int) + 1)).putL 0) (by omega) (by rw [h.c]; omega) (Pt.chunkP_length _ _ _)
  have hok : (x.num ((k : Int) + 1)).Ok := Rec.num_ok hx (by omega) (by omega)
  have hst := keeps_next h.on h.ws h.st (by rw [h.c]; omega) hok hm (show (k : Int) + 1 = ((k + 1 : Nat) : Int) by omega)
  refine hw.mono ?_
  rintro e W' hw'
  generalize writeJ s (((k + 1) % 2 : Nat) : Int) (chunkP s.size (x.num ((k : Int) + 1)).putL 0) = q at *
  obtain ⟨h1, h2, h3⟩ := h.g.wrote hw'
  obtain ⟨o1, o2, o3, o4, o5, o6, o7, o8⟩ := hon
  rw [if_pos o1] at h2
  rw [o1] at h1
  exact ⟨h1, h3, q.2, h2, o2, o3, hst, by rw [o6, h.c], by rw [o5, h.z], by rw [o7, h.o], by rw [o8]; omega, by omega⟩
end Go.Proofs.YtpnodocjpedcmaaDoor.Jr
