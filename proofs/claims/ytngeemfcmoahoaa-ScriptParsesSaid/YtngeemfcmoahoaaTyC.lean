/-
  Layer 30, the document's fields: a contract. Conditions: as each theorem names.
-/
import Derived.Test.YtngeemfcmoahoaaTyB
namespace Go.Proofs.Ytngeemfcmoahoaa.Ty
open Go.ChangeShapes Go.WideShapes Go.ChangeAt Go.RowKit Go.Proofs.Ytngeemfcmoahoaa.Kit Go.Proofs.Ytngeemfcmoahoaa.Tx

theorem elemI : IntElem Try.prog 89 3 .i64 8 := ⟨Try.underlying89, by kernel_rfl, by omega⟩
theorem elemB : ValElem Try.prog 90 22 (.slice none 0 0) 24 := by
  refine ⟨?_, ?_, ?_, ?_⟩ <;> first | kernel_rfl | rfl | decide
/-- The slice at A holds these texts. -/
def HoldsT (w : World) (B : Nat) (A : Option Addr) (ws : List (List Int)) : Prop :=
  0 < ws.length → ∃ b off : Nat, A = some ⟨b, off, none⟩ ∧ b < B ∧ ∀ j, j < ws.length → w.cell? ⟨b, off + j, none⟩ = some (strV (ws.getD j []))
theorem HoldsT.below {w w' : World} {B : Nat} {A : Option Addr} {ws : List (List Int)} (h : HoldsT w B A ws) (hb : Below B w w') : HoldsT w' B A ws := fun hx => by
  obtain ⟨b, off, e, hlt, hc⟩ := h hx
  exact ⟨b, off, e, hlt, fun j hj => (hb.cell (p := ⟨b, off + j, none⟩) hlt).trans (hc j hj)⟩
theorem own_block {w : World} {B g : Nat} {e : TypeId} {k : IntKind} {v : Value} {xs : List Int} (h : Own w B e k v xs) (hv : v.ownBlock = some g) : ∃ cs, Block w g e cs := by
  rcases h.2 with ⟨rfl, _⟩ | ⟨g', cap, cur, rfl, _, hh, _⟩
  · simp [Value.ownBlock] at hv
  · obtain rfl : g' = g := by simpa [Value.ownBlock] using hv
    exact ⟨cur, hh⟩
/-- Texts of the call's own, in a row of the call's own. -/
structure OwnB (w : World) (B : Nat) (v : Value) (es : List (Value × List Int)) : Prop where
  row : OwnV w B 22 v (es.map Prod.fst)
  each : ∀ p ∈ es, Own w B 5 .u8 p.1 p.2
theorem OwnB.nil (w : World) (B : Nat) : OwnB w B (.slice none 0 0) [] := ⟨OwnV.nil _ _ _, by simp⟩
theorem OwnB.out {S : Nat → Prop} {w w' : World} {B : Nat} {v : Value} {es : List (Value × List Int)} (h : OwnB w B v es) (ho : TurnsIn S w w') (h1 : ∀ g t cs, Block w g t cs → S g → t ≠ 22 ∧ t ≠ 5) : OwnB w' B v es := by
  refine ⟨?_, fun p hp => (h.each p hp).out ho fun g hg hS => ?_⟩
  · rcases h.row.2 with ⟨rfl, h0⟩ | ⟨g, cap, cur, rfl, hbg, hg, hnc, hcm, hcs, htake⟩
    · exact ⟨h.row.1, .inl ⟨rfl, h0⟩⟩
    · exact ⟨h.row.1, .inr ⟨g, cap, cur, rfl, hbg, (ho.block g (Array.getElem?_eq_some_iff.1 hg).1 (fun hS => (h1 g _ _ hg hS).1 rfl)).trans hg, hnc, hcm, hcs, htake⟩⟩
  · obtain ⟨cs, hcs⟩ := own_block (h.each p hp) hg
    exact (h1 g _ _ hcs hS).2 rfl
theorem OwnB.push {w w' : World} {B : Nat} {v v' u : Value} {es : List (Value × List Int)} {zs : List Int} (h : OwnB w B v es) (hu : Own w B 5 .u8 u zs) (own : OwnV w' B 22 v' (es.map Prod.fst ++ [u])) (ht : TurnsIn (fun b => v.ownBlock = some b) w w') : OwnB w' B v' (es ++ [(u, zs)]) := by
  refine ⟨by rw [List.map_append]; exact own, fun p hp => ?_⟩
  have key : ∀ (q : Value) (xs : List Int), Own w B 5 .u8 q xs → Own w' B 5 .u8 q xs := fun q xs hq => hq.out ht fun g hg he => by
    obtain ⟨cs, hcs⟩ := own_block hq hg
    exact h.row.ne_block hcs (by decide) he
  rcases List.mem_append.1 hp with hp | hp
  · exact key _ _ (h.each p hp)
  · obtain rfl : p = (u, zs) := by simpa using hp
    exact key _ _ hu
theorem numB_val {cs : List Int} {most : Int} (h : numB cs most = true) (hm : most ≤ 2147483647) : 0 ≤ valN cs ∧ valN cs ≤ 2147483647 := by
  unfold numB at h
  simp only [Bool.and_eq_true] at h
  have h1 := valN_bd h.1.2
  have h2 := of_decide_eq_true h.2
  omega
/-- What Fields answers. -/
def FieldsTo (ws : List (List Int)) (fs : List Int) (w : World) (e : Ending) (w' : World) : Prop :=
  ∃ (vN vT : Value) (ok : Bool) (ns : List Int) (es : List (Value × List Int)), (∃ A n c, vN = .slice A n c) ∧ (∃ A n c, vT = .slice A n c) ∧ e = .returned (.tuple #[.agg #[vN, vT], .bool ok]) ∧ (ok = false → fieldsL ws fs = none) ∧ (ok = true → fieldsL ws fs = some (ns, es.map Prod.snd) ∧ Own w' w.heap.size 3 .i64 vN ns ∧ OwnB w' w.heap.size vT es) ∧ Below w.heap.size w w'
structure MidF (w wr : World) (ws : List (List Int)) (fs : List Int) (i : Nat) (vN vT : Value) (ns : List Int) (es : List (Value × List Int)) : Prop where
  b4 : Block wr w.heap.size 92 #[.slice none 0 0, .slice none 0 0]
  b6 : Block wr (w.heap.size + 1) 92 #[vN, vT]
  acc : ((ws.tail.zip fs).take i).foldl stepF (some ([], [])) = some (ns, es.map Prod.snd)
  oN : Own wr w.heap.size 3 .i64 vN ns
  oT : OwnB wr w.heap.size vT es
  few : ns.length ≤ i ∧ es.length ≤ i
  bel : Below w.heap.size w wr

theorem block_type {w : World} {g : Nat} {t t' : TypeId} {cs cs' : Array Value} (h : Block w g t cs) (h' : Block w g t' cs') : t = t' := by
  unfold Block at h h'
  rw [h] at h'
  injection h' with h'
  injection h' with _ h2
theorem MidF.below {w wr w3 : World} {ws : List (List Int)} {fs : List Int} {i : Nat} {vN vT : Value} {ns : List Int} {es : List (Value × List Int)} (h : MidF w wr ws fs i vN vT ns es) (hb : Below wr.heap.size wr w3) : MidF w w3 ws fs i vN vT ns es :=
  ⟨h.b4.below hb h.b4.lt, h.b6.below hb h.b6.lt, h.acc, h.oN.below hb, h.oT.out (S := fun _ => False) (TurnsIn.ofNew hb) (fun _ _ _ _ h => h.elim), h.few, h.bel.trans (hb.mono h.bel.size)⟩
theorem MidF.cells {w wr : World} {ws : List (List Int)} {fs : List Int} {i : Nat} {vN vT : Value} {ns : List Int} {es : List (Value × List Int)} (h : MidF w wr ws fs i vN vT ns es) :
    wr.cell? ⟨w.heap.size + 1, 0, none⟩ = some vN ∧ wr.cell? ⟨w.heap.size + 1, 1, none⟩ = some vT ∧ wr.cell? ⟨w.heap.size, 0, none⟩ = some (.slice none 0 0) ∧ wr.cell? ⟨w.heap.size, 1, none⟩ = some (.slice none 0 0) ∧ (∀ k, wr.frozen? ⟨w.heap.size + 1, k, none⟩ = false) ∧ (∀ k, wr.frozen? ⟨w.heap.size, k, none⟩ = false) :=
  ⟨h.b6.cell 0, h.b6.cell 1, h.b4.cell 0, h.b4.cell 1, fun k => h.b6.frozen k, fun k => h.b4.frozen k⟩
/-- A store into the block of what is told. -/
theorem MidF.put {w w8 : World} {ws : List (List Int)} {fs : List Int} {i : Nat} {vN vT vN' vT' u : Value} {ns : List Int} {es : List (Value × List Int)} (b4 : Block w8 w.heap.size 92 #[.slice none 0 0, .slice none 0 0]) (b6 : Block w8 (w.heap.size + 1) 92 #[vN, vT])
    (acc : ((ws.tail.zip fs).take i).foldl stepF (some ([], [])) = some (ns, es.map Prod.snd)) (oN : Own w8 w.heap.size 3 .i64 vN' ns) (oT : OwnB w8 w.heap.size vT' es) (few : ns.length ≤ i ∧ es.length ≤ i) (bel : Below w.heap.size w w8) (k : Nat) (hset : (#[vN, vT] : Array Value).setIfInBounds k u = #[vN', vT']) :
    MidF w (w8.setCell ⟨w.heap.size + 1, k, none⟩ u) ws fs i vN' vT' ns es := by
  have t : TurnsIn (· = w.heap.size + 1) w8 (w8.setCell ⟨w.heap.size + 1, k, none⟩ u) := (TurnsIn.refl (· = w.heap.size + 1) w8).setCell (p := ⟨w.heap.size + 1, k, none⟩) (.inl rfl) u
  refine ⟨b4.far (p := ⟨w.heap.size + 1, k, none⟩) (by simp) u, hset ▸ b6.set_ k u, acc, oN.out t fun g hg he => ?_, oT.out t fun g t cs hB he => ?_, few, bel.setCell (p := ⟨w.heap.size + 1, k, none⟩) (by show w.heap.size ≤ w.heap.size + 1; omega) u⟩
  · obtain ⟨cs, hcs⟩ := own_block oN hg
    subst he
    exact absurd (block_type hcs b6) (by decide)
  · subst he
    obtain rfl := block_type hB b6
    exact ⟨by decide, by decide⟩
theorem MidF.putT {w w3 w8 : World} {ws : List (List Int)} {fs : List Int} {i : Nat} {vN vT v3 v8 : Value} {ns zs : List Int} {es : List (Value × List Int)} {o : Obj} (h : MidF w w3 ws fs i vN vT ns es) (hu : Own w3 w.heap.size 5 .u8 v3 zs)
    (own8 : OwnV w8 w.heap.size 22 v8 (es.map Prod.fst ++ [v3])) (hg8 : (w3.alloc o).grownBy w8 vT.ownBlock) (hb8 : Below w.heap.size w3 w8) (acc : ((ws.tail.zip fs).take (i + 1)).foldl stepF (some ([], [])) = some (ns, es.map Prod.snd ++ [zs])) :
    MidF w (w8.setCell ⟨w.heap.size + 1, 1, none⟩ v8) ws fs (i + 1) vN v8 ns (es ++ [(v3, zs)]) := by
  have t : TurnsIn (fun b => vT.ownBlock = some b) w3 w8 := ((TurnsIn.refl _ w3).alloc o).trans (.ofGrown hg8 fun b hb => hb)
  refine MidF.put (vN := vN) (vT := vT) (h.b4.out t (h.oT.row.ne_block h.b4 (by decide))) (h.b6.out t (h.oT.row.ne_block h.b6 (by decide))) (by rw [acc, List.map_append]; rfl) (h.oN.out t fun g hg he => ?_) (h.oT.push hu own8 t) ⟨by have := h.few.1; omega, by have := h.few.2; rw [List.length_append]; simp; omega⟩ (h.bel.trans hb8) 1 rfl
  obtain ⟨cs, hcs⟩ := own_block h.oN hg
  exact h.oT.row.ne_block hcs (by decide) he
theorem MidF.putN {w w3 w8 : World} {ws : List (List Int)} {fs : List Int} {i : Nat} {n : Int} {vN vT v8 : Value} {ns : List Int} {es : List (Value × List Int)} {o : Obj} (h : MidF w w3 ws fs i vN vT ns es)
    (own8 : Own w8 w.heap.size 3 .i64 v8 (ns ++ [n])) (hg8 : (w3.alloc o).grownBy w8 vN.ownBlock) (hb8 : Below w.heap.size w3 w8) (acc : ((ws.tail.zip fs).take (i + 1)).foldl stepF (some ([], [])) = some (ns ++ [n], es.map Prod.snd)) :
    MidF w (w8.setCell ⟨w.heap.size + 1, 0, none⟩ v8) ws fs (i + 1) v8 vT (ns ++ [n]) es := by
  have t : TurnsIn (fun b => vN.ownBlock = some b) w3 w8 := ((TurnsIn.refl _ w3).alloc o).trans (.ofGrown hg8 fun b hb => hb)
  refine MidF.put (vN := vN) (vT := vT) (h.b4.out t (h.oN.ne_block h.b4 (by decide))) (h.b6.out t (h.oN.ne_block h.b6 (by decide))) acc own8 (h.oT.out t fun g ty cs hB he => ?_) ⟨by have := h.few.1; rw [List.length_append]; simp; omega, by have := h.few.2; omega⟩ (h.bel.trans hb8) 0 rfl
  obtain ⟨cs', hcs⟩ := own_block h.oN he
  obtain rfl := block_type hB hcs
  exact ⟨by decide, by decide⟩

theorem MidF.b6T {w w3 w8 : World} {ws : List (List Int)} {fs : List Int} {i : Nat} {vN vT : Value} {ns : List Int} {es : List (Value × List Int)} {o : Obj} (h : MidF w w3 ws fs i vN vT ns es) (hg8 : (w3.alloc o).grownBy w8 vT.ownBlock) : Block w8 (w.heap.size + 1) 92 #[vN, vT] :=
  h.b6.out (((TurnsIn.refl (fun b => vT.ownBlock = some b) w3).alloc o).trans (.ofGrown hg8 fun b hb => hb)) (h.oT.row.ne_block h.b6 (by decide))
theorem MidF.b6N {w w3 w8 : World} {ws : List (List Int)} {fs : List Int} {i : Nat} {vN vT : Value} {ns : List Int} {es : List (Value × List Int)} {o : Obj} (h : MidF w w3 ws fs i vN vT ns es) (hg8 : (w3.alloc o).grownBy w8 vN.ownBlock) : Block w8 (w.heap.size + 1) 92 #[vN, vT] :=
  h.b6.out (((TurnsIn.refl (fun b => vN.ownBlock = some b) w3).alloc o).trans (.ofGrown hg8 fun b hb => hb)) (h.oN.ne_block h.b6 (by decide))
/-- What is told is stored where it is told. -/
theorem MidF.told {w wr : World} {ws : List (List Int)} {fs : List Int} {i : Nat} {vN vT : Value} {ns : List Int} {es : List (Value × List Int)} (h : MidF w wr ws fs i vN vT ns es) :
    Own ((wr.setCell ⟨w.heap.size, 0, none⟩ vN).setCell ⟨w.heap.size, 1, none⟩ vT) w.heap.size 3 .i64 vN ns ∧ OwnB ((wr.setCell ⟨w.heap.size, 0, none⟩ vN).setCell ⟨w.heap.size, 1, none⟩ vT) w.heap.size vT es ∧ Below w.heap.size w ((wr.setCell ⟨w.heap.size, 0, none⟩ vN).setCell ⟨w.heap.size, 1, none⟩ vT) := by
  have t : TurnsIn (· = w.heap.size) wr ((wr.setCell ⟨w.heap.size, 0, none⟩ vN).setCell ⟨w.heap.size, 1, none⟩ vT) := ((TurnsIn.refl (· = w.heap.size) wr).setCell (p := ⟨w.heap.size, 0, none⟩) (.inl rfl) vN).setCell (p := ⟨w.heap.size, 1, none⟩) (.inl rfl) vT
  refine ⟨h.oN.out t fun g hg he => ?_, h.oT.out t fun g t cs hB he => ?_, (h.bel.setCell (p := ⟨w.heap.size, 0, none⟩) (Nat.le_refl _) vN).setCell (p := ⟨w.heap.size, 1, none⟩) (Nat.le_refl _) vT⟩
  · obtain ⟨cs, hcs⟩ := own_block h.oN hg
    subst he
    exact absurd (block_type hcs h.b4) (by decide)
  · subst he
    obtain rfl := block_type hB h.b4
    exact ⟨by decide, by decide⟩

set_option maxRecDepth 100000 in
set_option maxHeartbeats 6400000 in
theorem rfields_any (A : Option Addr) (ws : List (List Int)) (c : Nat) (f : ByteArray) (w : World) (hf : f.size ≤ 100) (hl : ws.length ≤ 1000000) (ho : ∀ v ∈ ws, Octets v ∧ v.length ≤ 1000000) (hr : HoldsT w w.heap.size A ws) :
    Calls Try.prog 47 #[.slice A ws.length c, .string f] w (FieldsTo ws (numsOf f) w) := by
  have hnl := numsOf_length f
  have B1 := (Below.refl w.heap.size w).alloc (Nat.le_refl _) (.cells #[.slice none 0 0, .slice none 0 0] 92)
  have B2 := B1.alloc B1.size (.cells #[.slice none 0 0, .slice none 0 0] 92)
  have k4 := (Block.new w 92 #[.slice none 0 0, .slice none 0 0]).alloc (.cells #[.slice none 0 0, .slice none 0 0] 92)
  have k6 := Block.new (w.alloc (.cells #[.slice none 0 0, .slice none 0 0] 92)) 92 #[.slice none 0 0, .slice none 0 0]
  rw [show (w.alloc (.cells #[.slice none 0 0, .slice none 0 0] 92)).heap.size = w.heap.size + 1 by simp] at k6
  have HM0 : Hid (MidF w ((w.alloc (.cells #[.slice none 0 0, .slice none 0 0] 92)).alloc (.cells #[.slice none 0 0, .slice none 0 0] 92)) ws (numsOf f) 0 (.slice none 0 0) (.slice none 0 0) [] []) :=
    Lib.hid ⟨k4, k6, rfl, Own.nil _ _ _ _, OwnB.nil _ _, ⟨Nat.le_refl _, Nat.le_refl _⟩, B2⟩
  have HB2 := Lib.hid B2
  have HNL := Lib.hid hnl
  have HO := Lib.hid ho
  have HR := Lib.hid hr
  clear B1 B2 k4 k6 hr ho
  by_cases hw : ws.length = f.size + 1
  · have d0 : ((ws.length : Int) != (f.size : Int) + 1) = false := by rw [bne_eq_false_iff_eq]; omega
    have HW := Lib.hid (show ws.length = (numsOf f).length + 1 by rw [hnl]; exact hw)
    have hwl : f.size + 1 ≤ ws.length := by omega
    clear hnl hw
    go_enter Try.func47, Try.ntmps47
    go_wp2_with fail
    go_loopw [7] (fun t wr => ∃ (i : Nat) (vN vT : Value) (ns : List Int) (es : List (Value × List Int)), i ≤ f.size ∧ t = .int .i64 i ∧ MidF w wr ws (numsOf f) i vN vT ns es) (fun t _ => f.size - (intOf t).toNat)
    case atStart => exact ⟨0, _, _, [], [], Nat.zero_le _, rfl, HM0.out⟩
    case round =>
      obtain ⟨i, vN, vT, ns, es, hi, rfl, hM⟩ := hrel
      clear HM0
      obtain ⟨AN, cN, rfl, _, _, _⟩ := hM.oN.opened
      obtain ⟨AT, cT, rfl, _, _⟩ := hM.oT.row.opened
      have hml : (es.map Prod.fst).length = es.length := List.length_map ..
      rw [hml] at hM
      obtain ⟨y0, y1, z0, z1, yf, zf⟩ := hM.cells
      have hsz := hM.bel.size
      have HM := Lib.hid hM
      have hfew := hM.few
      clear hM hml
      by_cases hlt : i < f.size
      · have dj : decide ((i : Int) < (f.size : Int)) = true := decide_eq_true (by omega)
        have dj2 : decide (i < f.size) = true := decide_eq_true hlt
        have hfi : i < (numsOf f).length := by rw [HNL.out]; exact hlt
        have hcg := numsOf_get f i hlt
        have hwi : i + 1 < ws.length := by omega
        obtain ⟨b, off, rfl, hb, hc⟩ := (HR.out.below HM.out.bel) (by omega)
        have cw := hc (i + 1) hwi
        have how := HO.out (ws.getD (i + 1) []) (by rw [List.getD_eq_getElem?_getD, List.getElem?_eq_getElem hwi]; exact List.getElem_mem hwi)
        have hst := fields_take (ws := ws) (fs := numsOf f) HW.out hfi
        have hbad := fields_bad (ws := ws) (fs := numsOf f) HW.out hfi
        rw [HM.out.acc, hcg] at hst hbad
        obtain ⟨wd, hwd⟩ : ∃ wd, ws.getD (i + 1) [] = wd := ⟨_, rfl⟩
        rw [hwd] at cw how hst hbad
        have hnw : numsOf (strOfNums wd) = wd := nums_str how.1
        have hnz : (strOfNums wd).size ≤ 1000000 := by rw [strOfNums_size]; exact how.2
        have cw' : wr.cell? ⟨b, off + (i + 1), none⟩ = some (.string (strOfNums wd)) := cw
        have HCG := Lib.hid hcg
        have HST := Lib.hid hst
        have HBAD := Lib.hid hbad
        have GU := Lib.hid (fun W => runhex_own (strOfNums wd) W hnz)
        have GN := Lib.hid (fun most W (hm : 0 ≤ most ∧ most ≤ 2147483647) => rnumber_any (strOfNums wd) most W hnz hm)
        have HNW := Lib.hid hnw
        have hsum : IntKind.i64.wrap ((i : Int) + 1) = (i : Int) + 1 := IntWalk.i64_in _ (by omega)
        clear hc cw hcg hst hbad hwd hnw how hsum
        generalize strOfNums wd = sw at *
        by_cases c116 : f[i].toNat = 116
        · have f0 : (((f[i].toNat : Nat) : Int) == 116) = true := by rw [beq_iff_eq]; omega
          have f1 : (f[i].toNat == 116) = true := by rw [beq_iff_eq]; exact c116
          have HC116 := Lib.hid (show ((f[i].toNat : Nat) : Int) = 116 by omega)
          go_wp2_with fail
          refine (GU.out _).mono ?_
          rintro e w3 ⟨v3, rfl, own3, hb3⟩
          rw [HNW.out] at own3 ⊢
          obtain ⟨m0, m1, m2, m3, mf, nf⟩ := (HM.out.below hb3).cells
          have HM3 := Lib.hid (HM.out.below hb3)
          have HB3 := Lib.hid hb3
          have hsz3 : w.heap.size ≤ w3.heap.size := Nat.le_trans hsz hb3.size
          have HO3 := Lib.hid (own3.mono hsz)
          clear y0 y1 z0 z1 yf zf cw' own3 hb3
          cases hu : unB wd with
          | true =>
            have HS := Lib.hid (show ((ws.tail.zip (numsOf f)).take (i + 1)).foldl stepF (some ([], [])) = some (ns, es.map Prod.snd ++ [unL wd]) by
              rw [HST.out]
              simp only [stepF]
              rw [if_pos HC116.out, if_pos hu])
            have HORow := Lib.hid HM3.out.oT.row
            have hus : (es.map Prod.fst).length + 1 ≤ 1099511627776 := by rw [List.length_map]; omega
            obtain ⟨A3, c3, rfl, _, _, _⟩ := HO3.out.opened
            clear hu
            go_wp2_with (at_builtin; go_loud (refine wpList_append_val rfl _ _ _ rfl elemB HORow.out rfl rfl rfl hus hsz3 ?_; intro v8 w8 own8 hg8 hb8; have HM8 := Lib.hid (HM3.out.putT HO3.out own8 hg8 hb8 HS.out); have b8 := HM3.out.b6T hg8; have x1 := b8.cell 1; have xf := fun k => b8.frozen k; simp only [List.getElem?_toArray, List.getElem?_cons_zero, List.getElem?_cons_succ] at x1; obtain ⟨A8, c8, rfl, _, _⟩ := own8.opened; clear own8 hg8 hb8 b8))
            go_roundw
            case rel =>
              have h8 := HM8.out
              rw [show (List.map Prod.fst es ++ [Value.slice A3 (unL wd).length c3]).length = es.length + 1 by simp] at h8
              exact ⟨i + 1, _, _, ns, es ++ [(.slice A3 (unL wd).length c3, unL wd)], hlt, by go_num, h8⟩
            case measure => simp [intOf] <;> omega
          | false =>
            have HE := Lib.hid (show fieldsL ws (numsOf f) = none from HBAD.out (by
              simp only [stepF]
              rw [if_pos HC116.out, if_neg (by rw [hu]; decide)]))
            clear hu
            go_wp2_with fail
            refine bodyPost_ret (v := .tuple #[.agg #[.slice AN ns.length cN, .slice AT es.length cT], .bool false]) (by simp [results, Try.results47, go_sem, m2, m3]) rfl ?_
            exact ⟨_, _, false, [], [], ⟨_, _, _, rfl⟩, ⟨_, _, _, rfl⟩, rfl, fun _ => HE.out, (fun h => by cases h), HM3.out.told.2.2⟩
        · have f0 : (((f[i].toNat : Nat) : Int) == 116) = false := by rw [beq_eq_false_iff_ne]; omega
          have f1 : (f[i].toNat == 116) = false := by rw [beq_eq_false_iff_ne]; exact c116
          have HC116 := Lib.hid (show ¬ ((f[i].toNat : Nat) : Int) = 116 by omega)
          have HORow := Lib.hid HM.out.oN
          by_cases c98 : f[i].toNat = 98
          · have g0 : (((f[i].toNat : Nat) : Int) == 98) = true := by rw [beq_iff_eq]; omega
            have g1 : (f[i].toNat == 98) = true := by rw [beq_iff_eq]; exact c98
            have HMOST := Lib.hid (show (if ((f[i].toNat : Nat) : Int) = 98 then (255 : Int) else 2147483647) = 255 from if_pos (by omega))
            clear c98 c116
            cases hu : numB wd 255 with
            | true =>
              have HS := Lib.hid (show ((ws.tail.zip (numsOf f)).take (i + 1)).foldl stepF (some ([], [])) = some (ns ++ [valN wd], es.map Prod.snd) by
                rw [HST.out]
                simp only [stepF]
                rw [if_neg HC116.out, HMOST.out, if_pos hu])
              have HU := Lib.hid hu
              have hvw : numB wd 255 = true → 0 ≤ valN wd ∧ valN wd ≤ 2147483647 := fun h => numB_val h (by omega)
              have hvb := hvw hu
              have HNWO := Lib.hid (Holds.new wr .i64 (valN wd) 3)
              have HOA := Lib.hid (HORow.out.alloc (.cells #[.int .i64 (valN wd)] 3))
              have hsA : w.heap.size ≤ (wr.alloc (.cells #[.int .i64 (valN wd)] 3)).heap.size := by simp; omega
              have HBA := Lib.hid ((Below.refl w.heap.size wr).alloc hsz (.cells #[.int .i64 (valN wd)] 3))
              clear hu hvw
              go_wp2_with (first
                | (go_at_call 52; (with_reducible refine (GN.out 255 _ (by omega)).mono ?_); rintro e w3 ⟨n3, rfl, hn3, rfl⟩; rw [HNW.out] at hn3 ⊢; rw [HU.out]; obtain rfl := hn3 HU.out)
                | (at_builtin; go_loud (refine wpList_append_ints (ys := [valN wd]) _ rfl _ _ _ rfl elemI HOA.out rfl rfl HNWO.out (by simp only [List.length_cons, List.length_nil]; omega) hsA ?_; intro v5 w5 own5 hg5 hb5 hv5; have HM8 := Lib.hid (HM.out.putN own5 hg5 (HBA.out.trans hb5) HS.out); have b8 := HM.out.b6N hg5; have x0 := b8.cell 0; have xf := fun k => b8.frozen k; simp only [List.getElem?_toArray, List.getElem?_cons_zero, List.getElem?_cons_succ] at x0; obtain ⟨A8, c8, rfl, _, _, _⟩ := own5.opened; clear own5 hg5 hb5 hv5 b8)))
              go_roundw
              case rel =>
                have h8 := HM8.out
                rw [show (ns ++ [valN wd]).length = ns.length + 1 by simp] at h8
                exact ⟨i + 1, _, _, ns ++ [valN wd], es, hlt, by go_num, h8⟩
              case measure => simp [intOf] <;> omega
            | false =>
              have HE := Lib.hid (show fieldsL ws (numsOf f) = none from HBAD.out (by
                simp only [stepF]
                rw [if_neg HC116.out, HMOST.out, if_neg (by rw [hu]; decide)]))
              have HU := Lib.hid hu
              clear hu
              go_wp2_with (go_at_call 52; (with_reducible refine (GN.out 255 _ (by omega)).mono ?_); rintro e w3 ⟨n3, rfl, hn3, rfl⟩; rw [HNW.out] at hn3 ⊢; rw [HU.out])
              refine bodyPost_ret (v := .tuple #[.agg #[.slice AN ns.length cN, .slice AT es.length cT], .bool false]) (by simp [results, Try.results47, go_sem, z0, z1]) rfl ?_
              exact ⟨_, _, false, [], [], ⟨_, _, _, rfl⟩, ⟨_, _, _, rfl⟩, rfl, fun _ => HE.out, (fun h => by cases h), HM.out.told.2.2⟩
          · have g0 : (((f[i].toNat : Nat) : Int) == 98) = false := by rw [beq_eq_false_iff_ne]; omega
            have g1 : (f[i].toNat == 98) = false := by rw [beq_eq_false_iff_ne]; exact c98
            have HMOST := Lib.hid (show (if ((f[i].toNat : Nat) : Int) = 98 then (255 : Int) else 2147483647) = 2147483647 from if_neg (by omega))
            clear c98 c116
            cases hu : numB wd 2147483647 with
            | true =>
              have HS := Lib.hid (show ((ws.tail.zip (numsOf f)).take (i + 1)).foldl stepF (some ([], [])) = some (ns ++ [valN wd], es.map Prod.snd) by
                rw [HST.out]
                simp only [stepF]
                rw [if_neg HC116.out, HMOST.out, if_pos hu])
              have HU := Lib.hid hu
              have hvw : numB wd 2147483647 = true → 0 ≤ valN wd ∧ valN wd ≤ 2147483647 := fun h => numB_val h (by omega)
              have hvb := hvw hu
              have HNWO := Lib.hid (Holds.new wr .i64 (valN wd) 3)
              have HOA := Lib.hid (HORow.out.alloc (.cells #[.int .i64 (valN wd)] 3))
              have hsA : w.heap.size ≤ (wr.alloc (.cells #[.int .i64 (valN wd)] 3)).heap.size := by simp; omega
              have HBA := Lib.hid ((Below.refl w.heap.size wr).alloc hsz (.cells #[.int .i64 (valN wd)] 3))
              clear hu hvw
              go_wp2_with (first
                | (go_at_call 52; (with_reducible refine (GN.out 2147483647 _ (by omega)).mono ?_); rintro e w3 ⟨n3, rfl, hn3, rfl⟩; rw [HNW.out] at hn3 ⊢; rw [HU.out]; obtain rfl := hn3 HU.out)
                | (at_builtin; go_loud (refine wpList_append_ints (ys := [valN wd]) _ rfl _ _ _ rfl elemI HOA.out rfl rfl HNWO.out (by simp only [List.length_cons, List.length_nil]; omega) hsA ?_; intro v5 w5 own5 hg5 hb5 hv5; have HM8 := Lib.hid (HM.out.putN own5 hg5 (HBA.out.trans hb5) HS.out); have b8 := HM.out.b6N hg5; have x0 := b8.cell 0; have xf := fun k => b8.frozen k; simp only [List.getElem?_toArray, List.getElem?_cons_zero, List.getElem?_cons_succ] at x0; obtain ⟨A8, c8, rfl, _, _, _⟩ := own5.opened; clear own5 hg5 hb5 hv5 b8)))
              go_roundw
              case rel =>
                have h8 := HM8.out
                rw [show (ns ++ [valN wd]).length = ns.length + 1 by simp] at h8
                exact ⟨i + 1, _, _, ns ++ [valN wd], es, hlt, by go_num, h8⟩
              case measure => simp [intOf] <;> omega
            | false =>
              have HE := Lib.hid (show fieldsL ws (numsOf f) = none from HBAD.out (by
                simp only [stepF]
                rw [if_neg HC116.out, HMOST.out, if_neg (by rw [hu]; decide)]))
              have HU := Lib.hid hu
              clear hu
              go_wp2_with (go_at_call 52; (with_reducible refine (GN.out 2147483647 _ (by omega)).mono ?_); rintro e w3 ⟨n3, rfl, hn3, rfl⟩; rw [HNW.out] at hn3 ⊢; rw [HU.out])
              refine bodyPost_ret (v := .tuple #[.agg #[.slice AN ns.length cN, .slice AT es.length cT], .bool false]) (by simp [results, Try.results47, go_sem, z0, z1]) rfl ?_
              exact ⟨_, _, false, [], [], ⟨_, _, _, rfl⟩, ⟨_, _, _, rfl⟩, rfl, fun _ => HE.out, (fun h => by cases h), HM.out.told.2.2⟩
      · have dj : decide ((i : Int) < (f.size : Int)) = false := decide_eq_false (by omega)
        have dj2 : decide (i < f.size) = false := decide_eq_false hlt
        obtain rfl : i = f.size := by omega
        have HE := Lib.hid (show fieldsL ws (numsOf f) = some (ns, es.map Prod.snd) by
          have := fields_all (ws := ws) (fs := numsOf f) HW.out
          rw [HNL.out, HM.out.acc] at this
          exact this.symm)
        obtain ⟨t1, t2, t3⟩ := HM.out.told
        have HT1 := Lib.hid t1
        have HT2 := Lib.hid t2
        have HT3 := Lib.hid t3
        clear t1 t2 t3
        go_wp2_with fail
        refine bodyPost_ret (v := .tuple #[.agg #[.slice AN ns.length cN, .slice AT es.length cT], .bool true]) (by simp [results, Try.results47, go_sem, z0, z1]) rfl ?_
        exact ⟨_, _, true, ns, es, ⟨_, _, _, rfl⟩, ⟨_, _, _, rfl⟩, rfl, (fun h => by cases h), fun _ => ⟨HE.out, HT1.out, HT2.out⟩, HT3.out⟩
  · have d0 : ((ws.length : Int) != (f.size : Int) + 1) = true := by rw [bne_iff_ne]; omega
    have HE := Lib.hid (show fieldsL ws (numsOf f) = none by unfold fieldsL; rw [if_neg (by rw [hnl]; exact hw)])
    clear hnl hw
    go_enter Try.func47, Try.ntmps47
    go_wp2_with fail
    refine bodyPost_ret (v := .tuple #[.agg #[.slice none 0 0, .slice none 0 0], .bool false]) (by simp [results, Try.results47, go_sem]) rfl ?_
    exact ⟨_, _, false, [], [], ⟨_, _, _, rfl⟩, ⟨_, _, _, rfl⟩, rfl, fun _ => HE.out, (fun h => by cases h), HB2.out⟩
end Go.Proofs.Ytngeemfcmoahoaa.Ty
