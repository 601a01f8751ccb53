/-
  Layer 15, match.Find of any images: a contract. Conditions: as each theorem names.
-/
import Derived.Test.YtlcnbepldkbkgaaMMxP
import Derived.Test.YtlcnbepldkbkgaaMGDcks4
import Derived.Deep.AppendLies
import Derived.Deep.RegionLaw
import Derived.Deep.RegionWith
namespace Go.Proofs.Ytlcnbepldkbkgaa.Mx
open Go.ChangeShapes Go.WideShapes Go.ChangeAt Go.RowKit Go.Proofs.Ytlcnbepldkbkgaa.Kit Go.Proofs.Ytlcnbepldkbkgaa.Sx Go.Proofs.Ytlcnbepldkbkgaa.Mt

def cellsP (t : Pc) : List Value := [.int .i64 t.n, .int .i64 t.o, .int .i64 t.l]
/-- v is a row of pieces of the call's own. -/
def OwnP (w : World) (B : Nat) (v : Value) (ts : List Pc) : Prop := w.ownsRow B 46 3 v ts.length (ts.flatMap cellsP)
theorem flatP_get : ∀ (ts : List Pc) (i j : Nat) (t : Pc) (u : Value), ts[i]? = some t → (cellsP t)[j]? = some u → (ts.flatMap cellsP)[i * 3 + j]? = some u
  | [], i, j, s, u, h, _ => by simp at h
  | a :: ss, 0, j, s, u, h, hu => by
    simp at h
    subst h
    have hj : j < (cellsP a).length := (List.getElem?_eq_some_iff.1 hu).1
    rw [List.flatMap_cons, Nat.zero_mul, Nat.zero_add, List.getElem?_append_left hj]
    exact hu
  | a :: ss, i + 1, j, s, u, h, hu => by
    have ih := flatP_get ss i j s u (by simpa using h) hu
    rw [List.flatMap_cons, List.getElem?_append_right (by simp [cellsP]; omega)]
    have e : (i + 1) * 3 + j - (cellsP a).length = i * 3 + j := by simp [cellsP]; omega
    rw [e]
    exact ih
section
variable {w w' : World} {B : Nat} {v : Value} {ts : List Pc}
theorem OwnP.nil (w : World) (B : Nat) : OwnP w B (.slice none 0 0) [] := World.ownsRow_nil w B _ 3
theorem OwnP.lt (h : OwnP w B v ts) : ∀ g, v.ownBlock = some g → B ≤ g ∧ g < w.heap.size := World.ownsRow.lt h
theorem OwnP.alloc (h : OwnP w B v ts) (o : Obj) : OwnP (w.alloc o) B v ts := World.ownsRow.alloc h o
theorem OwnP.drewN (h : OwnP w B v ts) (n : Nat) : OwnP (w.drewN n) B v ts := h
theorem OwnP.holds {A : Option Addr} {n c : Nat} (h : OwnP w B (.slice A n c) ts) : n = ts.length ∧ n ≤ c ∧ c ≤ maxLen ∧ HoldsP w w.heap.size A ts := by
  rcases h.2 with ⟨he, h0⟩ | ⟨g, cap, cur, he, hb, hg2, hnc, hcm, hcs, htake⟩
  · injection he with e1 e2 e3
    subst e1 e2 e3
    exact ⟨h0.symm, Nat.le_refl _, Nat.zero_le _, fun hx => by omega⟩
  · injection he with e1 e2 e3
    subst e1 e2 e3
    refine ⟨rfl, hnc, hcm, fun hx => ⟨g, 0, rfl, (Array.getElem?_eq_some_iff.1 hg2).1, fun i t hi => ?_⟩⟩
    have hcell : ∀ (j : Nat) (u : Value), (cellsP t)[j]? = some u → w.cell? ⟨g, 0 + i * 3 + j, none⟩ = some u := fun j u hu => by
      have := World.ownsRow.cells h (g := g) rfl (i * 3 + j) u (flatP_get ts i j t u hi hu)
      rw [add_plain] at this
      rw [Nat.zero_add] at this ⊢
      exact this
    exact ⟨by simpa using hcell 0 _ rfl, hcell 1 _ rfl, hcell 2 _ rfl⟩
theorem OwnP.opened (h : OwnP w B v ts) : ∃ (A : Option Addr) (cap : Nat), v = .slice A ts.length cap ∧ ts.length ≤ cap ∧ cap ≤ maxLen ∧ HoldsP w w.heap.size A ts := by
  rcases h.2 with ⟨rfl, h0⟩ | ⟨g, cap, cur, rfl, hb, hg2, hnc, hcm, hcs, htake⟩
  · have := h.holds
    exact ⟨none, 0, by rw [h0], by rw [h0]; exact Nat.le_refl _, this.2.2.1, this.2.2.2⟩
  · have := h.holds
    exact ⟨_, _, rfl, this.2.1, this.2.2.1, this.2.2.2⟩
theorem OwnP.ne_block {g : Nat} {t : TypeId} {cs : Array Value} (h : OwnP w B v ts) (hg : Block w g t cs) (hne : 46 ≠ t) : v.ownBlock ≠ some g := by
  rcases h.2 with ⟨rfl, _⟩ | ⟨g', cap, cur, rfl, _, hh, _⟩
  · simp [Value.ownBlock]
  · intro he
    obtain rfl : g' = g := by simpa [Value.ownBlock] using he
    unfold Block at hg
    rw [hh] at hg
    injection hg with hg
    injection hg with _ ht
    exact hne ht
theorem elemP : Try.prog.underlying 43 = some (.slice 46) ∧ (Try.prog.info? 46).map (fun i => (i.zero, i.size, i.bytes)) = some (some (.agg #[.int .i64 0, .int .i64 0, .int .i64 0]), 3, 24) := by
  constructor <;> kernel_rfl
theorem run_append_pc (h : OwnP w B v ts) (q : Pc) (c : Nat) (hsz : ts.length ≤ 1000000) (hbase : B ≤ w.heap.size) (ty : TypeId) :
    ∃ A' c' w', (Builtin.append_ #[43, 43] ty #[v, .slice (some ⟨w.heap.size, 0, none⟩) 1 c]).run Try.prog (w.alloc (.cells (cellsP q).toArray 46)) = .ok (.slice A' (ts.length + 1) c') w' ∧
      OwnP w' B (.slice A' (ts.length + 1) c') (ts ++ [q]) ∧ TurnsIn (fun b => v.ownBlock = some b) w w' := by
  obtain ⟨ht, hinfo⟩ := elemP
  obtain ⟨i, hi, hz, hs, hby⟩ := info_parts hinfo
  have hnew := Block.new w 46 (cellsP q).toArray
  obtain ⟨g, cap, w', hrun, h2, h3, _, _⟩ := run_append_lies (P := Try.prog) (w.alloc (.cells (cellsP q).toArray 46)) 43 ty B 46 i _ 3 24 ht hi hz hs hby rfl (by omega) v ts.length (ts.flatMap cellsP) (h.alloc _)
    ⟨w.heap.size, 0, none⟩ 1 c (cellsP q) (by simp [cellsP]) (by
      intro j u hu
      exact World.news_of_block hnew j u (by simpa using hu)) (by
      intro u hu
      simp [cellsP] at hu
      rcases hu with rfl | rfl | rfl <;> rfl) (by omega) (by unfold maxLen; omega) (by omega) (by simp; omega) _ rfl
  refine ⟨some ⟨g, 0, none⟩, cap, w', hrun, ?_, ((TurnsIn.refl _ w).alloc _).trans (.ofGrown h3 fun b hb => hb)⟩
  unfold OwnP
  rw [List.length_append, List.flatMap_append]
  simpa using h2
theorem step_append_pc {ops : Array Oper} {o : Oper} {a : Act} {K : Act → World → Prop} {Q : Exit → Act → World → Prop} {E : Prop} (hg : o.guard = none) (s x : Operand)
    (ho : o.op = Op.call { callee := Callee.builtin Builtin.append, args := #[s, x], argTypes := #[43, 43] })
    (q : Pc) (hown : OwnP w B v ts) (hs : a.eval s = v) {c : Nat} (hx : a.eval x = .slice (some ⟨w.heap.size, 0, none⟩) 1 c) (hsz : ts.length ≤ 1000000) (hbase : B ≤ w.heap.size)
    (hK : ∀ A' c' w', OwnP w' B (.slice A' (ts.length + 1) c') (ts ++ [q]) → TurnsIn (fun b => v.ownBlock = some b) w w' → K (a.put o.dst (.slice A' (ts.length + 1) c')) w') :
    if Region.wanted o (yielded ops a.tmps) = true then Oper.wp Try.prog o a (w.alloc (.cells #[.int .i64 q.n, .int .i64 q.o, .int .i64 q.l] 46)) K Q else E := by
  have hw : Region.wanted o (yielded ops a.tmps) = true := by simp [Region.wanted, hg]
  rw [if_pos hw]
  obtain ⟨A', c', w', hrun, h2, h3⟩ := run_append_pc hown q c hsz hbase o.type
  have hrun' : (Builtin.append_ #[43, 43] o.type #[v, .slice (some ⟨w.heap.size, 0, none⟩) 1 c]).run Try.prog (w.alloc (.cells #[.int .i64 q.n, .int .i64 q.o, .int .i64 q.l] 46)) = .ok (.slice A' (ts.length + 1) c') w' := hrun
  unfold Oper.wp
  simp [execOp, ho, resolve, invoke, builtin, hs, hx, hrun', Result.andThen]
  exact hK _ _ _ h2 h3
theorem wpList_append_pc {ops : Array Oper} {rest : List Oper} {o : Oper} {a : Act} {Q : Exit → Act → World → Prop} (hgd : o.guard = none) (s x : Operand)
    (ho : o.op = Op.call { callee := Callee.builtin Builtin.append, args := #[s, x], argTypes := #[43, 43] })
    (q : Pc) (hown : OwnP w B v ts) (hs : a.eval s = v) {c : Nat} (hx : a.eval x = .slice (some ⟨w.heap.size, 0, none⟩) 1 c) (hsz : ts.length ≤ 1000000) (hbase : B ≤ w.heap.size)
    (hK : ∀ A' c' w', OwnP w' B (.slice A' (ts.length + 1) c') (ts ++ [q]) → TurnsIn (fun b => v.ownBlock = some b) w w' → wpList Try.prog ops Q rest (a.put o.dst (.slice A' (ts.length + 1) c')) w') :
    wpList Try.prog ops Q (o :: rest) a (w.alloc (.cells #[.int .i64 q.n, .int .i64 q.o, .int .i64 q.l] 46)) := by
  refine wpList_plain hgd fun K hK2 => ?_
  obtain ⟨A', c', w', hrun, h2, h3⟩ := run_append_pc hown q c hsz hbase o.type
  have hrun' : (Builtin.append_ #[43, 43] o.type #[v, .slice (some ⟨w.heap.size, 0, none⟩) 1 c]).run Try.prog (w.alloc (.cells #[.int .i64 q.n, .int .i64 q.o, .int .i64 q.l] 46)) = .ok (.slice A' (ts.length + 1) c') w' := hrun
  unfold Oper.wp
  simp only [execOp, ho, resolve, invoke, builtin, Sem.run_bind, Sem.run_pure, Result.andThen_ok, List.map_toArray, List.map_cons, List.map_nil, hs, hx, hrun']
  exact hK2 _ _ (hK _ _ _ h2 h3)
end

theorem str_beq {xs ys : List Int} (hx : Octets xs) (hy : Octets ys) : ((strOfNums xs).toList == (strOfNums ys).toList) = decide (xs = ys) := by
  by_cases h : xs = ys
  · subst h; simp
  · rw [decide_eq_false h, beq_eq_false_iff_ne]
    intro e
    apply h
    apply strOfNums_inj hx hy
    rw [ByteArray.toList_eq, ByteArray.toList_eq] at e
    exact ByteArray.ext (Array.ext' e)
theorem equal_all (A1 A2 : Option Addr) (xs ys : List Int) (c1 c2 : Nat) (w : World) (hx : Octets xs) (hy : Octets ys) (r1 : Holds w w.heap.size .u8 A1 xs) (r2 : Holds w w.heap.size .u8 A2 ys) :
    Calls Try.prog 22 #[.slice A1 xs.length c1, .slice A2 ys.length c2] w fun e w' => e = .returned (.bool (decide (xs = ys))) ∧ w = w' := by
  have f1 := conv_bytes Try.underlying22 Try.underlying5 Try.underlying9 w A1 xs c1 _ r1
  have f2 := conv_bytes Try.underlying22 Try.underlying5 Try.underlying9 w A2 ys c2 _ r2
  have hb := str_beq hx hy
  generalize decide (xs = ys) = b at *
  generalize strOfNums xs = s at *
  generalize strOfNums ys = t at *
  go_enter Try.func22, Try.ntmps22
  go_wp2
  go_ret
  exact ⟨by rw [← hb]; rfl, rfl⟩

theorem wpList_append_pc_as {w : World} {B : Nat} {v : Value} {ts : List Pc} {ops : Array Oper} {rest : List Oper} {o : Oper} {a : Act} {Q : Exit → Act → World → Prop} (hgd : o.guard = none) (s x : Operand)
    (ho : o.op = Op.call { callee := Callee.builtin Builtin.append, args := #[s, x], argTypes := #[43, 43] })
    (q : Pc) (hown : OwnP w B v ts) (hs : a.eval s = v) {c N : Nat} (hN : w.heap.size = N) (hx : a.eval x = .slice (some ⟨N, 0, none⟩) 1 c) (hsz : ts.length ≤ 1000000) (hbase : B ≤ w.heap.size)
    (hK : ∀ A' c' w', OwnP w' B (.slice A' (ts.length + 1) c') (ts ++ [q]) → TurnsIn (fun b => v.ownBlock = some b) w w' → wpList Try.prog ops Q rest (a.put o.dst (.slice A' (ts.length + 1) c')) w') :
    wpList Try.prog ops Q (o :: rest) a (w.alloc (.cells #[.int .i64 q.n, .int .i64 q.o, .int .i64 q.l] 46)) := by
  subst hN
  exact wpList_append_pc hgd s x ho q hown hs hx hsz hbase hK
theorem OwnP.below {w w' : World} {B : Nat} {v : Value} {ts : List Pc} (h : OwnP w B v ts) (hb : Below w.heap.size w w') : OwnP w' B v ts := by
  rcases h.2 with ⟨rfl, h0⟩ | ⟨g, cap, cur, rfl, hbg, hg, hnc, hcm, hcs, htake⟩
  · exact ⟨h.1, .inl ⟨rfl, h0⟩⟩
  · exact ⟨h.1, .inr ⟨g, cap, cur, rfl, hbg, (hb.block g (Array.getElem?_eq_some_iff.1 hg).1).trans hg, hnc, hcm, hcs, htake⟩⟩

set_option maxRecDepth 100000 in
set_option maxHeartbeats 12800000 in
theorem find_some {w : World} {xs ys : List Int} (A1 A2 : Option Addr) (ca cb : Nat) (hx : Holds w w.heap.size .u8 A1 xs) (hy : Holds w w.heap.size .u8 A2 ys) (hxl : xs.length ≤ 100000) (hyl : ys.length ≤ 100000) (ox : Octets xs) (oy : Octets ys) (hcb : ys.length ≤ cb) (h0 : 0 < ys.length) (hne : xs ≠ ys) :
    Calls Try.prog 18 #[.slice A1 xs.length ca, .slice A2 ys.length cb] w fun e w' => ∃ (A : Option Addr) (c : Nat) (ps : List Pc) (e9 : Nat), e = .returned (.slice A ps.length c) ∧ FoundL xs ys ps e9 ys.length ∧ HoldsP w' w'.heap.size A ps ∧ ps.length ≤ c ∧ Below w.heap.size w w' := by
  have d1 : decide ((0 : Int) < (ys.length : Int)) = true := decide_eq_true (by omega)
  have d2 : decide (0 < ys.length) = true := decide_eq_true h0
  have GE := Lib.hid (equal_all A1 A2 xs ys ca cb w ox oy hx hy)
  rw [decide_eq_false hne] at GE
  have GN := Lib.hid (new_any A1 xs ca w (by omega) ox hx)
  obtain ⟨b2, off2, rfl, _, _⟩ := hy h0
  have HX := Lib.hid hx
  have HY := Lib.hid hy
  clear hx hy hne
  go_enter Try.func18, Try.ntmps18
  go_wp2_with (first
    | (go_at_call 22; (with_reducible refine GE.out.mono ?_); rintro e w1 ⟨rfl, rfl⟩)
    | (go_at_call 23; (with_reducible refine GN.out.mono ?_); rintro e w2 ⟨g, T, rfl, hid, hb⟩; have HI := Lib.hid hid; have HB := Lib.hid hb; clear hid hb))
  clear GE GN
  have HXW := Lib.hid ((HX.out.below HB.out).more HB.out.size)
  have HYW := Lib.hid ((HY.out.below HB.out).more HB.out.size)
  clear HX HY
  go_loopw [7, 8, 9] (fun sl se si wr => ∃ (ps : List Pc) (e i : Nat), se = .int .i64 e ∧ si = .int .i64 i ∧ OwnP wr w2.heap.size sl ps ∧ Hid (FoundL xs ys ps e i) ∧ Below w2.heap.size w2 wr) (fun _ _ si _ => ys.length - (intOf si).toNat)
  case atStart => exact ⟨[], 0, 0, rfl, rfl, OwnP.nil _ _, FoundL.nil _ _, Below.refl _ _⟩
  case round =>
    obtain ⟨ps, e, i, rfl, rfl, own, HF, hB⟩ := hrel
    by_cases hlt : i < ys.length
    · have d3 : decide ((i : Int) < (ys.length : Int)) = true := decide_eq_true (by omega)
      have d4 : decide (i < ys.length) = true := decide_eq_true hlt
      have hci : ¬ cb = i := by omega
      have hci2 : i ≤ cb := by omega
      have GL := longest_any (w := wr) (some ⟨b2, off2 + i, none⟩) (cb - i) (HI.out.below hB) ((holds_tail HYW.out i).below hB |>.more hB.size) (by omega) (by simp; omega) ox (fun x hx => oy x (List.mem_of_mem_drop hx))
      rw [List.length_drop] at GL
      have HGL := Lib.hid GL
      have HXR := Lib.hid ((HXW.out.below hB).more hB.size)
      have HYR := Lib.hid ((HYW.out.below hB).more hB.size)
      clear GL
      go_wp2_with fail
      refine HGL.out.mono ?_
      rintro e3 w3 ⟨at_, most, rfl, hf, b3⟩
      have own3 := own.below b3
      have hB3 := hB.trans (b3.mono hB.size)
      clear HGL
      by_cases hs : most < 16
      · have d5 : decide ((most : Int) < 16) = true := decide_eq_true (by omega)
        have d6 : decide (most < 16) = true := decide_eq_true hs
        have HF2 := Lib.hid (HF.out.skip hlt hf hs)
        clear HF hf
        go_wp2_with fail
        go_roundw
        case rel => exact ⟨ps, e, i + 1, rfl, by go_num, own3, HF2, hB3⟩
        case measure => simp [intOf] <;> omega
      · have d5 : decide ((most : Int) < 16) = false := decide_eq_false (by omega)
        have d6 : decide (most < 16) = false := decide_eq_false hs
        have hc := hf.lt (by omega)
        have hle := comL_le (xs.drop at_) (ys.drop i)
        rw [List.length_drop, List.length_drop, hc.2] at hle
        have GW := widened_any (w := w3) A1 (some ⟨b2, off2, none⟩) ca cb (n := i) (o := at_) (l := most) (free := e) ((HXR.out.below b3).more b3.size) ((HYR.out.below b3).more b3.size) hxl hyl HF.out.ei (by omega) (by omega)
        have HGW := Lib.hid GW
        have HTK := Lib.hid (fun back more hw => HF.out.take hlt hf (back := back) (more := more) (by omega) hw)
        have HFEW := Lib.hid HF.out.few
        clear GW HF hf hc
        go_wp2_with fail
        refine HGW.out.mono ?_
        rintro e4 w4 ⟨back, more, rfl, hw, b4⟩
        have own4 := own3.below b4
        have hB4 := hB3.trans (b4.mono hB3.size)
        have hf2 := HTK.out back more hw
        have q2 : ((back + most + more : Nat) : Int) = (back : Int) + most + more := by omega
        rw [q2] at hf2
        have HF2 := Lib.hid hf2
        have k1 := hw.b1
        have k2 := hw.m1
        have k3 := hw.m2
        have k4 := HFEW.out
        have hps : ps.length ≤ 1000000 := by omega
        have hsz4 : (w4.alloc (.cells #[.int .i64 ((i - back : Nat) : Int), .int .i64 ((at_ - back : Nat) : Int), .int .i64 ((back + most + more : Nat) : Int)] 46)).heap.size = w4.heap.size + 1 := by simp
        have N4 := Block.new w4 46 #[.int .i64 ((i - back : Nat) : Int), .int .i64 ((at_ - back : Nat) : Int), .int .i64 ((back + most + more : Nat) : Int)]
        have own5 := own4.alloc (.cells #[.int .i64 ((i - back : Nat) : Int), .int .i64 ((at_ - back : Nat) : Int), .int .i64 ((back + most + more : Nat) : Int)] 46)
        have hB5 := hB4.alloc hB4.size (.cells #[.int .i64 ((i - back : Nat) : Int), .int .i64 ((at_ - back : Nat) : Int), .int .i64 ((back + most + more : Nat) : Int)] 46)
        rw [q2] at hsz4 N4 own5 hB5
        have HN4 := Lib.hid N4
        have HS4 := Lib.hid hsz4
        have HLT := Lib.hid own4.lt
        clear HGW HTK hw hf2 q2 k4 hsz4 N4
        go_wp2_with (at_builtin; refine wpList_append_pc_as rfl _ _ rfl ⟨((i - back : Nat) : Int), ((at_ - back : Nat) : Int), (back : Int) + most + more⟩ own5 rfl HS4.out rfl hps hB5.size ?_; intro A9 c9 w5 own6 tu; have hB6 := hB5.trans (tu.toBelow hB5.size (fun b hb hs => by have := (HLT.out b hs).1; omega)); have N5 := Block.out HN4.out tu (fun hs => by have := (HLT.out _ hs).2; omega); have p0 := N5.cell 0; have p2 := N5.cell 2; simp only [List.getElem?_toArray, List.getElem?_cons_zero, List.getElem?_cons_succ] at p0 p2; clear tu N5)
        go_roundw
        case rel => exact ⟨_, i + most + more, i + most + more, congrArg (Value.int .i64) (by omega), congrArg (Value.int .i64) (by omega), own6, HF2, hB6⟩
        case measure => simp [intOf] <;> omega
    · obtain rfl : i = ys.length := by have := HF.out.iy; omega
      have d3 : decide ((ys.length : Int) < (ys.length : Int)) = false := decide_eq_false (by omega)
      have d4 : decide (ys.length < ys.length) = false := decide_eq_false (by omega)
      obtain ⟨A, c, rfl, kc, _, hh⟩ := own.opened
      go_wp2_with fail
      go_ret
      exact ⟨A, c, ps, e, rfl, HF.out, hh, kc, HB.out.trans (hB.mono HB.out.size)⟩
end Go.Proofs.Ytlcnbepldkbkgaa.Mx
