/-
  Layer 24, journal: sum, Put: contracts. Conditions: as each theorem names.
-/
import Derived.Test.YtpnodocjpedcmaaDoorMJrB
import Derived.Test.YtpnodocjpedcmaaDoorMGIays0
import Derived.Test.YtpnodocjpedcmaaDoorMGIays21
import Derived.Lib.SlBytesConst
namespace Go.Proofs.YtpnodocjpedcmaaDoor.Jr
open Go.ChangeShapes Go.WideShapes Go.ChangeAt Go.RowKit Go.Proofs.YtpnodocjpedcmaaDoor.Kit Go.Proofs.YtpnodocjpedcmaaDoor.Oct Go.Proofs.YtpnodocjpedcmaaDoor.Sha

/-- A row of cells of any values is loaded, where a guard may stand. -/
theorem wpList_load_midV {P : Program} {w : World} {ops : Array Oper} {rest : List Oper} {o : Oper} {a : Act} {Q : Exit → Act → World → Prop} (hw : Region.wanted o (yielded ops a.tmps) = true) (ty : TypeId) (x : Operand) (ho : o.op = .load ty x)
    (b f : Nat) (hx : a.eval x = .pointer (some ⟨b, f, none⟩)) (cs : List Value) (hc : w.rangeAt b f cs) {d : TypeDesc} (hu : P.underlying ty = some d) (hd : d.isRow = true) (hi : (P.info? ty).map (·.size) = some cs.length)
    (hK : wpList P ops Q rest (a.put o.dst (.agg cs.toArray)) w) : wpList P ops Q (o :: rest) a w :=
  wpList_step fun K hK' => by
    rw [if_pos hw]
    exact wp_load_mid ty x ho b f hx cs d hc hu hd hi (hK' _ _ hK)
theorem block_range {w : World} {g : Nat} {t : TypeId} {L : List Value} (h : Block w g t L.toArray) : w.rangeAt g 0 L := by
  intro j v hj
  rw [h.cell, List.getElem?_toArray, Nat.zero_add, hj]
theorem holds_range {w : World} {g o : Nat} {xs : List Int} (h : w.rangeAt g o (xs.map (Value.int .u8))) (hg : g < w.heap.size) : Holds w w.heap.size .u8 (some ⟨g, o, none⟩) xs := by
  intro _
  refine ⟨g, o, rfl, hg, fun j hj => ?_⟩
  have := h j (.int .u8 (xs.getD j 0)) (by rw [List.getElem?_map, List.getElem?_eq_getElem hj]; simp [List.getD, List.getElem?_eq_getElem hj])
  exact this
theorem Rec.cells_length (r : Rec) (h : r.man.length = 32) : r.cells.length = 44 := by
  unfold Rec.cells
  simp [h]
theorem RecAt.man {w : World} {g : Nat} {r : Rec} (h : RecAt w g r) (hm : r.man.length = 32) : w.rangeAt g 6 (r.man.map (Value.int .u8)) := by
  intro j v hj
  rw [Block.cell h, List.getElem?_toArray, show 6 + j = j + 1 + 1 + 1 + 1 + 1 + 1 by omega]
  unfold Rec.cells
  simp only [List.getElem?_cons_succ]
  have hl := (List.getElem?_eq_some_iff.1 hj).1
  rw [List.getElem?_append_left hl, hj]

def Gives2 (zs : List Int) (E : Int) (w : World) (e : Ending) (w' : World) : Prop :=
  ∃ (A : Option Addr) (c : Nat), e = .returned (.tuple #[.slice A zs.length c, .int .i64 E]) ∧ zs.length ≤ c ∧ c ≤ maxLen ∧ Holds w' w'.heap.size .u8 A zs ∧ Below w.heap.size w w'
theorem Gives2.of_own {zs : List Int} {E : Int} {w w' : World} {B : Nat} {v : Value} {e : Ending} {t : TypeId} (he : e = .returned (.tuple #[v, .int .i64 E])) (h : Own w' B t .u8 v zs) (hb : Below w.heap.size w w') : Gives2 zs E w e w' := by
  obtain ⟨A, c, rfl, hl, hm, hr⟩ := h.opened
  exact ⟨A, c, he, hl, hm, hr, hb⟩
theorem Gives2.none {E : Int} {w w' : World} {e : Ending} (he : e = .returned (.tuple #[.slice none 0 0, .int .i64 E])) (hb : Below w.heap.size w w') : Gives2 [] E w e w' :=
  ⟨Option.none, 0, he, Nat.le_refl _, Nat.zero_le _, Holds.nil, hb⟩

theorem c8 : clamp 8 = 8 := rfl
theorem c4 : clamp 4 = 4 := rfl
def Rec.q0 (r : Rec) : List Int := [74, 82, 78, 76] ++ be (clamp 8) r.seq
def Rec.q1 (r : Rec) : List Int := r.q0 ++ [r.act] ++ be (clamp 8) r.ver
def Rec.q2 (r : Rec) : List Int := r.q1 ++ be (clamp 4) r.len
def Rec.q3 (r : Rec) : List Int := r.q2 ++ [r.st, r.md]
def Rec.q4 (r : Rec) : List Int := r.q3 ++ r.man ++ be (clamp 8) r.nv
def Rec.q5 (r : Rec) : List Int := r.q4 ++ be (clamp 4) r.nl
def Rec.q6 (r : Rec) : List Int := r.q5 ++ be (clamp 4) r.dn
def Rec.q7 (r : Rec) : List Int := r.q6 ++ be (clamp 8) r.at_
def Rec.q8 (r : Rec) : List Int := r.q7 ++ be (clamp 4) r.blk
def Rec.q9 (r : Rec) : List Int := r.q8 ++ be (clamp 4) r.asz
def Rec.putL (r : Rec) : List Int := r.q9 ++ (sumL r.q9).take 8
def Rec.putV (r : Rec) : List Int := if r.may then r.putL else []
def Rec.putE (r : Rec) : Int := if r.may then 0 else 3
theorem Rec.q_length (r : Rec) (h : r.man.length = 32) : r.q0.length = 12 ∧ r.q1.length = 21 ∧ r.q2.length = 25 ∧ r.q3.length = 27 ∧ r.q4.length = 67 ∧ r.q5.length = 71 ∧ r.q6.length = 75 ∧ r.q7.length = 83 ∧ r.q8.length = 87 ∧ r.q9.length = 91 := by
  have e0 : r.q0.length = 12 := by simp [Rec.q0, be_length, c8]
  have e1 : r.q1.length = 21 := by simp [Rec.q1, be_length, c8, e0]
  have e2 : r.q2.length = 25 := by simp [Rec.q2, be_length, c4, e1]
  have e3 : r.q3.length = 27 := by simp [Rec.q3, e2]
  have e4 : r.q4.length = 67 := by simp [Rec.q4, be_length, c8, e3, h]
  have e5 : r.q5.length = 71 := by simp [Rec.q5, be_length, c4, e4]
  have e6 : r.q6.length = 75 := by simp [Rec.q6, be_length, c4, e5]
  have e7 : r.q7.length = 83 := by simp [Rec.q7, be_length, c8, e6]
  have e8 : r.q8.length = 87 := by simp [Rec.q8, be_length, c4, e7]
  exact ⟨e0, e1, e2, e3, e4, e5, e6, e7, e8, by simp [Rec.q9, be_length, c4, e8]⟩
theorem octets_app {xs ys : List Int} (h : Octets xs) (g : Octets ys) : Octets (xs ++ ys) := fun x hx => by
  rcases List.mem_append.1 hx with hx | hx
  · exact h x hx
  · exact g x hx
theorem Rec.q9_octets (r : Rec) (h : r.Ok) : Octets r.q9 := by
  have o1 : Octets [r.act] := fun x hx => by simp at hx; subst hx; exact h.act
  have o2 : Octets [r.st, r.md] := fun x hx => by simp at hx; rcases hx with rfl | rfl; exact h.st; exact h.md
  have o0 : Octets [74, 82, 78, 76] := fun x hx => by simp at hx; omega
  have b := fun n x => be_octets n x
  exact octets_app (octets_app (octets_app (octets_app (octets_app (octets_app (octets_app (octets_app (octets_app (octets_app (octets_app (octets_app o0 (b _ _)) o1) (b _ _)) (b _ _)) o2) h.mano) (b _ _)) (b _ _)) (b _ _)) (b _ _)) (b _ _)) (b _ _)
theorem inB_yes {n : Int} (h : inB n = true) : 0 ≤ n ∧ n ≤ 2147483647 := of_decide_eq_true h
theorem Rec.may_is {r : Rec} (h : r.may = true) : r.act ≤ 1 ∧ r.st ≤ 3 ∧ r.md ≤ 3 ∧ (0 ≤ r.len ∧ r.len ≤ 2147483647) ∧ (0 ≤ r.nl ∧ r.nl ≤ 2147483647) ∧ (0 ≤ r.dn ∧ r.dn ≤ 2147483647) ∧ (0 ≤ r.blk ∧ r.blk ≤ 2147483647) ∧ (0 ≤ r.asz ∧ r.asz ≤ 2147483647) := by
  unfold Rec.may at h
  simp only [Bool.and_eq_true, decide_eq_true_eq] at h
  obtain ⟨⟨⟨⟨⟨⟨a, b, c⟩, d⟩, e⟩, f⟩, g⟩, i⟩ := h
  exact ⟨a, b, c, inB_yes d, inB_yes e, inB_yes f, inB_yes g, inB_yes i⟩

set_option maxRecDepth 100000 in
set_option maxHeartbeats 3200000 in
theorem sum8_any (A : Option Addr) (xs : List Int) (c : Nat) (w : World) (hx : xs.length ≤ 1000000000) (hc : xs.length ≤ c) (hm : c ≤ maxLen) (ho : Octets xs) (hr : Holds w w.heap.size .u8 A xs) (hL : LaidS w) :
    Calls Tryd.prog 72 #[.slice A xs.length c] w fun e w' => ∃ v, e = .returned v ∧ Own w' w.heap.size 5 .u8 v ((sumL xs).take 8) ∧ Below w.heap.size w w' := by
  have GS := Lib.hid (psum_any A xs c w hx hc hm ho hr hL)
  have hsl := Lib.hid (sumL_length xs)
  have HS : Hid (((sumL xs).take 8).length = 8) := Lib.hid (by rw [List.length_take, sumL_length]; rfl)
  clear hL hr ho hm
  generalize sumL xs = ys at *
  go_enter Tryd.func72, Tryd.ntmps72
  go_wp2_with fail
  refine GS.out.mono ?_
  rintro e w1 ⟨rfl, hb1⟩
  have z1 : Arr (w1.alloc (.cells ((List.replicate 32 (0 : Int)).map (Value.int .u8)).toArray 48)) w1.heap.size 48 .u8 (List.replicate 32 0) := Arr.new w1 _ _ _
  have b1 := hb1.alloc hb1.size (.cells ((List.replicate 32 (0 : Int)).map (Value.int .u8)).toArray 48)
  have s1 : (w1.alloc (.cells ((List.replicate 32 (0 : Int)).map (Value.int .u8)).toArray 48)).heap.size = w1.heap.size + 1 := by simp
  clear GS
  go_wp2_with (first
    | (have _t := z1; refine wpList_store_arr rfl _ _ _ rfl (ys := ys) z1 rfl rfl (by rw [hsl.out]; rfl) (by rw [hsl.out]; kernel_rfl) ?_; clear _t; intro w6 x6 g6; have h6 := (x6.holds_all).prefix_ 8; have b6 : Below w.heap.size w w6 := b1.trans (below_of_grown g6 (by rw [s1]; have := hb1.size; omega) (fun b hb => by injection hb with hb; have := hb1.size; omega)); clear z1 g6)
    | (at_builtin; go_loud (refine wpList_append_ints (ys := ys.take 8) _ rfl (.const (.slice none 0 0)) (.tmp 6) 22 rfl Oct.elem8 (Own.nil w6 w.heap.size 5 .u8) rfl (by rw [HS.out]; rfl) h6 (by rw [HS.out]; decide) b6.size ?_; intro v7 w7 own7 g7 hb7 _)))
  go_ret
  exact ⟨_, rfl, by rw [List.nil_append] at own7; exact own7, b6.trans hb7⟩

theorem holds_mark {w : World} {t : TypeId} {zs : List Int} (m : Nat × Nat) : Holds (w.alloc (.cells (zs.map (Value.int .u8)).toArray t m)) (w.alloc (.cells (zs.map (Value.int .u8)).toArray t m)).heap.size .u8 (some ⟨w.heap.size, 0, none⟩) zs := by
  intro _
  refine ⟨w.heap.size, 0, rfl, by simp, fun j hj => ?_⟩
  have := World.cell?_alloc_mark w (zs.map (Value.int .u8)).toArray t m (0 + j)
  rw [this]
  simp [List.getD, List.getElem?_eq_getElem hj]
theorem m_app {w w' : World} {g B : Nat} {r : Rec} {v : Value} {xs : List Int} (M : RecAt w g r) (own : Own w B 5 .u8 v xs) (g7 : w.grownBy w' v.ownBlock) : RecAt w' g r := Block.grown M g7 (own.ne_block M (by decide))

set_option maxRecDepth 100000 in
set_option maxHeartbeats 6400000 in
theorem jput_any (r : Rec) (hr : r.Ok) (w : World) (hL : LaidS w) : Calls Tryd.prog 40 #[.agg r.cells.toArray] w (Gives2 r.putV r.putE w) := by
  have B1 := below_last w (.cells r.cells.toArray 50)
  have M1 : RecAt (w.alloc (.cells r.cells.toArray 50)) w.heap.size r := Block.new w _ _
  have R1 := block_range (L := r.cells) M1
  have HL := Lib.hid (r.cells_length hr.man)
  have GM := Lib.hid (fun W => may_any r hr W)
  have g1 := M1.lt
  have HV : Hid (r.putV = if r.may = true then r.putL else []) := Lib.hid rfl
  have HE : Hid (r.putE = if r.may = true then 0 else 3) := Lib.hid rfl
  cases hmay : r.may with
  | true =>
    rw [hmay] at GM HV HE
    rw [if_pos rfl] at HV HE
    rw [HV.out, HE.out]
    clear HV HE
    obtain ⟨ha, hs, hm, hlen, hnl, hdn, hblk, hasz⟩ := Rec.may_is hmay
    have hact := hr.act
    have hst := hr.st
    have hmd := hr.md
    have hseq := hr.seq
    have hver := hr.ver
    have hnv := hr.nv
    have hat := hr.at_
    obtain ⟨l0, l1, l2, l3, l4, l5, l6, l7, l8, l9⟩ := r.q_length hr.man
    have L0 := Lib.hid l0
    have L1 := Lib.hid l1
    have L2 := Lib.hid l2
    have L3 := Lib.hid l3
    have L4 := Lib.hid l4
    have L5 := Lib.hid l5
    have L6 := Lib.hid l6
    have L7 := Lib.hid l7
    have L8 := Lib.hid l8
    have L9 := Lib.hid l9
    clear l0 l1 l2 l3 l4 l5 l6 l7 l8 l9
    have HM := Lib.hid hr.man
    have HO9 := Lib.hid (r.q9_octets hr)
    have HS0 : Hid (r.q0 = [74, 82, 78, 76] ++ be (clamp 8) r.seq) := Lib.hid rfl
    have HS1 : Hid (r.q1 = r.q0 ++ [r.act] ++ be (clamp 8) r.ver) := Lib.hid rfl
    have HS2 : Hid (r.q2 = r.q1 ++ be (clamp 4) r.len) := Lib.hid rfl
    have HS3 : Hid (r.q3 = r.q2 ++ [r.st, r.md]) := Lib.hid rfl
    have HS4 : Hid (r.q4 = r.q3 ++ r.man ++ be (clamp 8) r.nv) := Lib.hid rfl
    have HS5 : Hid (r.q5 = r.q4 ++ be (clamp 4) r.nl) := Lib.hid rfl
    have HS6 : Hid (r.q6 = r.q5 ++ be (clamp 4) r.dn) := Lib.hid rfl
    have HS7 : Hid (r.q7 = r.q6 ++ be (clamp 8) r.at_) := Lib.hid rfl
    have HS8 : Hid (r.q8 = r.q7 ++ be (clamp 4) r.blk) := Lib.hid rfl
    have HS9 : Hid (r.q9 = r.q8 ++ be (clamp 4) r.asz) := Lib.hid rfl
    have HP : Hid (r.putL = r.q9 ++ (sumL r.q9).take 8) := Lib.hid rfl
    have GP := Lib.hid put_any
    have GS := Lib.hid sum8_any
    obtain ⟨L, hLL⟩ : ∃ L, r.cells = L := ⟨_, rfl⟩
    rw [hLL] at B1 M1 R1 HL g1 GM ⊢
    clear hLL hmay ha hs hm
    generalize hW : w.alloc (.cells L.toArray 50) = w1 at *
    go_enter Tryd.func40, Tryd.ntmps40
    go_wp2_with (first
      | (have _t := R1; rw [hW]; refine wpList_load_midV (by rfl) _ _ rfl _ 0 rfl L R1 Tryd.underlying50 rfl (by rw [HL.out]; kernel_rfl) ?_)
      | (have _t := R1; refine wpList_load_midV (by rfl) _ _ rfl _ 0 rfl L R1 Tryd.underlying50 rfl (by rw [HL.out]; kernel_rfl) ?_)
      | (go_at_call 70; (with_reducible refine (GM.out _).mono ?_); rintro e w2 ⟨rfl, hb⟩; have M2 := M1.below hb g1; have B2 := B1.trans (hb.mono B1.size); have e1 := (M2.alloc (.cells #[.int .u8 74, .int .u8 82, .int .u8 78, .int .u8 76] 5 (4, 5))).front.1; have kc : (convert 22 22 (.slice (some ⟨w2.heap.size, 0, none⟩) 4 4)).run Tryd.prog (w2.alloc (.cells #[.int .u8 74, .int .u8 82, .int .u8 78, .int .u8 76] 5)) = .ok (.slice (some ⟨w2.heap.size, 0, none⟩) 4 4) (w2.alloc (.cells #[.int .u8 74, .int .u8 82, .int .u8 78, .int .u8 76] 5 (4, 5))) := Lib.run_convert_bytes_const (P := Tryd.prog) w2 22 5 #[.int .u8 74, .int .u8 82, .int .u8 78, .int .u8 76] 4 4 Tryd.underlying22 Tryd.underlying5; clear hb))
    have A3 := holds_mark (w := w2) (t := 5) (zs := [74, 82, 78, 76]) (4, 5)
    have M3 := M2.alloc (.cells (([74, 82, 78, 76] : List Int).map (Value.int .u8)).toArray 5 (4, 5))
    have B3 := B2.alloc B2.size (.cells (([74, 82, 78, 76] : List Int).map (Value.int .u8)).toArray 5 (4, 5))
    simp only [List.map_cons, List.map_nil] at A3 M3 B3
    have P3 := GP.out _ [74, 82, 78, 76] 4 0 8 r.seq _ (by simp) A3 (by omega)
    rw [← HS0.out] at P3
    refine P3.mono ?_
    rintro e w4 ⟨v, rfl, own4, hb⟩
    have M := M3.below hb M3.lt
    have B := B3.trans (hb.mono B3.size)
    have own : Own w4 w.heap.size 5 .u8 v r.q0 := own4.mono B3.size
    have LS := hL.below B
    clear own4 hb P3 M3 B3 A3 M2 B2 e1 kc hW R1 M1 B1 g1 LS GM
    obtain ⟨A, c, rfl, hcl, hcm, hrd⟩ := own.opened
    have s1 := M.front.2.1
    have s2 := M.front.2.2.1
    have qa : ∀ o, (w4.alloc o).cell? ⟨w.heap.size, 2, none⟩ = some (.int .u64 r.ver) := fun o => (M.alloc o).front.2.2.1
    have hBs := B.size
    have HQ : Hid ((r.q0 ++ [r.act]).length = 13) := Lib.hid (by rw [List.length_append, L0.out]; rfl)
    have P4 := Lib.hid (fun (A5 : Option Addr) (c5 : Nat) (W : World) (h : Own W w.heap.size 5 .u8 (.slice A5 (r.q0.length + 1) c5) (r.q0 ++ [r.act])) => (GP.out A5 (r.q0 ++ [r.act]) c5 0 8 r.ver W (by rw [HQ.out]; omega) (by obtain ⟨A6, c6, e6, _, _, h6⟩ := h.opened; injection e6 with e1 e2 e3; subst e1; exact h6) (by omega)))
    rw [show (r.q0 ++ [r.act]).length = r.q0.length + 1 by simp, ← HS1.out] at P4
    go_wp2_with fail
    go_cut [4] (fun v wx => Own wx w.heap.size 5 .u8 v r.q1 ∧ RecAt wx w.heap.size r ∧ Below w.heap.size w wx)
    case first =>
      go_region_law (first
        | (refine step_append_one_drew (z := r.act) (by rfl) _ _ _ (by rfl) Oct.elem8 (by exact own) (by rfl) (by rfl) (by rw [L0.out]; omega) hBs (by exact M) (by decide) ?_; intro A5 c5 w5 own5 tu5 ne5 blk5; have t2 := RecAt.front (r := r) blk5; have t3 := t2.2.2.1; clear t2; have hb5 := own.turned tu5 hBs; have hs5 := Nat.le_trans hBs hb5.size)
        | (go_simp; go_at_call 71; (with_reducible refine (P4.out A5 c5 w5 own5).mono ?_); rintro e w6 ⟨v6, rfl, own6, hb6⟩))
      all_goals
        have M6 : RecAt w6 w.heap.size r := Block.below (show RecAt w5 w.heap.size r from blk5) hb6 (by have := M.lt; have := hb5.size; exact (show RecAt w5 w.heap.size r from blk5).lt)
        have B6 := B.trans (hb5.trans (hb6.mono hs5))
        have own7 := (show Own w6 w5.heap.size 5 .u8 v6 r.q1 from own6).mono hs5
        go_wp2_with fail
        go_meet
        exact ⟨own7, M6, B6⟩
    case rest =>
    clear own M B hrd hcl hcm s1 s2 qa hBs P4 HQ
    obtain ⟨own, M, B⟩ := hcut
    obtain ⟨f0, f1, f2, f3, f4, f5⟩ := M.front
    obtain ⟨k0, k1, k2, k3, k4, k5⟩ := M.back HM.out
    obtain ⟨A, c, rfl, hcl, hcm, hrd⟩ := own.opened
    have P := GP.out A r.q1 c 0 4 r.len _ (by rw [L1.out]; omega) hrd (by omega)
    rw [← HS2.out] at P
    go_wp2_with fail
    refine P.mono ?_
    rintro e wn ⟨v, rfl, own5, hb⟩
    replace M := M.below hb M.lt
    replace own : Own wn w.heap.size 5 .u8 v r.q2 := own5.mono B.size
    replace B := B.trans (hb.mono B.size)
    clear hb P own5 hrd hcl hcm f0 f1 f2 f3 f4 f5 k0 k1 k2 k3 k4 k5
    obtain ⟨f0, f1, f2, f3, f4, f5⟩ := M.front
    obtain ⟨A, c, rfl, hcl, hcm, hrd⟩ := own.opened
    have hA3 := (Arr.new wn 5 .u8 [r.st, r.md]).holds_all
    have B3 := B.alloc B.size (.cells (([r.st, r.md] : List Int).map (Value.int .u8)).toArray 5)
    have own3 := own.alloc (.cells (([r.st, r.md] : List Int).map (Value.int .u8)).toArray 5)
    have M3 := M.alloc (.cells (([r.st, r.md] : List Int).map (Value.int .u8)).toArray 5)
    simp only [List.map_cons, List.map_nil] at hA3 B3 own3 M3
    go_wp2_with (at_builtin; refine wpList_append_ints (ys := [r.st, r.md]) _ rfl (.tmp 26) (.tmp 31) 22 rfl Oct.elem8 own3 rfl rfl hA3 (by rw [L2.out]; simp) B3.size ?_; intro v7 w7 own7 g7 hb7 _)
    have M7 := m_app M3 own3 g7
    have B7 := B3.trans hb7
    rw [← HS3.out] at own7
    clear own M B hA3 B3 own3 M3 g7 hb7 hrd hcl hcm f0 f1 f2 f3 f4 f5
    obtain ⟨A, c, rfl, hcl, hcm, hrd⟩ := own7.opened
    have own := own7
    have M := M7
    have B := B7
    clear own7 M7 B7
    have k0 := (M.back HM.out).1
    have hBs := B.size
    have hman := holds_range (M.man HM.out) M.lt
    obtain ⟨zs, hzs⟩ : ∃ zs, r.q3 ++ r.man = zs := ⟨_, rfl⟩
    have HZ := Lib.hid hzs
    clear hzs
    have HQ : Hid (zs.length = 59) := Lib.hid (by rw [← HZ.out, List.length_append, L3.out, HM.out])
    have P4 := Lib.hid (fun (A5 : Option Addr) (c5 : Nat) (W : World) (h : Holds W W.heap.size .u8 A5 zs) => (GP.out A5 zs c5 0 8 r.nv W (by rw [HQ.out]; omega) h (by omega)))
    have HS4' : Hid (zs ++ be (clamp 8) r.nv = r.q4) := Lib.hid (by rw [HS4.out, HZ.out])
    rw [HS4'.out] at P4
    go_wp2_with fail
    go_cut [4] (fun v wx => Own wx w.heap.size 5 .u8 v r.q4 ∧ RecAt wx w.heap.size r ∧ Below w.heap.size w wx)
    case first =>
      go_region_law (first
        | (refine step_append_ints (ys := r.man) (by rfl) _ _ _ (by rfl) Oct.elem8 (by exact own) (by rfl) (by rw [HM.out]; rfl) (by exact hman) (by rw [L3.out, HM.out]; decide) hBs ?_; intro v5 w5 own5 g5' hb5' _; have g5 : w7.grownBy w5 _ := ⟨g5'.os, g5'.tape, g5'.output, g5'.size, g5'.block⟩; have hb5 : Below w.heap.size w7 w5 := ⟨hb5'.os, hb5'.tape, hb5'.output, hb5'.size, hb5'.block⟩; have M5 := m_app M own g5; rw [HZ.out] at own5; obtain ⟨A5, c5, rfl, hl5, hm5, h5⟩ := own5.opened; have t3 := (M5.back HM.out).1; have hs5 := Nat.le_trans hBs hb5.size)
        | (go_simp; go_at_call 71; (with_reducible refine (P4.out A5 c5 w5 h5).mono ?_); rintro e w6 ⟨v6, rfl, own6, hb6⟩))
      all_goals
        have M6 : RecAt w6 w.heap.size r := M5.below hb6 M5.lt
        have B6 := B.trans (hb5.trans (hb6.mono hs5))
        have own7 := (show Own w6 w5.heap.size 5 .u8 v6 r.q4 from own6).mono hs5
        go_wp2_with fail
        go_meet
        exact ⟨own7, M6, B6⟩
    case rest =>
    clear own M B hrd hcl hcm k0 hBs P4 HQ hman HS4' HZ
    clear zs
    obtain ⟨own, M, B⟩ := hcut
    obtain ⟨f0, f1, f2, f3, f4, f5⟩ := M.front
    obtain ⟨k0, k1, k2, k3, k4, k5⟩ := M.back HM.out
    obtain ⟨A, c, rfl, hcl, hcm, hrd⟩ := own.opened
    have P := GP.out A r.q4 c 0 4 r.nl _ (by rw [L4.out]; omega) hrd (by omega)
    rw [← HS5.out] at P
    go_wp2_with fail
    refine P.mono ?_
    rintro e wn ⟨v, rfl, own5, hb⟩
    replace M := M.below hb M.lt
    replace own : Own wn w.heap.size 5 .u8 v r.q5 := own5.mono B.size
    replace B := B.trans (hb.mono B.size)
    clear hb P own5 hrd hcl hcm f0 f1 f2 f3 f4 f5 k0 k1 k2 k3 k4 k5
    obtain ⟨f0, f1, f2, f3, f4, f5⟩ := M.front
    obtain ⟨k0, k1, k2, k3, k4, k5⟩ := M.back HM.out
    obtain ⟨A, c, rfl, hcl, hcm, hrd⟩ := own.opened
    have P := GP.out A r.q5 c 0 4 r.dn _ (by rw [L5.out]; omega) hrd (by omega)
    rw [← HS6.out] at P
    go_wp2_with fail
    refine P.mono ?_
    rintro e wn ⟨v, rfl, own5, hb⟩
    replace M := M.below hb M.lt
    replace own : Own wn w.heap.size 5 .u8 v r.q6 := own5.mono B.size
    replace B := B.trans (hb.mono B.size)
    clear hb P own5 hrd hcl hcm f0 f1 f2 f3 f4 f5 k0 k1 k2 k3 k4 k5
    obtain ⟨f0, f1, f2, f3, f4, f5⟩ := M.front
    obtain ⟨k0, k1, k2, k3, k4, k5⟩ := M.back HM.out
    obtain ⟨A, c, rfl, hcl, hcm, hrd⟩ := own.opened
    have P := GP.out A r.q6 c 0 8 r.at_ _ (by rw [L6.out]; omega) hrd (by omega)
    rw [← HS7.out] at P
    go_wp2_with fail
    refine P.mono ?_
    rintro e wn ⟨v, rfl, own5, hb⟩
    replace M := M.below hb M.lt
    replace own : Own wn w.heap.size 5 .u8 v r.q7 := own5.mono B.size
    replace B := B.trans (hb.mono B.size)
    clear hb P own5 hrd hcl hcm f0 f1 f2 f3 f4 f5 k0 k1 k2 k3 k4 k5
    obtain ⟨f0, f1, f2, f3, f4, f5⟩ := M.front
    obtain ⟨k0, k1, k2, k3, k4, k5⟩ := M.back HM.out
    obtain ⟨A, c, rfl, hcl, hcm, hrd⟩ := own.opened
    have P := GP.out A r.q7 c 0 4 r.blk _ (by rw [L7.out]; omega) hrd (by omega)
    rw [← HS8.out] at P
    go_wp2_with fail
    refine P.mono ?_
    rintro e wn ⟨v, rfl, own5, hb⟩
    replace M := M.below hb M.lt
    replace own : Own wn w.heap.size 5 .u8 v r.q8 := own5.mono B.size
    replace B := B.trans (hb.mono B.size)
    clear hb P own5 hrd hcl hcm f0 f1 f2 f3 f4 f5 k0 k1 k2 k3 k4 k5
    obtain ⟨f0, f1, f2, f3, f4, f5⟩ := M.front
    obtain ⟨k0, k1, k2, k3, k4, k5⟩ := M.back HM.out
    obtain ⟨A, c, rfl, hcl, hcm, hrd⟩ := own.opened
    have P := GP.out A r.q8 c 0 4 r.asz _ (by rw [L8.out]; omega) hrd (by omega)
    rw [← HS9.out] at P
    go_wp2_with fail
    refine P.mono ?_
    rintro e wn ⟨v, rfl, own5, hb⟩
    replace M := M.below hb M.lt
    replace own : Own wn w.heap.size 5 .u8 v r.q9 := own5.mono B.size
    replace B := B.trans (hb.mono B.size)
    clear hb P own5 hrd hcl hcm f0 f1 f2 f3 f4 f5 k0 k1 k2 k3 k4 k5
    obtain ⟨A, c, rfl, hcl, hcm, hrd⟩ := own.opened
    have HS8 : Hid (((sumL r.q9).take 8).length = 8) := Lib.hid (by rw [List.length_take, sumL_length]; rfl)
    have G := Lib.hid (GS.out A r.q9 c _ (by rw [L9.out]; omega) hcl hcm HO9.out hrd (hL.below B))
    have HF : Hid (r.putL = r.q9 ++ (sumL r.q9).take 8) := HP
    generalize (sumL r.q9).take 8 = ys at *
    go_wp2_with (first
      | (go_at_call 72; (with_reducible refine G.out.mono ?_); rintro e w8 ⟨v8, rfl, own8, hb8⟩; have ownq := own.below hb8; have B8 := B.trans (hb8.mono B.size); obtain ⟨A8, c8, rfl, hl8, hm8, h8⟩ := own8.opened)
      | (at_builtin; refine wpList_append_ints (ys := ys) _ rfl (.tmp 64) (.tmp 66) 22 rfl Oct.elem8 ownq rfl rfl h8 (by rw [L9.out, HS8.out]; decide) B8.size ?_; intro v9 w9 own9 g9 hb9 _))
    go_ret2
    rw [HF.out]
    exact Gives2.of_own rfl own9 (B8.trans hb9)
  | false =>
    rw [hmay] at GM HV HE
    rw [if_neg (by decide)] at HV HE
    rw [HV.out, HE.out]
    clear HV HE hmay
    obtain ⟨L, hLL⟩ : ∃ L, r.cells = L := ⟨_, rfl⟩
    rw [hLL] at B1 M1 R1 HL g1 GM ⊢
    clear hLL M1
    generalize hW : w.alloc (.cells L.toArray 50) = w1 at *
    go_enter Tryd.func40, Tryd.ntmps40
    go_wp2_with (first
      | (have _t := R1; rw [hW]; refine wpList_load_midV (by rfl) _ _ rfl _ 0 rfl L R1 Tryd.underlying50 rfl (by rw [HL.out]; kernel_rfl) ?_)
      | (have _t := R1; refine wpList_load_midV (by rfl) _ _ rfl _ 0 rfl L R1 Tryd.underlying50 rfl (by rw [HL.out]; kernel_rfl) ?_)
      | (go_at_call 70; (with_reducible refine (GM.out _).mono ?_); rintro e w2 ⟨rfl, hb⟩))
    go_ret2
    exact Gives2.none rfl (B1.trans (hb.mono B1.size))
end Go.Proofs.YtpnodocjpedcmaaDoor.Jr
