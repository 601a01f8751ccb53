/-
  Layer 22, manifest: Put: contract. Conditions: as each theorem names.
-/
import Derived.Test.YtpdofegmobbipaaMnQ
import Derived.Test.YtpdofegmobbipaaStA
namespace Go.Proofs.Ytpdofegmobbipaa.Mn
open Go.ChangeShapes Go.WideShapes Go.ChangeAt Go.RowKit Go.Proofs.Ytpdofegmobbipaa.Kit Go.Proofs.Ytpdofegmobbipaa.Ordr Go.Proofs.Ytpdofegmobbipaa.Blk Go.Proofs.Ytpdofegmobbipaa.Oct

def Gives2 (zs : List Int) (E : Int) (w : World) (e : Ending) (w' : World) : Prop :=
  ∃ (A : Option Addr) (c : Nat), e = .returned (.tuple #[.slice A zs.length c, .int .i64 E]) ∧ zs.length ≤ c ∧ c ≤ maxLen ∧ Holds w' w'.heap.size .u8 A zs ∧ Below w.heap.size w w'
theorem put_b6 {w wr w6 : World} {o : Obj} (B : Below w.heap.size w wr) (g6 : (wr.alloc o).grownBy w6 (some wr.heap.size)) : Below w.heap.size w w6 :=
  (B.alloc B.size _).trans (below_of_grown g6 (by have := B.size; simp; omega) (fun b hb => by injection hb with hb; have := B.size; omega))
theorem put_m6 {wr w6 : World} {g : Nat} {m : Man} {o : Obj} (M : ManAt wr g m) (g6 : (wr.alloc o).grownBy w6 (some wr.heap.size)) : ManAt w6 g m :=
  Block.grown (Block.alloc M _) g6 (by intro e; injection e with e; have := Block.lt M; omega)
theorem put_o6 {wr w6 : World} {B : Nat} {t : TypeId} {v : Value} {xs : List Int} {o : Obj} (own : Own wr B t .u8 v xs) (g6 : (wr.alloc o).grownBy w6 (some wr.heap.size)) : Own w6 B t .u8 v xs :=
  (own.alloc _).kept g6 (by
    cases h : v.ownBlock with
    | none => exact .inl rfl
    | some b => exact .inr (by intro e; injection e with e; have := own.lt b h; omega))
theorem put_m7 {w6 w7 : World} {g B : Nat} {m : Man} {v : Value} {xs : List Int} (M : ManAt w6 g m) (own : Own w6 B 5 .u8 v xs) (g7 : w6.grownBy w7 v.ownBlock) : ManAt w7 g m :=
  Block.grown M g7 (own.ne_block M (by decide))
theorem ManAt.lt {w : World} {g : Nat} {m : Man} (h : ManAt w g m) : g < w.heap.size := Block.lt h
theorem Gives2.of_own {zs : List Int} {E : Int} {w w' : World} {B : Nat} {v : Value} {e : Ending} {t : TypeId} (he : e = .returned (.tuple #[v, .int .i64 E])) (h : Own w' B t .u8 v zs) (hb : Below w.heap.size w w') : Gives2 zs E w e w' := by
  obtain ⟨A, c, rfl, hl, hm, hr⟩ := h.opened
  exact ⟨A, c, he, hl, hm, hr, hb⟩
theorem Gives2.none {E : Int} {w w' : World} {e : Ending} (he : e = .returned (.tuple #[.slice none 0 0, .int .i64 E])) (hb : Below w.heap.size w w') : Gives2 [] E w e w' :=
  ⟨Option.none, 0, he, Nat.le_refl _, Nat.zero_le _, Holds.nil, hb⟩

def Man.pj (m : Man) : Nat → List Int
  | 0 => m.p0
  | 1 => m.p1
  | 2 => m.p2
  | _ => m.p3
def Man.qj (m : Man) : Nat → List Int
  | 0 => m.p3
  | 1 => m.p4
  | 2 => m.p5
  | _ => m.p6
theorem Man.ord_bd (m : Man) (h : m.May) : ∀ x ∈ m.ord, 0 ≤ x ∧ x < 4096 := by
  intro x hx
  have h1 := h.2.2.2.2.2.2
  have h2 := h1.2.1 x hx
  have h3 := h.2.2.2.2.2.1
  unfold Man.want at h2
  split at h2 <;> omega
/-- The writing, or none; the error. -/
def Man.putV (m : Man) : List Int := if m.May then m.putL else []
def Man.putE (m : Man) : Int := if m.May then 0 else 3

set_option maxRecDepth 100000 in
set_option maxHeartbeats 6400000 in
theorem mput_any (m : Man) (ho : m.Ok) (w : World) (hr : m.In w) (h5 : m.ord.length ≤ 5000) : Calls Try.prog 9 #[.agg m.cells.toArray] w (Gives2 m.putV m.putE w) := by
  have B1 := below_last w (.cells m.cells.toArray 27)
  have M1 : ManAt (w.alloc (.cells m.cells.toArray 27)) w.heap.size m := Block.new w _ _
  have R1 := block_range (L := m.cells) M1
  have HL := Lib.hid (m.cells_length ho)
  have GM := Lib.hid (fun W hB => may_any m ho W ((hr.below hB).more (Below.size (B := w.heap.size) hB)))
  by_cases hmay : m.May
  · have e1 : m.putV = m.putL := if_pos hmay
    have e2 : m.putE = 0 := if_pos hmay
    rw [e1, e2]
    clear e1 e2
    have hdm : decide m.May = true := decide_eq_true hmay
    rw [hdm] at GM
    clear hdm
    have hbk := inB_yes hmay.2.1
    have hol := inB_yes hmay.2.2.1
    have hnl := inB_yes hmay.2.2.2.1
    have hmd := ho.md
    have hvr := ho.vr
    obtain ⟨l0, l1, l2, l3, l4, l5, l6⟩ := m.pre_length ho
    have L0 := Lib.hid l0
    have L1 := Lib.hid l1
    have L2 := Lib.hid l2
    have L3 := Lib.hid l3
    have L4 := Lib.hid l4
    have L5 := Lib.hid l5
    have L6 := Lib.hid l6
    clear l0 l1 l2 l3 l4 l5 l6
    have HS0 : Hid (m.p0 = [1, m.md] ++ be (clamp 8) m.vr) := Lib.hid rfl
    have HS1 : Hid (m.p1 = m.p0 ++ be (clamp 4) m.bk) := Lib.hid rfl
    have HS2 : Hid (m.p2 = m.p1 ++ be (clamp 4) m.ol) := Lib.hid rfl
    have HS3 : Hid (m.p3 = m.p2 ++ be (clamp 4) m.nl) := Lib.hid rfl
    have GP := Lib.hid put_any
    obtain ⟨L, hL⟩ : ∃ L, m.cells = L := ⟨_, rfl⟩
    rw [hL] at B1 M1 R1 HL GM ⊢
    clear hL
    have g1 : w.heap.size < (w.alloc (.cells L.toArray 27)).heap.size := by simp
    generalize hW : w.alloc (.cells L.toArray 27) = w1 at *
    go_enter Try.func9, Try.ntmps9
    go_wp2_with (first
      | (have _t := R1; rw [hW]; refine wpList_load_midV (by rfl) _ _ rfl _ 0 rfl L R1 Try.underlying27 rfl (by rw [HL.out]; kernel_rfl) ?_)
      | (have _t := R1; refine wpList_load_midV (by rfl) _ _ rfl _ 0 rfl L R1 Try.underlying27 rfl (by rw [HL.out]; kernel_rfl) ?_)
      | (go_at_call 11; (with_reducible refine (GM.out _ B1).mono ?_); rintro e w2 ⟨rfl, hb⟩; have M2 := M1.below hb g1; have B2 := B1.trans (hb.mono B1.size); obtain ⟨f0, f1, f2, f3, f4⟩ := M2.ints; have e1 := (M2.alloc (.cells #[.int .u8 1, .int .u8 m.md] 5)).ints.2.1; clear hb))
    have A3 := Arr.new w2 5 .u8 [1, m.md]
    have M3 := M2.alloc (.cells (([1, m.md] : List Int).map (Value.int .u8)).toArray 5)
    have B3 := B2.alloc B2.size (.cells (([1, m.md] : List Int).map (Value.int .u8)).toArray 5)
    simp only [List.map_cons, List.map_nil] at A3 M3 B3
    have P3 := GP.out _ [1, m.md] 2 0 8 m.vr _ (by simp) A3.holds_all (by omega)
    rw [← HS0.out] at P3
    refine P3.mono ?_
    rintro e w4 ⟨v, rfl, own, hb⟩
    have M4 := M3.below hb M3.lt
    have B4 := B3.trans (hb.mono B3.size)
    have own4 : Own w4 w.heap.size 5 .u8 v m.p0 := own.mono B3.size
    clear own hb P3 M3 B3 A3 M2 B2 f0 f1 f2 f3 f4 e1
    obtain ⟨f0, f1, f2, f3, f4⟩ := M4.ints
    have HOD := Lib.hid ho.odl
    have HND := Lib.hid ho.ndl
    have HRT := Lib.hid ho.rtl
    have HB3 := Lib.hid (fun W => build_three m.od m.nd m.rt ho.odl ho.ndl ho.rtl W)
    have h96 : (m.od ++ (m.nd ++ m.rt)).length = 96 := by simp [ho.odl, ho.ndl, ho.rtl]
    have I0 : ∀ W, (Instr.index 51 (.agg ((m.od ++ (m.nd ++ m.rt)).map (Value.int .u8)).toArray) (.int .i64 0)).run Try.prog W = .ok (arrV .u8 m.od) W := fun W => by
      have := index_dg (m.od ++ (m.nd ++ m.rt)) 0 (by omega) h96 W
      rw [show ((m.od ++ (m.nd ++ m.rt)).drop (0 * 32)).take 32 = m.od by rw [Nat.zero_mul, List.drop_zero, List.take_append_of_le_length (by rw [ho.odl]; exact Nat.le_refl _), List.take_of_length_le (by rw [ho.odl]; exact Nat.le_refl _)]] at this
      exact this
    have I1 : ∀ W, (Instr.index 51 (.agg ((m.od ++ (m.nd ++ m.rt)).map (Value.int .u8)).toArray) (.int .i64 1)).run Try.prog W = .ok (arrV .u8 m.nd) W := fun W => by
      have := index_dg (m.od ++ (m.nd ++ m.rt)) 1 (by omega) h96 W
      rw [show ((m.od ++ (m.nd ++ m.rt)).drop (1 * 32)).take 32 = m.nd by
        rw [Nat.one_mul, List.drop_append_of_le_length (by rw [ho.odl]; exact Nat.le_refl _), List.drop_of_length_le (by rw [ho.odl]; exact Nat.le_refl _), List.nil_append, List.take_append_of_le_length (by rw [ho.ndl]; exact Nat.le_refl _), List.take_of_length_le (by rw [ho.ndl]; exact Nat.le_refl _)]] at this
      exact this
    have I2 : ∀ W, (Instr.index 51 (.agg ((m.od ++ (m.nd ++ m.rt)).map (Value.int .u8)).toArray) (.int .i64 2)).run Try.prog W = .ok (arrV .u8 m.rt) W := fun W => by
      have := index_dg (m.od ++ (m.nd ++ m.rt)) 2 (by omega) h96 W
      rw [show ((m.od ++ (m.nd ++ m.rt)).drop (2 * 32)).take 32 = m.rt by
        rw [show 2 * 32 = m.od.length + 32 by rw [ho.odl], List.drop_append, List.drop_of_length_le (by omega), List.nil_append, show m.od.length + 32 - m.od.length = 32 by omega, List.drop_append_of_le_length (by rw [ho.ndl]; exact Nat.le_refl _), List.drop_of_length_le (by rw [ho.ndl]; exact Nat.le_refl _), List.nil_append, List.take_of_length_le (by rw [ho.rtl]; exact Nat.le_refl _)]] at this
      exact this
    generalize ((m.od ++ (m.nd ++ m.rt)).map (Value.int .u8)).toArray = ag at *
    have J0 : ∀ W, (Instr.index 50 (.agg #[.int .i64 m.bk, .int .i64 m.ol, .int .i64 m.nl]) (.int .i64 0)).run Try.prog W = .ok (.int .i64 m.bk) W := fun W => by kernel_rfl
    have J1 : ∀ W, (Instr.index 50 (.agg #[.int .i64 m.bk, .int .i64 m.ol, .int .i64 m.nl]) (.int .i64 1)).run Try.prog W = .ok (.int .i64 m.ol) W := fun W => by kernel_rfl
    have J2 : ∀ W, (Instr.index 50 (.agg #[.int .i64 m.bk, .int .i64 m.ol, .int .i64 m.nl]) (.int .i64 2)).run Try.prog W = .ok (.int .i64 m.nl) W := fun W => by kernel_rfl
    have K0 := Lib.hid I0
    have K1 := Lib.hid I1
    have K2 := Lib.hid I2
    clear I0 I1 I2 h96
    go_wp2_with fail
    clear f0 f1 f2 f3 f4 hW g1 R1 M1 B1
    go_loopw [4, 27] (fun v i wr => ∃ j : Nat, j ≤ 3 ∧ i = .int .i64 j ∧ Own wr w.heap.size 5 .u8 v (m.pj j) ∧ ManAt wr w.heap.size m ∧ Below w.heap.size w wr) (fun _ i _ => 3 - (intOf i).toNat)
    case atStart => exact ⟨0, by omega, rfl, own4, M4, B4⟩
    case round =>
      clear own4 M4 B4
      obtain ⟨j, hj, rfl, own, M, B⟩ := hrel
      obtain ⟨A, c, rfl, hcl, hcm, hrd⟩ := own.opened
      by_cases h3 : j = 3
      · subst h3
        clear J0 J1 J2
        have own' : Own wr w.heap.size 5 .u8 (.slice A m.p3.length c) m.p3 := own
        change Holds wr wr.heap.size .u8 A m.p3 at hrd
        simp only [show m.pj 3 = m.p3 from rfl, show ((3 : Nat) : Int) = 3 from rfl]
        have O1 := M.old ho
        have O2 := M.new ho
        have O3 := M.root ho
        go_wp2_with (first
          | (have _t := O1; refine wpList_load_midG (by rfl) _ _ rfl _ 5 rfl m.od O1 Try.underlying24 rfl (by rw [HOD.out]; kernel_rfl) ?_)
          | (have _t := O2; refine wpList_load_midG (by rfl) _ _ rfl _ 37 rfl m.nd O2 Try.underlying24 rfl (by rw [HND.out]; kernel_rfl) ?_)
          | (have _t := O3; refine wpList_load_midG (by rfl) _ _ rfl _ 69 rfl m.rt O3 Try.underlying24 rfl (by rw [HRT.out]; kernel_rfl) ?_)
          | (refine wpList_build_known rfl _ _ rfl (.agg ag) ?_ ?_; (intro W; simp only [List.map_toArray, List.map_cons, List.map_nil]; exact HB3.out W)))
        clear O1 O2 O3
        go_loopw [4, 42] (fun v i wr => ∃ j : Nat, j ≤ 3 ∧ i = .int .i64 j ∧ Own wr w.heap.size 5 .u8 v (m.qj j) ∧ ManAt wr w.heap.size m ∧ Below w.heap.size w wr) (fun _ i _ => 3 - (intOf i).toNat)
        case atStart => exact ⟨0, by omega, rfl, own', M, B⟩
        case round =>
          clear own own' M B hrd hcl hcm
          obtain ⟨j, hj, rfl, own, M, B⟩ := hrel
          obtain ⟨A, c, rfl, hcl, hcm, hrd⟩ := own.opened
          by_cases h3 : j = 3
          · subst h3
            have own' : Own wr w.heap.size 5 .u8 (.slice A m.p6.length c) m.p6 := own
            simp only [show m.qj 3 = m.p6 from rfl, show ((3 : Nat) : Int) = 3 from rfl]
            have f5 := M.order ho
            go_wp2_with fail
            go_loopw [4, 52] (fun v i wz => ∃ k : Nat, k ≤ m.ord.length ∧ i = .int .i64 k ∧ Own wz w.heap.size 5 .u8 v (m.p6 ++ ordL (m.ord.take k)) ∧ Below w.heap.size w wz) (fun _ i _ => m.ord.length - (intOf i).toNat)
            case atStart => exact ⟨0, Nat.zero_le _, rfl, by simpa [ordL] using own', B⟩
            case round =>
              clear own own' B M hrd hcl hcm f5
              obtain ⟨k, hk, rfl, own, B⟩ := hrel
              have hlen : (m.p6 ++ ordL (m.ord.take k)).length ≤ 20000 := by rw [List.length_append, ordL_length, L6.out, List.length_take]; omega
              by_cases hlt : k < m.ord.length
              · obtain ⟨b, off, hA, hbB, hc⟩ := (hr.below B) (by omega)
                have hcj := hc k hlt
                have hxb := m.ord_bd hmay (m.ord.getD k 0) (by rw [List.getD, List.getElem?_eq_getElem hlt]; exact List.getElem_mem hlt)
                have HN : Hid (m.p6 ++ ordL (m.ord.take (k + 1)) = (m.p6 ++ ordL (m.ord.take k)) ++ [m.ord.getD k 0 / 256, m.ord.getD k 0 % 256]) := Lib.hid (by rw [take_next m.ord k hlt, ordL_snoc, List.append_assoc])
                generalize m.ord.getD k 0 = x at *
                generalize m.p6 ++ ordL (m.ord.take k) = zs at *
                rw [hA]
                clear hA hc
                have d1 : decide ((k : Int) < (m.ord.length : Int)) = true := decide_eq_true (by omega)
                have d2 : decide (k < m.ord.length) = true := decide_eq_true hlt
                obtain ⟨A, c, rfl, hcl, hcm, hrd⟩ := own.opened
                have hA3 := (Arr.new wr 5 .u8 [x / 256, x % 256]).holds_all
                have B3 := B.alloc B.size (.cells (([x / 256, x % 256] : List Int).map (Value.int .u8)).toArray 5)
                have own3 := own.alloc (.cells (([x / 256, x % 256] : List Int).map (Value.int .u8)).toArray 5)
                simp only [List.map_cons, List.map_nil] at hA3 B3 own3
                go_wp2_with (at_builtin; refine wpList_append_ints (ys := [x / 256, x % 256]) _ rfl (.tmp 56) (.tmp 62) 29 rfl elem8 own3 rfl rfl hA3 (by simp; omega) B3.size ?_; intro v7 w7 own7 g7 hb7 _)
                go_roundw
                case rel => exact ⟨k + 1, hlt, by go_num, by rw [HN.out]; exact own7, B3.trans hb7⟩
                case measure => simp [intOf] <;> omega
              · obtain rfl : k = m.ord.length := by omega
                have d1 : decide ((m.ord.length : Int) < (m.ord.length : Int)) = false := decide_eq_false (by omega)
                have d2 : decide (m.ord.length < m.ord.length) = false := decide_eq_false (by omega)
                rw [List.take_length] at own
                go_wp2_with fail
                go_ret2
                exact Gives2.of_own rfl own B
          obtain rfl | rfl | rfl : j = 0 ∨ j = 1 ∨ j = 2 := by omega
          · have own' : Own wr w.heap.size 5 .u8 (.slice A m.p3.length c) m.p3 := own
            change Holds wr wr.heap.size .u8 A m.p3 at hrd
            have K := K0.out
            simp only [show m.qj 0 = m.p3 from rfl, show ((0 : Nat) : Int) = 0 from rfl]
            have z1 := Arr.new wr 24 .u8 (List.replicate 32 0)
            have hbs := own'.lt
            go_wp2_with (first
              | (have _t := z1; refine wpList_store_arr rfl _ _ _ rfl (ys := m.od) z1 rfl rfl (by rw [HOD.out]; rfl) (by rw [HOD.out]; kernel_rfl) ?_; clear _t; intro w6 x6 g6; have B6 : Below w.heap.size w w6 := put_b6 B g6; have M6 : ManAt w6 w.heap.size m := put_m6 M g6; have own6 : Own w6 w.heap.size 5 .u8 (.slice A m.p3.length c) m.p3 := put_o6 own' g6; have h6 := x6.holds_all; clear z1 g6)
              | (have _t := own6; refine wpList_append_ints _ rfl (.tmp 45) (.tmp 46) 29 rfl elem8 own6 rfl (by rw [HOD.out]; rfl) h6 (by rw [L3.out, HOD.out]; omega) B6.size ?_; clear _t; intro v7 w7 own7 g7 hb7 _; have M7 : ManAt w7 w.heap.size m := put_m7 M6 own6 g7; have B7 := B6.trans hb7; clear own6 M6 B6 h6 g7 hb7))
            go_roundw
            case rel => exact ⟨1, by omega, rfl, own7, M7, B7⟩
            case measure => simp [intOf]
          · have own' : Own wr w.heap.size 5 .u8 (.slice A m.p4.length c) m.p4 := own
            change Holds wr wr.heap.size .u8 A m.p4 at hrd
            have K := K1.out
            simp only [show m.qj 1 = m.p4 from rfl, show ((1 : Nat) : Int) = 1 from rfl]
            have z1 := Arr.new wr 24 .u8 (List.replicate 32 0)
            have hbs := own'.lt
            go_wp2_with (first
              | (have _t := z1; refine wpList_store_arr rfl _ _ _ rfl (ys := m.nd) z1 rfl rfl (by rw [HND.out]; rfl) (by rw [HND.out]; kernel_rfl) ?_; clear _t; intro w6 x6 g6; have B6 : Below w.heap.size w w6 := put_b6 B g6; have M6 : ManAt w6 w.heap.size m := put_m6 M g6; have own6 : Own w6 w.heap.size 5 .u8 (.slice A m.p4.length c) m.p4 := put_o6 own' g6; have h6 := x6.holds_all; clear z1 g6)
              | (have _t := own6; refine wpList_append_ints _ rfl (.tmp 45) (.tmp 46) 29 rfl elem8 own6 rfl (by rw [HND.out]; rfl) h6 (by rw [L4.out, HND.out]; omega) B6.size ?_; clear _t; intro v7 w7 own7 g7 hb7 _; have M7 : ManAt w7 w.heap.size m := put_m7 M6 own6 g7; have B7 := B6.trans hb7; clear own6 M6 B6 h6 g7 hb7))
            go_roundw
            case rel => exact ⟨2, by omega, rfl, own7, M7, B7⟩
            case measure => simp [intOf]
          · have own' : Own wr w.heap.size 5 .u8 (.slice A m.p5.length c) m.p5 := own
            change Holds wr wr.heap.size .u8 A m.p5 at hrd
            have K := K2.out
            simp only [show m.qj 2 = m.p5 from rfl, show ((2 : Nat) : Int) = 2 from rfl]
            have z1 := Arr.new wr 24 .u8 (List.replicate 32 0)
            have hbs := own'.lt
            go_wp2_with (first
              | (have _t := z1; refine wpList_store_arr rfl _ _ _ rfl (ys := m.rt) z1 rfl rfl (by rw [HRT.out]; rfl) (by rw [HRT.out]; kernel_rfl) ?_; clear _t; intro w6 x6 g6; have B6 : Below w.heap.size w w6 := put_b6 B g6; have M6 : ManAt w6 w.heap.size m := put_m6 M g6; have own6 : Own w6 w.heap.size 5 .u8 (.slice A m.p5.length c) m.p5 := put_o6 own' g6; have h6 := x6.holds_all; clear z1 g6)
              | (have _t := own6; refine wpList_append_ints _ rfl (.tmp 45) (.tmp 46) 29 rfl elem8 own6 rfl (by rw [HRT.out]; rfl) h6 (by rw [L5.out, HRT.out]; omega) B6.size ?_; clear _t; intro v7 w7 own7 g7 hb7 _; have M7 : ManAt w7 w.heap.size m := put_m7 M6 own6 g7; have B7 := B6.trans hb7; clear own6 M6 B6 h6 g7 hb7))
            go_roundw
            case rel => exact ⟨3, by omega, rfl, own7, M7, B7⟩
            case measure => simp [intOf]
      · obtain rfl | rfl | rfl : j = 0 ∨ j = 1 ∨ j = 2 := by omega
        · have own' : Own wr w.heap.size 5 .u8 (.slice A m.p0.length c) m.p0 := own
          have P := GP.out A m.p0 c 0 4 m.bk wr (by rw [L0.out]; omega) hrd (by omega)
          rw [← HS1.out] at P
          change Holds wr wr.heap.size .u8 A m.p0 at hrd
          simp only [show m.pj 0 = m.p0 from rfl, show ((0 : Nat) : Int) = 0 from rfl]
          go_wp2_with fail
          refine P.mono ?_
          rintro e w5 ⟨v, rfl, own5, hb⟩
          go_wp2_with fail
          go_roundw
          case rel => exact ⟨1, by omega, rfl, own5.mono B.size, M.below hb M.lt, B.trans (hb.mono B.size)⟩
          case measure => simp [intOf]
        · have own' : Own wr w.heap.size 5 .u8 (.slice A m.p1.length c) m.p1 := own
          have P := GP.out A m.p1 c 0 4 m.ol wr (by rw [L1.out]; omega) hrd (by omega)
          rw [← HS2.out] at P
          change Holds wr wr.heap.size .u8 A m.p1 at hrd
          simp only [show m.pj 1 = m.p1 from rfl, show ((1 : Nat) : Int) = 1 from rfl]
          go_wp2_with fail
          refine P.mono ?_
          rintro e w5 ⟨v, rfl, own5, hb⟩
          go_wp2_with fail
          go_roundw
          case rel => exact ⟨2, by omega, rfl, own5.mono B.size, M.below hb M.lt, B.trans (hb.mono B.size)⟩
          case measure => simp [intOf]
        · have own' : Own wr w.heap.size 5 .u8 (.slice A m.p2.length c) m.p2 := own
          have P := GP.out A m.p2 c 0 4 m.nl wr (by rw [L2.out]; omega) hrd (by omega)
          rw [← HS3.out] at P
          change Holds wr wr.heap.size .u8 A m.p2 at hrd
          simp only [show m.pj 2 = m.p2 from rfl, show ((2 : Nat) : Int) = 2 from rfl]
          go_wp2_with fail
          refine P.mono ?_
          rintro e w5 ⟨v, rfl, own5, hb⟩
          go_wp2_with fail
          go_roundw
          case rel => exact ⟨3, by omega, rfl, own5.mono B.size, M.below hb M.lt, B.trans (hb.mono B.size)⟩
          case measure => simp [intOf]
  · have e1 : m.putV = [] := if_neg hmay
    have e2 : m.putE = 3 := if_neg hmay
    rw [e1, e2]
    clear e1 e2
    have hdm : decide m.May = false := decide_eq_false hmay
    rw [hdm] at GM
    clear hdm hmay
    obtain ⟨L, hL⟩ : ∃ L, m.cells = L := ⟨_, rfl⟩
    rw [hL] at B1 M1 R1 HL GM ⊢
    clear hL M1
    generalize hW : w.alloc (.cells L.toArray 27) = w1 at *
    go_enter Try.func9, Try.ntmps9
    go_wp2_with (first
      | (have _t := R1; rw [hW]; refine wpList_load_midV (by rfl) _ _ rfl _ 0 rfl L R1 Try.underlying27 rfl (by rw [HL.out]; kernel_rfl) ?_)
      | (have _t := R1; refine wpList_load_midV (by rfl) _ _ rfl _ 0 rfl L R1 Try.underlying27 rfl (by rw [HL.out]; kernel_rfl) ?_)
      | (go_at_call 11; (with_reducible refine (GM.out _ B1).mono ?_); rintro e w2 ⟨rfl, hb⟩))
    go_ret2
    exact Gives2.none rfl (B1.trans (hb.mono B1.size))
end Go.Proofs.Ytpdofegmobbipaa.Mn
