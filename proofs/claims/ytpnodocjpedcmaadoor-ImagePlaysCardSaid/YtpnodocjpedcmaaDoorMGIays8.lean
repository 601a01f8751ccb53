/-
  Layer 25, image: what a nil image answers; Cap; the law's example: contracts. Conditions: as each theorem names.
  Layer 1, sha: the sum of what was taken: contract. Conditions: as each theorem names.
  Layer 1, sha: the document's: roots, what is padded: contracts. Conditions: as each theorem names.
  Layer 25, image: how the law's step comes in. Conditions: as each theorem names.
  Layer 25, image: the law's steps: how they come in; the law's great: contract. Conditions: as each theorem names.
-/
import Derived.Test.YtpnodocjpedcmaaDoorMImA
import Derived.Test.YtpnodocjpedcmaaDoorMGIays0
import Derived.Test.YtpnodocjpedcmaaDoorMGIays6
import Derived.Test.YtpnodocjpedcmaaDoorMShW
import Derived.Test.YtpnodocjpedcmaaDoorMGIays1
import Derived.OpenShut
namespace Go.Proofs.YtpnodocjpedcmaaDoor.Im
open Go.ChangeShapes Go.WideShapes Go.ChangeAt Go.RowKit Go.Proofs.YtpnodocjpedcmaaDoor.Kit Go.Proofs.YtpnodocjpedcmaaDoor.Sec Go.Proofs.YtpnodocjpedcmaaDoor.Pt

theorem view_nil (k n : Int) (w : World) : Calls Tryd.prog 36 #[.pointer none, .int .u8 k, .int .i64 n] w fun e w' => e = .returned (.pointer none) ∧ w' = w := by
  go_enter Tryd.func36, Tryd.ntmps36
  go_wp2_with fail
  go_ret
  exact ⟨rfl, rfl⟩
theorem range_nil (k n : Int) (w : World) : Calls Tryd.prog 37 #[.pointer none, .int .i64 k, .int .i64 n] w fun e w' => e = .returned (.tuple #[.slice none 0 0, .int .i64 5]) ∧ w' = w := by
  go_enter Tryd.func37, Tryd.ntmps37
  go_wp2_with fail
  go_ret2
  exact ⟨rfl, rfl⟩
theorem kept_nil (n : Int) (w : World) : Calls Tryd.prog 38 #[.pointer none, .int .i64 n] w fun e w' => e = .returned (.tuple #[.slice none 0 0, .int .i64 1]) ∧ w' = w := by
  go_enter Tryd.func38, Tryd.ntmps38
  go_wp2_with fail
  go_ret2
  exact ⟨rfl, rfl⟩
theorem put_nil (k n : Int) (v : Value) (w : World) : Calls Tryd.prog 34 #[.pointer none, .int .u8 k, .int .i64 n, v] w fun e w' => e = .returned (.int .i64 1) ∧ w' = w := by
  go_enter Tryd.func34, Tryd.ntmps34
  go_wp2_with fail
  go_ret
  exact ⟨rfl, rfl⟩
theorem keep_nil (v : Value) (w : World) : Calls Tryd.prog 35 #[.pointer none, v] w fun e w' => e = .returned (.int .i64 1) ∧ w' = w := by
  go_enter Tryd.func35, Tryd.ntmps35
  go_wp2_with fail
  go_ret
  exact ⟨rfl, rfl⟩
theorem cap_nil (w : World) : Calls Tryd.prog 29 #[.pointer none] w fun e w' => e = .returned (.int .i64 0) ∧ w' = w := by
  go_enter Tryd.func29, Tryd.ntmps29
  go_wp2_with fail
  go_ret
  exact ⟨rfl, rfl⟩
def zeros32 : List Int := List.replicate 32 0
def zero32 : Value := arrV .u8 zeros32
theorem build_zeros (w : World) : (Instr.build 48 #[]).run Tryd.prog w = .ok (arrV .u8 zeros32) w := by kernel_rfl
theorem wpList_build_zeros {P : Program} {w : World} {ops : Array Oper} {rest : List Oper} {o : Oper} {a : Act} {Q : Exit → Act → World → Prop} (hgd : o.guard = none) (ty : TypeId) (parts : Array (Nat × Operand)) (ho : o.op = .build ty parts)
    (V : Value) (hrun : ∀ W, (Instr.build ty (parts.map fun (i, x) => (i, a.eval x))).run P W = .ok V W) (h : wpList P ops Q rest (a.put o.dst V) w) : wpList P ops Q (o :: rest) a w := by
  refine wpList_plain hgd fun K hK => ?_
  unfold Oper.wp
  simp only [execOp, ho, Sem.run_bind, Sem.run_pure]
  rw [hrun]
  exact hK _ _ h
set_option maxRecDepth 100000 in
set_option maxHeartbeats 3200000 in
theorem sum_nil (k n : Int) (w : World) : Calls Tryd.prog 33 #[.pointer none, .int .u8 k, .int .i64 n] w fun e w' => e = .returned (.tuple #[zero32, .int .i64 1]) ∧ Below w.heap.size w w' := by
  have Hz := Lib.hid (show zeros32.length = 32 from rfl)
  have hBz := build_zeros
  have r0 := res_new w 48
  have b0 : Below w.heap.size w (w.alloc (.cells ((List.replicate 32 (0 : Int)).map (Value.int .u8)).toArray 48)) := (Below.refl _ _).alloc (Nat.le_refl _) _
  unfold zero32
  generalize zeros32 = ys at *
  go_enter Tryd.func33, Tryd.ntmps33
  go_wp2_with (first
    | (have _t := r0; refine wpList_build_zeros rfl _ _ rfl (arrV .u8 ys) (fun W => by simpa using hBz W) ?_)
    | (have _t := r0; refine wpList_store_arr rfl _ _ _ rfl (ys := ys) r0 rfl rfl (by rw [Hz.out]; rfl) (by rw [Hz.out]; kernel_rfl) ?_; intro w9 r9 g9))
  refine bodyPost_ret (v := .tuple #[arrV .u8 ys, .int .i64 1]) (results_row_tmp rfl _ _ w.heap.size 48 _ (0, 0) _ rfl r9 _ rfl Tryd.underlying48 rfl (by rw [show (ys.map (Value.int .u8)).toArray.size = 32 by simp [Hz.out]]; kernel_rfl)) rfl ⟨rfl, ?_⟩
  exact b0.trans (below_of_grown g9 b0.size fun b hb => by injection hb with hb; omega)

set_option maxRecDepth 100000 in
set_option maxHeartbeats 3200000 in
theorem cap_any (x a : Nat) (S B sl : Int) (p0 p1 p2 : Nat) (w : World) (h : ImAt w x a S B sl p0 p1 p2) (h0 : 0 ≤ B * sl ∧ B * sl ≤ 16777216) : Calls Tryd.prog 29 #[.pointer (some ⟨x, 0, none⟩)] w fun e w' => e = .returned (.int .i64 (B * sl)) ∧ ∃ n, w' = w.drewN n := by
  have c1 : w.cell? ⟨x, 1, none⟩ = some (.int .i64 B) := h.x.cell 1
  have c2 : w.cell? ⟨x, 2, none⟩ = some (.int .i64 sl) := h.x.cell 2
  have hw : IntKind.i64.wrap (B * sl) = B * sl := IntWalk.i64_in _ (by omega)
  clear h h0
  go_enter Tryd.func29, Tryd.ntmps29
  go_wp2_with fail
  go_quiet (fail)
  go_wp2_with fail
  go_ret
  exact ⟨rfl, nq, rfl⟩

set_option maxRecDepth 100000 in
set_option maxHeartbeats 6400000 in
theorem awake_any (w : World) : Calls Tryd.prog 26 #[] w fun e w' => e = .returned (.bool true) ∧ Below w.heap.size w w' := by
  have GN := Lib.hid (new_any (fun _ => True) 128 9 w (by decide) (by decide) (by decide) (by decide))
  have HO1 : Hid (opensB (Dv.new 128 9) 128 128 3 = true) := Lib.hid (by decide +kernel)
  have HO2 : Hid (opensB (Dv.new 128 9) 128 128 4 = false) := Lib.hid (by decide +kernel)
  have GI := Lib.hid (fun (a mk mw : Nat) (S B sl : Int) (W : World) (h : DvAt W (fun _ => True) a mk mw (Dv.new 128 9)) => iopen_any (fun _ => True) a mk mw (Dv.new 128 9) S B sl W h)
  go_enter Tryd.func26, Tryd.ntmps26
  go_wp2_with (first
    | (go_at_call 10; refine GN.out.mono ?_; rintro e w1 ⟨a, mk, mw, rfl, D1, hb1, ga, gk, gw⟩)
    | (have _t := D1; go_at_call 28; refine (GI.out a mk mw 128 128 3 _ D1).mono ?_; clear _t; rintro e w2 ⟨hb2, h2⟩; rw [if_pos HO1.out] at h2; obtain ⟨x, p0, p1, p2, hx, hp0, hp1, hp2, rfl, X⟩ := h2; have D2 := D1.below hb2; clear D1)
    | (have _t := D2; go_at_call 28; refine (GI.out a mk mw 128 128 4 _ D2).mono ?_; clear _t; rintro e w3 ⟨hb3, h3⟩; rw [if_neg (by rw [HO2.out]; simp)] at h3; subst h3; have X3 : ImAt w3 x a 128 128 3 p0 p1 p2 := ⟨X.x.below hb3 X.x.lt, Block.below X.p0 hb3 (Block.lt X.p0), Block.below X.p1 hb3 (Block.lt X.p1), Block.below X.p2 hb3 (Block.lt X.p2)⟩)
    | (go_at_call 29; refine (cap_any x a 128 128 3 p0 p1 p2 _ X3 (by decide)).mono ?_; rintro e w4 ⟨rfl, n4, rfl⟩))
  go_ret
  have hb := hb1.trans ((hb2.trans (hb3.mono hb2.size)).mono hb1.size)
  exact ⟨rfl, below_draws hb n4⟩
end Go.Proofs.YtpnodocjpedcmaaDoor.Im

namespace Go.Proofs.YtpnodocjpedcmaaDoor.Sha
open Go.ChangeShapes Go.WideShapes Go.ChangeAt Go.RowKit Go.Proofs.YtpnodocjpedcmaaDoor.Kit

/-- A list, with zeros up to m. -/
def padN (m : Nat) (l : List Int) : List Int := l ++ List.replicate (m - l.length) 0
theorem padN_length {m : Nat} {l : List Int} (h : l.length ≤ m) : (padN m l).length = m := by unfold padN; simp; omega
theorem padN_full {m : Nat} {l : List Int} (h : l.length = m) : padN m l = l := by unfold padN; rw [h]; simp
theorem padN_set {m n : Nat} {l : List Int} {x : Int} (hn : n = l.length) (h : l.length < m) : (padN m l).set n x = padN m (l ++ [x]) := by
  subst hn
  unfold padN
  obtain ⟨k, hk⟩ : ∃ k, m - l.length = k + 1 := ⟨m - 1 - l.length, by omega⟩
  rw [hk, List.replicate_succ, List.set_append, if_neg (by omega), Nat.sub_self, List.set_cons_zero, List.length_append, List.length_singleton, show m - (l.length + 1) = k by omega, List.append_assoc]
  rfl
theorem take_snoc {l : List Int} {i : Nat} (h : i < l.length) : l.take (i + 1) = l.take i ++ [l.getD i 0] := by
  rw [List.take_add_one, List.getD_eq_getElem?_getD, List.getElem?_eq_getElem h]
  rfl

theorem hb_alloc {w : World} {g : Nat} {st rest : List Int} {n : Int} (h : HB w g st rest n) (o : Obj) : HB (w.alloc o) g st rest n := Block.alloc h o

theorem hb_grown {w w' : World} {g k : Nat} {st rest : List Int} {n : Int} (h : HB w g st rest n) (hg : w.grownBy w' (some k)) (hne : k ≠ g) : HB w' g st rest n := Block.grown h hg (by intro e; injection e with e; exact hne e)
theorem zero_block1 (w : World) (o : Obj) : HB ((w.alloc o).alloc (.cells #[.int .u32 0, .int .u32 0, .int .u32 0, .int .u32 0, .int .u32 0, .int .u32 0, .int .u32 0, .int .u32 0, .int .u8 0, .int .u8 0, .int .u8 0, .int .u8 0, .int .u8 0, .int .u8 0, .int .u8 0, .int .u8 0, .int .u8 0, .int .u8 0, .int .u8 0, .int .u8 0, .int .u8 0, .int .u8 0, .int .u8 0, .int .u8 0, .int .u8 0, .int .u8 0, .int .u8 0, .int .u8 0, .int .u8 0, .int .u8 0, .int .u8 0, .int .u8 0, .int .u8 0, .int .u8 0, .int .u8 0, .int .u8 0, .int .u8 0, .int .u8 0, .int .u8 0, .int .u8 0, .int .u8 0, .int .u8 0, .int .u8 0, .int .u8 0, .int .u8 0, .int .u8 0, .int .u8 0, .int .u8 0, .int .u8 0, .int .u8 0, .int .u8 0, .int .u8 0, .int .u8 0, .int .u8 0, .int .u8 0, .int .u8 0, .int .u8 0, .int .u8 0, .int .u8 0, .int .u8 0, .int .u8 0, .int .u8 0, .int .u8 0, .int .u8 0, .int .u8 0, .int .u8 0, .int .u8 0, .int .u8 0, .int .u8 0, .int .u8 0, .int .u8 0, .int .u8 0, .int .u64 0] 154)) (w.heap.size + 1) (List.replicate 8 0) (List.replicate 64 0) 0 := by
  have h := zero_block (w.alloc o)
  rwa [show (w.alloc o).heap.size = w.heap.size + 1 by simp] at h

theorem below_two {w w2 : World} {o1 o2 : Obj} (g2 : ((w.alloc o1).alloc o2).grownBy w2 (some (w.heap.size + 1))) : Below w.heap.size w w2 :=
  (((Below.refl _ w).alloc (Nat.le_refl _) o1).alloc (by simp) o2).trans (below_of_grown g2 (by simp; omega) (fun b hb => by injection hb with hb; omega))
theorem below_one {B : Nat} {w w2 : World} (h : Below B w w2) (o : Obj) (hB : B ≤ w2.heap.size) : Below B w (w2.alloc o) := h.alloc hB o

theorem hb_far {w : World} {g : Nat} {st rest : List Int} {n : Int} (h : HB w g st rest n) {p : Addr} (hp : g ≠ p.block) (u : Value) : HB (w.setCell p u) g st rest n := Block.far h hp u
theorem lenB_get {n i : Nat} (h : i < 8) : (lenB n).getD i 0 = (n : Int) * 8 / 2 ^ (56 - 8 * i) % 256 := by
  unfold lenB
  rw [List.getD_eq_getElem?_getD, List.getElem?_map, List.getElem?_range h]
  simp only [Option.map_some, Option.getD_some]
  rw [Int.natCast_emod, Int.natCast_ediv, Int.natCast_mul, Int.natCast_pow, Int.mul_comm]
  rfl
theorem padN_take {m : Nat} {l : List Int} : ((padN m l).drop 0).take l.length = l := by unfold padN; simp
theorem digL_get (s : List Int) {i : Nat} (h : i < 32) : (digL s).getD i 0 = s.getD (i / 4) 0 / 2 ^ (24 - 8 * (i % 4)) % 256 := by
  unfold digL
  rw [List.getD_eq_getElem?_getD, List.getElem?_map, List.getElem?_range h]
  rfl

theorem foldN_get {s : List Int} (h : St8 s) (i : Nat) : W32 (s.getD i 0) := by
  rw [List.getD_eq_getElem?_getD]
  cases e : s[i]? with
  | none => unfold W32; simp
  | some x => exact h.2 x (List.mem_of_getElem? e)

/-- The end's bytes, i of the length's. -/
def endA (n i : Nat) : List Int := 128 :: (List.replicate (tailZ n) 0 ++ (lenB n).take i)
theorem endA_length {n i : Nat} (h : i ≤ 8) : (endA n i).length = 1 + tailZ n + i := by simp [endA, lenB_length]; omega
theorem endA_full (n : Nat) : endA n 8 = endB n := by unfold endA endB; rw [List.take_of_length_le (by rw [lenB_length]; omega)]
theorem endA_next {n i : Nat} (h : i < 8) : endA n (i + 1) = endA n i ++ [(lenB n).getD i 0] := by
  unfold endA
  rw [take_snoc (by rw [lenB_length]; exact h)]
  simp
theorem endA_zero (n : Nat) : padN 72 (endA n 0) = (List.replicate 72 0).set 0 128 := by
  unfold padN endA
  have ht := tailZ_lt n
  simp only [List.take_zero, List.append_nil, List.length_cons, List.length_replicate, List.cons_append]
  rw [show List.replicate 72 (0 : Int) = 0 :: List.replicate 71 0 from rfl, List.set_cons_zero, List.replicate_append_replicate, show tailZ n + (72 - (tailZ n + 1)) = 71 by omega]

set_option maxRecDepth 100000 in
set_option maxHeartbeats 6400000 in
theorem hsum_any (g : Nat) (xs : List Int) (w : World) (h : HashIs w g xs) (hx : xs.length ≤ 1000000000) (hxo : Octets xs) (hL : LaidS w) (hg0 : g ≠ 0) :
    Calls Tryd.prog 68 #[.pointer (some ⟨g, 0, none⟩)] w fun e w' => e = .returned (arrV .u8 (sumL xs)) ∧ Below w.heap.size w w' := by
  obtain ⟨r, h1, h2, h3⟩ := h.ex
  have hst := stateL_st xs
  have kt := h1.taken hst.1 h2
  have hz := zero_hash
  have hgl := h1.lt
  have hzero : ∀ W, (zeroValue 156).run Tryd.prog W = .ok (.agg #[.int .u8 0, .int .u8 0, .int .u8 0, .int .u8 0, .int .u8 0, .int .u8 0, .int .u8 0, .int .u8 0, .int .u8 0, .int .u8 0, .int .u8 0, .int .u8 0, .int .u8 0, .int .u8 0, .int .u8 0, .int .u8 0, .int .u8 0, .int .u8 0, .int .u8 0, .int .u8 0, .int .u8 0, .int .u8 0, .int .u8 0, .int .u8 0, .int .u8 0, .int .u8 0, .int .u8 0, .int .u8 0, .int .u8 0, .int .u8 0, .int .u8 0, .int .u8 0, .int .u8 0, .int .u8 0, .int .u8 0, .int .u8 0, .int .u8 0, .int .u8 0, .int .u8 0, .int .u8 0, .int .u8 0, .int .u8 0, .int .u8 0, .int .u8 0, .int .u8 0, .int .u8 0, .int .u8 0, .int .u8 0, .int .u8 0, .int .u8 0, .int .u8 0, .int .u8 0, .int .u8 0, .int .u8 0, .int .u8 0, .int .u8 0, .int .u8 0, .int .u8 0, .int .u8 0, .int .u8 0, .int .u8 0, .int .u8 0, .int .u8 0, .int .u8 0, .int .u8 0, .int .u8 0, .int .u8 0, .int .u8 0, .int .u8 0, .int .u8 0, .int .u8 0, .int .u8 0]) W := fun _ => by kernel_rfl
  go_enter Tryd.func68, Tryd.ntmps68
  go_wp2_with (first
    | (refine wpList_load_mid rfl _ _ rfl g 0 rfl (hcells (stateL xs) r xs.length) _ (hb_alloc h1 _).range Tryd.underlying154 rfl (by rw [hcells_length _ hst.1 h2]; kernel_rfl) ?_)
    | (refine wpList_store_hash rfl _ _ _ rfl (zero_block1 w _) rfl rfl hst.1 h2 rfl rfl (by kernel_rfl) ?_; intro w2 b2 g2; have hh2 := hb_grown (hb_alloc (hb_alloc h1 _) _) g2 (by omega); have kt2 := hh2.taken hst.1 h2; have hgl2 := hh2.lt))
  have htz : (119 - (xs.length : Int)) % 64 = (tailZ xs.length : Int) := by unfold tailZ; omega
  rw [htz]
  have a3 : Arr (w2.alloc (.cells #[.int .u8 128, .int .u8 0, .int .u8 0, .int .u8 0, .int .u8 0, .int .u8 0, .int .u8 0, .int .u8 0, .int .u8 0, .int .u8 0, .int .u8 0, .int .u8 0, .int .u8 0, .int .u8 0, .int .u8 0, .int .u8 0, .int .u8 0, .int .u8 0, .int .u8 0, .int .u8 0, .int .u8 0, .int .u8 0, .int .u8 0, .int .u8 0, .int .u8 0, .int .u8 0, .int .u8 0, .int .u8 0, .int .u8 0, .int .u8 0, .int .u8 0, .int .u8 0, .int .u8 0, .int .u8 0, .int .u8 0, .int .u8 0, .int .u8 0, .int .u8 0, .int .u8 0, .int .u8 0, .int .u8 0, .int .u8 0, .int .u8 0, .int .u8 0, .int .u8 0, .int .u8 0, .int .u8 0, .int .u8 0, .int .u8 0, .int .u8 0, .int .u8 0, .int .u8 0, .int .u8 0, .int .u8 0, .int .u8 0, .int .u8 0, .int .u8 0, .int .u8 0, .int .u8 0, .int .u8 0, .int .u8 0, .int .u8 0, .int .u8 0, .int .u8 0, .int .u8 0, .int .u8 0, .int .u8 0, .int .u8 0, .int .u8 0, .int .u8 0, .int .u8 0, .int .u8 0] 156)) w2.heap.size 156 .u8 (padN 72 (endA xs.length 0)) := by
    rw [endA_zero]
    exact Block.new w2 _ _
  have r2 : Arr w2 w.heap.size 48 .u8 (List.replicate 32 0) := Block.grown (row := some (w.heap.size + 1)) (Block.alloc (Block.new w _ _) _) g2 (by intro e; injection e with e; omega)
  have r3 := r2.alloc (.cells #[.int .u8 128, .int .u8 0, .int .u8 0, .int .u8 0, .int .u8 0, .int .u8 0, .int .u8 0, .int .u8 0, .int .u8 0, .int .u8 0, .int .u8 0, .int .u8 0, .int .u8 0, .int .u8 0, .int .u8 0, .int .u8 0, .int .u8 0, .int .u8 0, .int .u8 0, .int .u8 0, .int .u8 0, .int .u8 0, .int .u8 0, .int .u8 0, .int .u8 0, .int .u8 0, .int .u8 0, .int .u8 0, .int .u8 0, .int .u8 0, .int .u8 0, .int .u8 0, .int .u8 0, .int .u8 0, .int .u8 0, .int .u8 0, .int .u8 0, .int .u8 0, .int .u8 0, .int .u8 0, .int .u8 0, .int .u8 0, .int .u8 0, .int .u8 0, .int .u8 0, .int .u8 0, .int .u8 0, .int .u8 0, .int .u8 0, .int .u8 0, .int .u8 0, .int .u8 0, .int .u8 0, .int .u8 0, .int .u8 0, .int .u8 0, .int .u8 0, .int .u8 0, .int .u8 0, .int .u8 0, .int .u8 0, .int .u8 0, .int .u8 0, .int .u8 0, .int .u8 0, .int .u8 0, .int .u8 0, .int .u8 0, .int .u8 0, .int .u8 0, .int .u8 0, .int .u8 0] 156)
  have h3' := hb_alloc hh2 (.cells #[.int .u8 128, .int .u8 0, .int .u8 0, .int .u8 0, .int .u8 0, .int .u8 0, .int .u8 0, .int .u8 0, .int .u8 0, .int .u8 0, .int .u8 0, .int .u8 0, .int .u8 0, .int .u8 0, .int .u8 0, .int .u8 0, .int .u8 0, .int .u8 0, .int .u8 0, .int .u8 0, .int .u8 0, .int .u8 0, .int .u8 0, .int .u8 0, .int .u8 0, .int .u8 0, .int .u8 0, .int .u8 0, .int .u8 0, .int .u8 0, .int .u8 0, .int .u8 0, .int .u8 0, .int .u8 0, .int .u8 0, .int .u8 0, .int .u8 0, .int .u8 0, .int .u8 0, .int .u8 0, .int .u8 0, .int .u8 0, .int .u8 0, .int .u8 0, .int .u8 0, .int .u8 0, .int .u8 0, .int .u8 0, .int .u8 0, .int .u8 0, .int .u8 0, .int .u8 0, .int .u8 0, .int .u8 0, .int .u8 0, .int .u8 0, .int .u8 0, .int .u8 0, .int .u8 0, .int .u8 0, .int .u8 0, .int .u8 0, .int .u8 0, .int .u8 0, .int .u8 0, .int .u8 0, .int .u8 0, .int .u8 0, .int .u8 0, .int .u8 0, .int .u8 0, .int .u8 0] 156)
  have b3 := hb_alloc b2 (.cells #[.int .u8 128, .int .u8 0, .int .u8 0, .int .u8 0, .int .u8 0, .int .u8 0, .int .u8 0, .int .u8 0, .int .u8 0, .int .u8 0, .int .u8 0, .int .u8 0, .int .u8 0, .int .u8 0, .int .u8 0, .int .u8 0, .int .u8 0, .int .u8 0, .int .u8 0, .int .u8 0, .int .u8 0, .int .u8 0, .int .u8 0, .int .u8 0, .int .u8 0, .int .u8 0, .int .u8 0, .int .u8 0, .int .u8 0, .int .u8 0, .int .u8 0, .int .u8 0, .int .u8 0, .int .u8 0, .int .u8 0, .int .u8 0, .int .u8 0, .int .u8 0, .int .u8 0, .int .u8 0, .int .u8 0, .int .u8 0, .int .u8 0, .int .u8 0, .int .u8 0, .int .u8 0, .int .u8 0, .int .u8 0, .int .u8 0, .int .u8 0, .int .u8 0, .int .u8 0, .int .u8 0, .int .u8 0, .int .u8 0, .int .u8 0, .int .u8 0, .int .u8 0, .int .u8 0, .int .u8 0, .int .u8 0, .int .u8 0, .int .u8 0, .int .u8 0, .int .u8 0, .int .u8 0, .int .u8 0, .int .u8 0, .int .u8 0, .int .u8 0, .int .u8 0, .int .u8 0] 156)
  have hw2 : Below w.heap.size w w2 := below_two g2
  have hw3 := below_one hw2 (.cells #[.int .u8 128, .int .u8 0, .int .u8 0, .int .u8 0, .int .u8 0, .int .u8 0, .int .u8 0, .int .u8 0, .int .u8 0, .int .u8 0, .int .u8 0, .int .u8 0, .int .u8 0, .int .u8 0, .int .u8 0, .int .u8 0, .int .u8 0, .int .u8 0, .int .u8 0, .int .u8 0, .int .u8 0, .int .u8 0, .int .u8 0, .int .u8 0, .int .u8 0, .int .u8 0, .int .u8 0, .int .u8 0, .int .u8 0, .int .u8 0, .int .u8 0, .int .u8 0, .int .u8 0, .int .u8 0, .int .u8 0, .int .u8 0, .int .u8 0, .int .u8 0, .int .u8 0, .int .u8 0, .int .u8 0, .int .u8 0, .int .u8 0, .int .u8 0, .int .u8 0, .int .u8 0, .int .u8 0, .int .u8 0, .int .u8 0, .int .u8 0, .int .u8 0, .int .u8 0, .int .u8 0, .int .u8 0, .int .u8 0, .int .u8 0, .int .u8 0, .int .u8 0, .int .u8 0, .int .u8 0, .int .u8 0, .int .u8 0, .int .u8 0, .int .u8 0, .int .u8 0, .int .u8 0, .int .u8 0, .int .u8 0, .int .u8 0, .int .u8 0, .int .u8 0, .int .u8 0] 156) (by have := b2.lt; omega)
  have hE : w.heap.size + 1 < w2.heap.size := b2.lt
  have hE3 : w2.heap.size < (w2.alloc (.cells #[.int .u8 128, .int .u8 0, .int .u8 0, .int .u8 0, .int .u8 0, .int .u8 0, .int .u8 0, .int .u8 0, .int .u8 0, .int .u8 0, .int .u8 0, .int .u8 0, .int .u8 0, .int .u8 0, .int .u8 0, .int .u8 0, .int .u8 0, .int .u8 0, .int .u8 0, .int .u8 0, .int .u8 0, .int .u8 0, .int .u8 0, .int .u8 0, .int .u8 0, .int .u8 0, .int .u8 0, .int .u8 0, .int .u8 0, .int .u8 0, .int .u8 0, .int .u8 0, .int .u8 0, .int .u8 0, .int .u8 0, .int .u8 0, .int .u8 0, .int .u8 0, .int .u8 0, .int .u8 0, .int .u8 0, .int .u8 0, .int .u8 0, .int .u8 0, .int .u8 0, .int .u8 0, .int .u8 0, .int .u8 0, .int .u8 0, .int .u8 0, .int .u8 0, .int .u8 0, .int .u8 0, .int .u8 0, .int .u8 0, .int .u8 0, .int .u8 0, .int .u8 0, .int .u8 0, .int .u8 0, .int .u8 0, .int .u8 0, .int .u8 0, .int .u8 0, .int .u8 0, .int .u8 0, .int .u8 0, .int .u8 0, .int .u8 0, .int .u8 0, .int .u8 0, .int .u8 0] 156)).heap.size := by simp
  clear r2 hh2 b2 g2 kt2 hw2 hz hzero kt
  obtain ⟨w3, hw3e⟩ : ∃ w3, w3 = w2.alloc (.cells #[.int .u8 128, .int .u8 0, .int .u8 0, .int .u8 0, .int .u8 0, .int .u8 0, .int .u8 0, .int .u8 0, .int .u8 0, .int .u8 0, .int .u8 0, .int .u8 0, .int .u8 0, .int .u8 0, .int .u8 0, .int .u8 0, .int .u8 0, .int .u8 0, .int .u8 0, .int .u8 0, .int .u8 0, .int .u8 0, .int .u8 0, .int .u8 0, .int .u8 0, .int .u8 0, .int .u8 0, .int .u8 0, .int .u8 0, .int .u8 0, .int .u8 0, .int .u8 0, .int .u8 0, .int .u8 0, .int .u8 0, .int .u8 0, .int .u8 0, .int .u8 0, .int .u8 0, .int .u8 0, .int .u8 0, .int .u8 0, .int .u8 0, .int .u8 0, .int .u8 0, .int .u8 0, .int .u8 0, .int .u8 0, .int .u8 0, .int .u8 0, .int .u8 0, .int .u8 0, .int .u8 0, .int .u8 0, .int .u8 0, .int .u8 0, .int .u8 0, .int .u8 0, .int .u8 0, .int .u8 0, .int .u8 0, .int .u8 0, .int .u8 0, .int .u8 0, .int .u8 0, .int .u8 0, .int .u8 0, .int .u8 0, .int .u8 0, .int .u8 0, .int .u8 0, .int .u8 0] 156) := ⟨_, rfl⟩
  rw [← hw3e] at a3 r3 h3' b3 hw3 hE3 ⊢
  clear hw3e
  generalize w2.heap.size = E at *
  have htl := tailZ_lt xs.length
  have hel := fun i (h : i ≤ 8) => endA_length (n := xs.length) (i := i) h
  have Hel := Lib.hid hel
  clear hel htz
  go_loopw [25] (fun s wr => ∃ i : Nat, i ≤ 8 ∧ s = .int .i64 i ∧ Arr wr E 156 .u8 (padN 72 (endA xs.length i)) ∧ Arr wr w.heap.size 48 .u8 (List.replicate 32 0) ∧ HB wr g (stateL xs) r xs.length ∧ HB wr (w.heap.size + 1) (stateL xs) r xs.length ∧ Below w.heap.size w wr) (fun s _ => 8 - (intOf s).toNat)
  case atStart => exact ⟨0, by omega, rfl, a3, r3, h3', b3, hw3⟩
  case round =>
    clear a3 r3 h3' b3 hw3
    obtain ⟨i, hi, rfl, a4, r4, h4, b4, hb4⟩ := hrel
    by_cases hlt : i < 8
    · have kt := h4.taken hst.1 h2
      have hpl : (padN 72 (endA xs.length i)).length = 72 := padN_length (by rw [Hel.out _ (by omega)]; omega)
      have hc := a4.cell (i := 1 + tailZ xs.length + i) (by omega)
      have hf := a4.frozen (1 + tailZ xs.length + i)
      have hset := padN_set (m := 72) (n := 1 + tailZ xs.length + i) (l := endA xs.length i) (x := (lenB xs.length).getD i 0) (by rw [Hel.out _ (by omega)]) (by rw [Hel.out _ (by omega)]; omega)
      rw [← endA_next hlt] at hset
      have hset := Lib.hid hset
      generalize (padN 72 (endA xs.length i))[1 + tailZ xs.length + i]?.getD 0 = old at *
      generalize tailZ xs.length = tz at *
      clear hpl
      have hv := Lib.hid (lenB_get (n := xs.length) hlt)
      go_wp2_with fail
      have k9 := a4.set_ (1 + tz + i) ((lenB xs.length).getD i 0)
      rw [hset.out, hv.out] at k9
      go_roundw
      case rel => exact ⟨i + 1, by omega, by go_num, k9, r4.far (by simp; omega) _, hb_far h4 (by simp; omega) _, hb_far b4 (by simp; omega) _, hb4.setCell (by simp; omega) _⟩
      case measure => simp [intOf] <;> omega
    · obtain rfl : i = 8 := by omega
      rw [endA_full] at a4
      have hel8 := endB_length xs.length
      have hH : HashIs wr (w.heap.size + 1) xs := ⟨r, b4, h2, h3⟩
      have hLr := hL.below hb4
      have hgc : w.heap.size + 1 ≠ 0 := by have := hL.lt (by rw [cubes_length]; omega); omega
      have hHo : Holds wr wr.heap.size .u8 (some ⟨E, 0, none⟩) (endB xs.length) := by
        have := a4.holds 0 (endB xs.length).length
        rwa [padN_take] at this
      have GW := write_any (w.heap.size + 1) xs (some ⟨E, 0, none⟩) (endB xs.length) 72 wr hH (by rw [hel8]; omega) hxo (by rw [hel8]; omega) (by unfold maxLen; omega) (endB_octets _) hHo (fun _ a ha => by injection ha with ha; subst ha; simp; omega) hLr hgc
      rw [hel8] at GW
      have GW := Lib.hid GW
      have hEr : E < wr.heap.size := a4.lt
      clear hel8 hHo a4 hH b4 hLr Hel
      generalize htz2 : tailZ xs.length = tz at *
      clear htz2
      have z0 : (0 : Int) ≤ 9 + (tz : Int) := by omega
      have z1 : 9 + (tz : Int) ≤ 72 := by omega
      have z2 : (9 + (tz : Int)).toNat = 9 + tz := by omega
      go_wp2_with fail
      refine GW.out.mono ?_
      rintro e w5 ⟨rfl, hW5, t5⟩
      obtain ⟨r5, b5, l5, _⟩ := hW5.ex
      have hb5 : Below w.heap.size w w5 := hb4.trans (t5.toBelow hb4.size (fun b hb he => by omega))
      have r6 : Arr w5 w.heap.size 48 .u8 (List.replicate 32 0) := Block.out r4 t5 (by omega)
      have hd5 : w.heap.size + 1 < w5.heap.size := b5.lt
      have hst5 := stateL_st (xs ++ endB xs.length)
      obtain ⟨S5, hS5⟩ : ∃ S5, S5 = stateL (xs ++ endB xs.length) := ⟨_, rfl⟩
      rw [← hS5] at b5 hst5
      have HS5 : Hid (digL S5 = sumL xs) := Lib.hid (by rw [hS5]; rfl)
      clear hS5 hW5 t5 GW z0 z1 z2 r4 hb4 hEr
      generalize ((xs ++ endB xs.length).length : Int) = N5 at *
      go_wp2_with fail
      have a7 : Arr (w5.alloc (.cells ((List.replicate 32 (0 : Int)).map (Value.int .u8)).toArray 48)) w5.heap.size 48 .u8 (padN 32 ((digL S5).take 0)) := Block.new w5 _ _
      have r7 := r6.alloc (.cells ((List.replicate 32 (0 : Int)).map (Value.int .u8)).toArray 48)
      have b7 := hb_alloc b5 (.cells ((List.replicate 32 (0 : Int)).map (Value.int .u8)).toArray 48)
      have hw7 := below_one hb5 (.cells ((List.replicate 32 (0 : Int)).map (Value.int .u8)).toArray 48) hb5.size
      clear r6 b5 hb5
      generalize w5.heap.size = D at *
      go_loopw [48] (fun s wr => ∃ i : Nat, i ≤ 32 ∧ s = .int .i64 i ∧ Arr wr D 48 .u8 (padN 32 ((digL S5).take i)) ∧ Arr wr w.heap.size 48 .u8 (List.replicate 32 0) ∧ HB wr (w.heap.size + 1) S5 r5 N5 ∧ Below w.heap.size w wr) (fun s _ => 32 - (intOf s).toNat)
      case atStart => exact ⟨0, by omega, rfl, a7, r7, b7, hw7⟩
      case round =>
        clear a7 r7 b7 hw7
        obtain ⟨i, hi, rfl, a8, r8, b8, hw8⟩ := hrel
        have htl8 : ((digL S5).take i).length = i := by rw [List.length_take, digL_length]; omega
        by_cases hlt : i < 32
        · have kc := b8.stCell hst5.1 (i := i / 4) (by omega)
          have xb := (foldN_get hst5 (i / 4))
          have hpl : (padN 32 ((digL S5).take i)).length = 32 := padN_length (by omega)
          have hc := a8.cell (i := i) (by omega)
          have hf := a8.frozen i
          have hset := padN_set (m := 32) (n := i) (l := (digL S5).take i) (x := (digL S5).getD i 0) (by omega) (by omega)
          rw [← take_snoc (by rw [digL_length]; omega)] at hset
          have hset := Lib.hid hset
          have hv := digL_get S5 hlt
          simp only [List.getD_eq_getElem?_getD] at hv xb
          generalize (padN 32 ((digL S5).take i))[i]?.getD 0 = old at *
          generalize S5[i / 4]?.getD 0 = X at *
          have hv := Lib.hid hv
          clear hpl htl8
          go_wp2_with fail
          have k9 := a8.set_ i ((digL S5).getD i 0)
          rw [hset.out, List.getD_eq_getElem?_getD, hv.out] at k9
          go_roundw
          case rel => exact ⟨i + 1, by omega, by go_num, k9, r8.far (by simp; omega) _, hb_far b8 (by simp; omega) _, hw8.setCell (by simp; omega) _⟩
          case measure => simp [intOf] <;> omega
        · obtain rfl : i = 32 := by omega
          rw [padN_full htl8, List.take_of_length_le (by rw [digL_length]; omega), HS5.out] at a8
          have hsl := Lib.hid (sumL_length xs)
          have arr32 : Tryd.prog.underlying 48 = some (.array 32 5) := Tryd.underlying48
          clear htl8
          go_wp2_with (first
            | (refine wpList_load_arr rfl _ _ rfl a8 rfl arr32 rfl (by rw [hsl.out]; kernel_rfl) ?_)
            | (refine wpList_store_arr rfl _ _ _ rfl r8 rfl rfl (by rw [hsl.out]; rfl) (by rw [hsl.out]; kernel_rfl) ?_; intro w9 r9 g9))
          refine bodyPost_ret (v := arrV .u8 (sumL xs)) (results_cell_row rfl _ _ w.heap.size 48 _ (0, 0) _ rfl r9 arr32 rfl (by rw [show ((sumL xs).map (Value.int .u8)).toArray.size = 32 by simp [sumL_length]]; kernel_rfl)) rfl ⟨rfl, ?_⟩
          exact hw8.trans (below_of_grown g9 hw8.size fun b hb => by injection hb with hb; omega)
end Go.Proofs.YtpnodocjpedcmaaDoor.Sha

namespace Go.Proofs.YtpnodocjpedcmaaDoor.Sha
open Go.ChangeShapes Go.WideShapes Go.ChangeAt Go.RowKit Go.Proofs.YtpnodocjpedcmaaDoor.Kit

/-- A build whose value is known as a whole. -/
theorem wpList_build_known {P : Program} {w : World} {ops : Array Oper} {rest : List Oper} {o : Oper} {a : Act} {Q : Exit → Act → World → Prop} (hgd : o.guard = none) (ty : TypeId) (parts : Array (Nat × Operand)) (ho : o.op = .build ty parts)
    (V : Value) (hrun : ∀ W, (Instr.build ty (parts.map fun (i, x) => (i, a.eval x))).run P W = .ok V W) (h : wpList P ops Q rest (a.put o.dst V) w) : wpList P ops Q (o :: rest) a w := by
  refine wpList_plain hgd fun K hK => ?_
  unfold Oper.wp
  simp only [execOp, ho, Sem.run_bind, Sem.run_pure]
  rw [hrun]
  exact hK _ _ h

set_option maxRecDepth 100000 in
set_option maxHeartbeats 1600000 in
theorem roots_any (w : World) :
    Calls Tryd.prog 98 #[] w fun e w' => e = .returned (arrV .u32 cubesL) ∧ Below w.heap.size w w' := by
  have arr64t : Tryd.prog.underlying 166 = some (.array 64 150) := Tryd.underlying166
  have hz : ∀ W, (zeroValue 166).run Tryd.prog W = .ok (.agg Z64) W := fun _ => by kernel_rfl
  go_enter Tryd.func98, Tryd.ntmps98
  go_wp2_with (first
    | (refine wpList_build_known rfl _ _ rfl (arrV .u32 cubesL) (fun W => by kernel_rfl) ?_)
    | (refine wpList_store_arr rfl _ _ _ rfl (arr64 w) rfl rfl (by rfl) (by kernel_rfl) ?_; intro w2 r2 g2))
  refine bodyPost_ret (v := arrV .u32 cubesL) (results_cell_row rfl _ _ w.heap.size 166 _ (0, 0) _ rfl r2 arr64t rfl (by kernel_rfl)) rfl ⟨rfl, ?_⟩
  exact ((Below.refl _ w).alloc (Nat.le_refl _) _).trans (below_of_grown g2 (by simp) (fun g hg => by injection hg with hg; omega))

theorem zeros_more {n j : Nat} (h : j < tailZ n) : ¬ (n + 1 + j) % 64 = 56 := by unfold tailZ at h; omega
theorem zeros_done (n : Nat) : (n + 1 + tailZ n) % 64 = 56 := by unfold tailZ; omega

set_option maxRecDepth 100000 in
set_option maxHeartbeats 3200000 in
theorem padded_any (A : Option Addr) (xs : List Int) (c : Nat) (w : World) (hx : xs.length ≤ 1000000000) (hc : xs.length ≤ c) (hm : c ≤ maxLen) (hr : Holds w w.heap.size .u8 A xs) :
    Calls Tryd.prog 99 #[.slice A xs.length c] w fun e w' => ∃ v, e = .returned v ∧ Own w' w.heap.size 5 .u8 v (padL xs) ∧ Below w.heap.size w w' := by
  have own0 := Own.empty (k := .u8) w 5 (Nat.le_refl _)
  have hb0 : Below w.heap.size w (w.alloc (.cells #[] 5)) := (Below.refl _ _).alloc (Nat.le_refl _) _
  have hr0 : Holds (w.alloc (.cells #[] 5)) w.heap.size .u8 A xs := hr.below hb0
  have htl := tailZ_lt xs.length
  go_enter Tryd.func99, Tryd.ntmps99
  go_wp2_with (first
    | (have _t := own0; at_builtin; refine wpList_append_ints (ys := xs) _ rfl _ _ _ rfl elem8 own0 rfl rfl hr0 (by simp; omega) (by simp) ?_; clear _t own0; intro v3 w3 own3 hg3 hb3 hv3)
    | (have _t := own3; at_builtin; refine wpList_append_one (z := 128) _ rfl _ _ _ rfl elem8 own3 rfl rfl (by simp; omega) (by have := hb3.size; simp at this; omega) ?_; clear _t own3; intro v4 w4 own4 hg4 hb4))
  have hb4' : Below w.heap.size w w4 := (hb0.trans hb3).trans hb4
  clear hg3 hg4 hb3 hb4 hv3 hr0 hb0
  rw [List.nil_append] at own4
  go_loopw [3] (fun v wr => ∃ j : Nat, j ≤ tailZ xs.length ∧ Own wr w.heap.size 5 .u8 v (xs ++ [128] ++ List.replicate j 0) ∧ Below w.heap.size w wr) (fun v _ => xs.length + 1 + tailZ xs.length - leftOf v)
  case atStart => exact ⟨0, by omega, by simpa using own4, hb4'⟩
  case round =>
    clear own4 hb4'
    obtain ⟨j, hj, own5, hb5⟩ := hrel
    obtain ⟨A5, c5, rfl, hl5, hm5, _⟩ := own5.opened
    have hll : (xs ++ [128] ++ List.replicate j (0 : Int)).length = xs.length + 1 + j := by simp; omega
    have hnx : xs ++ [128] ++ List.replicate j (0 : Int) ++ [0] = xs ++ [128] ++ List.replicate (j + 1) 0 := by rw [List.append_assoc, ← List.replicate_succ']
    have hlast : xs ++ [128] ++ List.replicate (tailZ xs.length) (0 : Int) = xs ++ endA xs.length 0 := by simp [endA]
    unfold maxLen at hm5
    by_cases hlt : j < tailZ xs.length
    · have d := zeros_more hlt
      generalize xs ++ [128] ++ List.replicate j (0 : Int) = ys at *
      have d0 : (((ys.length : Int) % 64) != 56) = true := by rw [bne_iff_ne]; omega
      have hys : ys.length ≤ 1000000065 := by omega
      have hys2 : ys.length < xs.length + 1 + tailZ xs.length := by omega
      have Hnx := Lib.hid hnx
      clear d hll hnx hlast
      go_wp2_with (at_builtin; refine wpList_append_one (z := 0) _ rfl _ _ _ rfl elem8 own5 rfl rfl (by omega) hb5.size ?_; clear own5; intro v6 w6 own6 hg6 hb6; obtain ⟨A6, c6, rfl, hl6, hm6, _⟩ := own6.opened)
      go_roundw
      case rel => exact ⟨j + 1, by omega, by rw [List.length_append, List.length_singleton, Hnx.out] at own6; exact own6, hb5.trans hb6⟩
      case measure => simp [leftOf] <;> omega
    · obtain rfl : j = tailZ xs.length := by omega
      have d := zeros_done xs.length
      rw [hlast] at own5 hl5 hll
      rw [hlast]
      clear hlast hnx
      have hdone : padL xs = xs ++ endA xs.length 8 := by unfold padL; rw [endA_full]
      have hnext := fun i (h : i < 8) => endA_next (n := xs.length) h
      have hlenA := fun i (h : i ≤ 8) => endA_length (n := xs.length) h
      have htl2 := tailZ_lt xs.length
      generalize hys : xs ++ endA xs.length 0 = ys at *
      have d0 : (((ys.length : Int) % 64) != 56) = false := by rw [bne_eq_false_iff_eq]; omega
      have Hys := Lib.hid hys
      have Hdone := Lib.hid hdone
      have Hnext := Lib.hid hnext
      have HlenA := Lib.hid hlenA
      clear hys d hll hdone hnext hlenA
      go_wp2_with fail
      go_loopw [3, 5] (fun v s wr => ∃ i : Nat, i ≤ 8 ∧ s = .int .i64 i ∧ Own wr w.heap.size 5 .u8 v (xs ++ endA xs.length i) ∧ Below w.heap.size w wr) (fun _ s _ => 8 - (intOf s).toNat)
      case atStart => exact ⟨0, by omega, rfl, by rw [Hys.out]; exact own5, hb5⟩
      case round =>
        clear own5 hb5
        obtain ⟨i, hi, rfl, own7, hb7⟩ := hrel
        obtain ⟨A7, c7, rfl, hl7, hm7, _⟩ := own7.opened
        have hz7 : (xs ++ endA xs.length i).length ≤ 1000000100 := by rw [List.length_append, HlenA.out i hi]; omega
        by_cases hlt : i < 8
        · have hv := lenB_get (n := xs.length) hlt
          have hn7 : xs ++ endA xs.length i ++ [(xs.length : Int) * 8 / 2 ^ (56 - 8 * i) % 256] = xs ++ endA xs.length (i + 1) := by rw [Hnext.out i hlt, hv, List.append_assoc]
          generalize xs ++ endA xs.length i = zs at *
          have Hn7 := Lib.hid hn7
          clear hv hn7
          go_wp2_with (at_builtin; refine wpList_append_one (z := (xs.length : Int) * 8 / 2 ^ (56 - 8 * i) % 256) _ rfl _ _ _ rfl elem8 own7 rfl rfl (by omega) hb7.size ?_; clear own7; intro v8 w8 own8 hg8 hb8)
          go_roundw
          case rel => exact ⟨i + 1, by omega, by go_num, by rw [Hn7.out] at own8; exact own8, hb7.trans hb8⟩
          case measure => simp [intOf] <;> omega
        · obtain rfl : i = 8 := by omega
          rw [← Hdone.out] at own7 ⊢
          go_wp2_with fail
          go_ret
          exact ⟨_, rfl, own7, hb7⟩
end Go.Proofs.YtpnodocjpedcmaaDoor.Sha

namespace Go.Proofs.YtpnodocjpedcmaaDoor.Im
open Go.ChangeShapes Go.WideShapes Go.ChangeAt Go.RowKit Go.Proofs.YtpnodocjpedcmaaDoor.Kit

structure Step25 where
  k : Int
  blk : Int
  at_ : Int
  n : Int
  view : Int
  slot : Int
  A : Option Addr
  cap : Nat
  bs : List Int
  A2 : Option Addr
  cap2 : Nat
  zs : List Int
structure Step25.Ok (m : Step25) : Prop where
  k : -9223372036854775808 ≤ m.k ∧ m.k ≤ 9223372036854775807
  blk : -9223372036854775808 ≤ m.blk ∧ m.blk ≤ 9223372036854775807
  at_ : -9223372036854775808 ≤ m.at_ ∧ m.at_ ≤ 9223372036854775807
  n : -9223372036854775808 ≤ m.n ∧ m.n ≤ 9223372036854775807
  view : -9223372036854775808 ≤ m.view ∧ m.view ≤ 9223372036854775807
  slot : 0 ≤ m.slot ∧ m.slot ≤ 255
  b1 : m.bs.length ≤ m.cap
  b2 : m.cap ≤ maxLen
  bo : Octets m.bs
  z1 : m.zs.length ≤ m.cap2
  z2 : m.cap2 ≤ maxLen
  zo : Octets m.zs
def Step25.cells (m : Step25) : List Value := [.int .i64 m.k, .int .i64 m.blk, .int .i64 m.at_, .int .i64 m.n, .int .i64 m.view, .int .u8 m.slot, .slice m.A m.bs.length m.cap, .slice m.A2 m.zs.length m.cap2]
def Step25.In (m : Step25) (w : World) (B : Nat) : Prop := Holds w B .u8 m.A m.bs ∧ Holds w B .u8 m.A2 m.zs
def stepDs : List Fld := [.i .i64, .i .i64, .i .i64, .i .i64, .i .i64, .i .u8, .s .u8, .s .u8]
theorem step_of {w : World} {B : Nat} {vs : List FVal} (h : allOk w B stepDs vs) : ∃ m : Step25, m.Ok ∧ m.In w B ∧ allCells stepDs vs = m.cells := by
  match vs, h with
  | [.i k, .i b, .i a, .i n, .i v, .i s, .s A c bs, .s A2 c2 zs], ⟨h0, h1, h2, h3, h4, h5, h6, h7, _⟩ =>
    exact ⟨⟨k, b, a, n, v, s, A, c, bs, A2, c2, zs⟩, ⟨bounds_i64 h0, bounds_i64 h1, bounds_i64 h2, bounds_i64 h3, bounds_i64 h4, bounds_u8 h5, h6.1, h6.2.1, fun z hz => bounds_u8 (h6.2.2.1 z hz), h7.1, h7.2.1, fun z hz => bounds_u8 (h7.2.2.1 z hz)⟩, ⟨h6.2.2.2, h7.2.2.2⟩, rfl⟩
end Go.Proofs.YtpnodocjpedcmaaDoor.Im

namespace Go.Proofs.YtpnodocjpedcmaaDoor.Im
open Go.ChangeShapes Go.WideShapes Go.ChangeAt Go.RowKit Go.Proofs.YtpnodocjpedcmaaDoor.Kit

/-- How a step lies in memory. -/
def StepIn (w : World) (B : Nat) (m : Step25) (cs : List Value) : Prop := m.Ok ∧ m.In w B ∧ cs = m.cells
def HoldsQ (w : World) (B : Nat) (A : Option Addr) (ss : List Step25) : Prop := HoldsE (StepIn w B) 8 w B A ss
/-- A slice of steps that came in. -/
theorem open_steps25 {H : Type} {enc : TypeId × Value → H} {P : Program} {w : World} {b0 : Nat} {t e : TypeId} {fs : Array Field} (ht : P.underlying t = some (.slice e)) (he : P.underlying e = some (.struct fs)) (hs : shapeB P fs.toList 0 stepDs = true) (hc : P.cellsOf e = 8)
    {v : Value} {d : DataW H} {ps : List MemPlace} (hval : Value.okWide P w .any b0 t v) (h : DataW.Trod enc P w 0 (fun _ => true) true t v d ps) (hlt : ∀ x ∈ ps, x.block < w.heap.size) :
    ∃ (A : Option Addr) (cap : Nat) (ss : List Step25), v = .slice A ss.length cap ∧ ss.length ≤ cap ∧ cap ≤ maxLen ∧ HoldsQ w w.heap.size A ss :=
  open_slice_of (StepIn w w.heap.size) 8 ht hc (by omega) (fun _ _ _ h hp => by
    obtain ⟨vs, h1, h2⟩ := read_shape he hs hc h hp
    obtain ⟨m, h3, h5, h4⟩ := step_of h1
    exact ⟨m, h3, h5, h2.trans h4⟩) hval h hlt
theorem Step25.In.below {m : Step25} {w w' : World} {B : Nat} (h : m.In w B) (hb : Below B w w') : m.In w' B := ⟨h.1.below hb, h.2.below hb⟩
theorem HoldsQ.below {w w' : World} {B : Nat} {A : Option Addr} {ss : List Step25} (h : HoldsQ w B A ss) (hb : Below B w w') : HoldsQ w' B A ss :=
  h.keep (fun _ hp => hb.cell hp) fun _ _ ⟨r0, r1, r2⟩ => ⟨r0, r1.below hb, r2⟩
/-- The steps at A, element by element. -/
theorem stepAt25 {w : World} {B : Nat} {A : Option Addr} {ss : List Step25} (h : HoldsQ w B A ss) {i : Nat} (hi : i < ss.length) :
    ∃ b off : Nat, A = some ⟨b, off, none⟩ ∧ b < B ∧ w.rangeAt b (off + i * 8) ss[i].cells ∧ ss[i].Ok ∧ ss[i].In w B := by
  obtain ⟨b, off, rfl, hb, hc⟩ := h (by omega)
  obtain ⟨cs, ⟨r1, r2, rfl⟩, _, hcs⟩ := hc i ss[i] (List.getElem?_eq_getElem hi)
  exact ⟨b, off, rfl, hb, fun j c hj => hcs j c hj, r1, r2⟩

def stepGreat (s : Step25) : Bool := decide (1000 < s.bs.length) || decide (60 < s.zs.length)
def greatB (ss : List Step25) : Bool := decide (40 < ss.length) || ss.any stepGreat
theorem great_no {ss : List Step25} (h : greatB ss = false) : ss.length ≤ 40 ∧ ∀ s ∈ ss, s.bs.length ≤ 1000 ∧ s.zs.length ≤ 60 := by
  unfold greatB at h
  rw [Bool.or_eq_false_iff] at h
  refine ⟨by have := of_decide_eq_false h.1; omega, fun s hs => ?_⟩
  have h2 := (List.any_eq_false.1 h.2 s hs |> Bool.eq_false_iff.2)
  unfold stepGreat at h2
  rw [Bool.or_eq_false_iff] at h2
  have h3 := of_decide_eq_false h2.1
  have h4 := of_decide_eq_false h2.2
  omega

set_option maxRecDepth 100000 in
set_option maxHeartbeats 1600000 in
theorem great_any (A : Option Addr) (ss : List Step25) (c : Nat) (B : Nat) (w : World) (hr : HoldsQ w B A ss) :
    Calls Tryd.prog 25 #[.slice A ss.length c] w fun e w' => e = .returned (.bool (greatB ss)) ∧ w' = w := by
  by_cases h40 : (40 : Int) < ss.length
  · have hg : greatB ss = true := by unfold greatB; rw [decide_eq_true (by omega)]; rfl
    rw [hg]
    have hd : decide ((40 : Int) < (ss.length : Int)) = true := decide_eq_true h40
    go_enter Tryd.func25, Tryd.ntmps25
    go_wp2_with fail
    go_ret
    exact ⟨rfl, rfl⟩
  · have hd : decide ((40 : Int) < (ss.length : Int)) = false := decide_eq_false h40
    go_enter Tryd.func25, Tryd.ntmps25
    go_wp2_with fail
    go_loopw [3] (fun s wr => ∃ i : Nat, i ≤ ss.length ∧ s = .int .i64 i ∧ (ss.take i).any stepGreat = false ∧ wr = w) (fun s _ => ss.length - (intOf s).toNat)
    case atStart => exact ⟨0, Nat.zero_le _, rfl, by simp, rfl⟩
    case round =>
      obtain ⟨i, hi, rfl, hpre, rfl⟩ := hrel
      by_cases hlt : i < ss.length
      · obtain ⟨b, off, rfl, hbl, hra, -, -⟩ := stepAt25 hr hlt
        have c6 : wr.cell? ⟨b, off + i * 8 + 6, none⟩ = some (.slice ss[i].A ss[i].bs.length ss[i].cap) := hra 6 _ rfl
        have c7 : wr.cell? ⟨b, off + i * 8 + 7, none⟩ = some (.slice ss[i].A2 ss[i].zs.length ss[i].cap2) := hra 7 _ rfl
        have hnext : ss.take (i + 1) = ss.take i ++ [ss[i]] := (List.take_append_getElem hlt).symm
        have hmem := List.getElem_mem hlt
        have d0 : decide ((i : Int) < (ss.length : Int)) = true := decide_eq_true (by omega)
        generalize ss[i] = s at *
        clear hra
        by_cases hz : stepGreat s = true
        · have hg : greatB ss = true := by
            unfold greatB
            rw [show ss.any stepGreat = true from List.any_eq_true.2 ⟨s, hmem, hz⟩, Bool.or_true]
          have hd9 : decide ((1000 : Int) < (s.bs.length : Int)) = true ∨ (decide ((1000 : Int) < (s.bs.length : Int)) = false ∧ decide ((60 : Int) < (s.zs.length : Int)) = true) := by
            unfold stepGreat at hz
            rw [Bool.or_eq_true] at hz
            simp only [decide_eq_true_eq, decide_eq_false_iff_not] at hz ⊢
            omega
          have HG := Lib.hid hg
          clear hg hnext hmem hpre hz
          rcases hd9 with e1 | ⟨e1, e2⟩
          all_goals
            go_wp2_with fail
            go_ret
            exact ⟨by rw [HG.out] <;> rfl, rfl⟩
        · have hz : stepGreat s = false := by simpa using hz
          have hz2 := hz
          unfold stepGreat at hz2
          rw [Bool.or_eq_false_iff] at hz2
          have h1 := of_decide_eq_false hz2.1
          have h2 := of_decide_eq_false hz2.2
          have e1 : decide ((1000 : Int) < (s.bs.length : Int)) = false := decide_eq_false (by omega)
          have e2 : decide ((60 : Int) < (s.zs.length : Int)) = false := decide_eq_false (by omega)
          have hpre2 : (ss.take (i + 1)).any stepGreat = false := by
            rw [hnext, List.any_append, hpre, List.any_cons, List.any_nil, hz]
            rfl
          have HP := Lib.hid hpre2
          clear hpre2 hnext hmem hpre hz hz2 h1 h2
          go_wp2_with fail
          go_roundw
          case rel => exact ⟨i + 1, by omega, by go_num, HP.out, by first | rfl | trivial⟩
          case measure => simp [intOf]; omega
      · have d0 : decide ((i : Int) < (ss.length : Int)) = false := decide_eq_false (by omega)
        obtain rfl : i = ss.length := by omega
        rw [List.take_length] at hpre
        have hg : greatB ss = false := by
          unfold greatB
          rw [hpre, decide_eq_false (by omega)]
          rfl
        have HG := Lib.hid hg
        clear hg hpre
        go_wp2_with fail
        go_ret
        exact ⟨by rw [HG.out] <;> rfl, rfl⟩
end Go.Proofs.YtpnodocjpedcmaaDoor.Im
