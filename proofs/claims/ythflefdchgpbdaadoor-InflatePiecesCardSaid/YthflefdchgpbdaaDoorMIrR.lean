/-
  Layer 13, inflate: the document's rows of lengths: a contract. Conditions: as each theorem names.
-/
import Derived.Test.YthflefdchgpbdaaDoorMGIces25
namespace Go.Proofs.YthflefdchgpbdaaDoor.Inf
open Go.ChangeShapes Go.WideShapes Go.ChangeAt Go.RowKit Go.Proofs.YthflefdchgpbdaaDoor.Kit Go.Proofs.YthflefdchgpbdaaDoor.Bits Go.Proofs.YthflefdchgpbdaaDoor.Huf Go.Proofs.YthflefdchgpbdaaDoor.Df

/-- A method at work that tells nothing: its box, its result's cell, what it reads. -/
structure Sb (w W : World) (AL : Option Addr) (bits : List Int) (cL : Nat) (Ao : Option Addr) (no co : Nat) (most : Int) (gz : Nat) (d : DS) : Prop where
  b : Below w.heap.size w W
  x : Block W w.heap.size 43 (sC AL bits.length cL (d.p : Int) Ao no co most d.e)
  z : Block W gz 43 zS13
  r : Rx w AL bits cL
  g : w.heap.size < gz
section
variable {w W W' : World} {AL : Option Addr} {bits : List Int} {cL : Nat} {Ao : Option Addr} {no co : Nat} {most : Int} {gz : Nat} {d d' : DS}
theorem Sb.rx (h : Sb w W AL bits cL Ao no co most gz d) : Rx W AL bits cL := h.r.below h.b
theorem Sb.lt (h : Sb w W AL bits cL Ao no co most gz d) : w.heap.size < W.heap.size ∧ gz < W.heap.size := ⟨h.x.lt, h.z.lt⟩
theorem Sb.below (h : Sb w W AL bits cL Ao no co most gz d) (hb : Below W.heap.size W W') : Sb w W' AL bits cL Ao no co most gz d :=
  ⟨h.b.trans (hb.mono h.b.size), h.x.below hb h.x.lt, h.z.below hb h.z.lt, h.r, h.g⟩
theorem Sb.drew (h : Sb w W AL bits cL Ao no co most gz d) : Sb w W.drew AL bits cL Ao no co most gz d := h.below (below_draws (Below.refl _ _) 1)
theorem Sb.alloc (h : Sb w W AL bits cL Ao no co most gz d) (o : Obj) : Sb w (W.alloc o) AL bits cL Ao no co most gz d := h.below ((Below.refl _ _).alloc (Nat.le_refl _) _)
/-- The box alone turned. -/
theorem Sb.set (h : Sb w W AL bits cL Ao no co most gz d) (g : W.grownBy W' (some w.heap.size)) (hx : Block W' w.heap.size 43 (sC AL bits.length cL (d'.p : Int) Ao no co most d'.e)) : Sb w W' AL bits cL Ao no co most gz d' :=
  ⟨h.b.trans (below_of_grown g h.b.size (fun x hx => by injection hx with hx; omega)), hx, h.z.grown g (fun e => by injection e with e; have := h.g; omega), h.r, h.g⟩
/-- Another block of the call's own turned. -/
theorem Sb.far (h : Sb w W AL bits cL Ao no co most gz d) {G : Nat} (g : W.grownBy W' (some G)) (h1 : w.heap.size ≠ G) (h2 : gz ≠ G) (h3 : w.heap.size ≤ G) : Sb w W' AL bits cL Ao no co most gz d :=
  ⟨h.b.trans (below_of_grown g h.b.size (fun x hx => by injection hx with hx; omega)), h.x.grown g (fun e => by injection e with e; omega), h.z.grown g (fun e => by injection e with e; omega), h.r, h.g⟩
theorem Sb.fresh (h : Sb w W AL bits cL Ao no co most gz d) {o : Obj} (g : (W.alloc o).grownBy W' (some W.heap.size)) : Sb w W' AL bits cL Ao no co most gz d := by
  have k := h.lt
  exact (h.alloc o).far g (by omega) (by omega) (by omega)
/-- A row of the call's own grew. -/
theorem Sb.row {v : Value} {xs : List Int} {B : Nat} (h : Sb w W AL bits cL Ao no co most gz d) (o : Own W B 5 .u8 v xs) (hB : w.heap.size ≤ B) (g : W.grownBy W' v.ownBlock) : Sb w W' AL bits cL Ao no co most gz d :=
  ⟨h.b.trans (below_of_grown g h.b.size (fun x hx => by have := (o.lt x hx).1; omega)), h.x.grown g (o.ne_block h.x (by decide)), h.z.grown g (o.ne_block h.z (by decide)), h.r, h.g⟩
end
theorem Sb.of {w W : World} {AL : Option Addr} {bits : List Int} {cL : Nat} {Ao : Option Addr} {no co : Nat} {most : Int} {gz : Nat} {d : DS} (hb : Below w.heap.size w W) (hx : Block W w.heap.size 43 (sC AL bits.length cL (d.p : Int) Ao no co most d.e)) (hz : Block W gz 43 zS13) (r : Rx w AL bits cL) (hg : w.heap.size < gz) : Sb w W AL bits cL Ao no co most gz d := ⟨hb, hx, hz, r, hg⟩
theorem sb_start3 {w : World} {AL : Option Addr} {bits : List Int} {cL : Nat} {Ao : Option Addr} {no co : Nat} {most : Int} {d : DS} {A1 A2 : Option Addr} {n1 c1 c2 : Nat} (r : Rx w AL bits cL) :
    Sb w (((w.alloc (.cells #[.slice AL bits.length cL, .int .i64 (d.p : Int), .slice Ao no co, .int .i64 most, .int .i64 d.e] 43)).alloc (.cells #[.slice A1 n1 c1, .slice A2 n1 c2] 65)).alloc (.cells #[.slice none 0 0, .int .i64 0, .slice none 0 0, .int .i64 0, .int .i64 0] 43)) AL bits cL Ao no co most (w.heap.size + 1 + 1) d ∧
    Block (((w.alloc (.cells #[.slice AL bits.length cL, .int .i64 (d.p : Int), .slice Ao no co, .int .i64 most, .int .i64 d.e] 43)).alloc (.cells #[.slice A1 n1 c1, .slice A2 n1 c2] 65)).alloc (.cells #[.slice none 0 0, .int .i64 0, .slice none 0 0, .int .i64 0, .int .i64 0] 43)) (w.heap.size + 1) 65 #[.slice A1 n1 c1, .slice A2 n1 c2] :=
  ⟨Sb.of (below_3 w _ _ _) (((Block.new w _ _).alloc _).alloc _) (block_3 w _ _ _ _) r (by omega), (block_2 w _ _ _).alloc _⟩
/-- Whether there is an error. -/
def errAt (g : Nat) (W : World) : Int := intOf ((W.cell? ⟨g, 4, none⟩).getD (.int .i64 0))
theorem Sb.err {w W : World} {AL : Option Addr} {bits : List Int} {cL : Nat} {Ao : Option Addr} {no co : Nat} {most : Int} {gz : Nat} {d : DS} (h : Sb w W AL bits cL Ao no co most gz d) : errAt w.heap.size W = d.e := by
  have := h.x.cell 4
  unfold errAt
  rw [this]
  rfl
def lnV : Value → Nat
  | .slice _ n _ => n
  | _ => 0
theorem lnV_slice (A : Option Addr) (n c : Nat) : lnV (.slice A n c) = n := rfl
theorem symD_bd {l b : List Int} {d d1 : DS} {x : Int} (hm : mayB l = true) (ho : Octets l) (hB : Bit b) (h : symD l b d = (x, d1)) : 0 ≤ x ∧ (x < l.length ∨ x = 0) := by
  unfold symD at h
  split at h
  · injection h with a b
    omega
  · split at h
    · rename_i ht
      injection h with a b
      have := told_lt hm ho (fun y hy => hB y (List.mem_of_mem_drop hy)) ht
      omega
    · injection h with a b
      omega
    · injection h with a b
      omega
theorem symD_zero {l b : List Int} {d d1 : DS} {x : Int} (h : symD l b d = (x, d1)) (he : d.e = 0) (e : d1.e ≠ 0) : x = 0 := by
  unfold symD at h
  rw [if_neg (fun c => c he)] at h
  split at h
  · injection h with a b
    subst b
    exact absurd he e
  · injection h with a b
    exact a.symm
  · injection h with a b
    exact a.symm
theorem few_of {q N : Int} {d d5 : DS} (h : failD (decide (q < N)) 11 d = d5) (e : d5.e = 0) : N ≤ q := by
  by_cases c : q < N
  · rw [decide_eq_true c] at h
    by_cases e1 : d.e = 0
    · unfold failD at h
      rw [if_pos ⟨rfl, e1⟩] at h
      subst h
      exact absurd e (by simp)
    · rw [fail_err h e1] at e
      exact absurd e e1
  · omega
/-- What a row of lengths answers. -/
def LensTo (l : List Int) (many : Nat) (AL : Option Addr) (bits : List Int) (cL : Nat) (Ao : Option Addr) (no co : Nat) (most : Int) (d : DS) (w : World) (e : Ending) (w' : World) : Prop :=
  ∃ (A : Option Addr) (c : Nat) (acc : List Int) (d' : DS), e = .returned (.tuple #[.slice A acc.length c, .agg #[.slice AL bits.length cL, .int .i64 (d'.p : Int), .slice Ao no co, .int .i64 most, .int .i64 d'.e]]) ∧
    Goes bits d (rowG l many 320 [] bits d.p) acc d' ∧ Own w' w.heap.size 5 .u8 (.slice A acc.length c) acc ∧ Octets acc ∧ acc.length ≤ c ∧ c ≤ maxLen ∧ (d'.e = 0 → acc.length = many) ∧ acc.length ≤ many ∧ Below w.heap.size w w'
theorem lens_done {l : List Int} {many : Nat} {AL : Option Addr} {bits : List Int} {cL : Nat} {Ao : Option Addr} {no co : Nat} {most : Int} {d di : DS} {w W : World} {gz : Nat} {A9 : Option Addr} {c9 : Nat} {acc : List Int}
    (J : Sb w W AL bits cL Ao no co most gz di) (o : Own W w.heap.size 5 .u8 (.slice A9 acc.length c9) acc) (ho : Octets acc) (hl : acc.length ≤ many) (R : RowAt bits l many d acc di) (hm : many ≤ acc.length ∨ di.e ≠ 0) {W' : World} (g : W.grownBy W' (some gz)) :
    LensTo l many AL bits cL Ao no co most d w (.returned (.tuple #[.slice A9 acc.length c9, .agg #[.slice AL bits.length cL, .int .i64 (di.p : Int), .slice Ao no co, .int .i64 most, .int .i64 di.e]])) W' := by
  have k := J.g
  have o2 := o.kept g (.inr (o.ne_block J.z (by decide)))
  obtain ⟨A, c, e, hc, hcm, H⟩ := o2.opened
  injection e with e1 e2 e3
  subst e1 e3
  exact ⟨_, _, acc, di, rfl, R.done hm, o2, ho, hc, hcm, fun e => by rcases hm with hm | hm; omega; exact absurd e hm, hl, J.b.trans (below_of_grown g J.b.size (fun x hx => by injection hx with hx; omega))⟩
def acc_more (acc : List Int) (i : Nat) (y : Int) : List Int := acc ++ List.replicate i y
theorem acc_length (acc : List Int) (i : Nat) (y : Int) : (acc_more acc i y).length = acc.length + i := by rw [acc_more, List.length_append, List.length_replicate]
theorem acc_next (acc : List Int) (i : Nat) (y : Int) : acc_more acc (i + 1) y = acc_more acc i y ++ [y] := by rw [acc_more, acc_more, List.replicate_succ', List.append_assoc]
theorem acc_octets {acc : List Int} {i : Nat} {y : Int} (h : Octets acc) (h0 : 0 ≤ y) (h1 : y < 256) : Octets (acc_more acc i y) := by
  intro z hz
  rcases List.mem_append.1 hz with c | c
  · exact h z c
  · obtain rfl := (List.mem_replicate.1 c).2
    exact ⟨h0, by omega⟩

theorem bad_of {is : Bool} {d d2 : DS} (h : failD is 11 d = d2) (hi : is = true) : d2.e ≠ 0 := by
  by_cases c : d.e = 0
  · unfold failD at h
    rw [if_pos ⟨hi, c⟩] at h
    subst h
    simp
  · rw [fail_err h c]
    exact c
/-- What stands when a round of a row begins. -/
def LRow (w wr : World) (AL : Option Addr) (bits : List Int) (cL : Nat) (Ao : Option Addr) (no co : Nat) (most : Int) (d : DS) (l : List Int) (many : Nat) (A1 A2 : Option Addr) (c1 c2 : Nat) (x8 : Value) : Prop :=
  ∃ (di : DS) (acc : List Int) (A9 : Option Addr) (c9 : Nat), x8 = .slice A9 acc.length c9 ∧ Own wr w.heap.size 5 .u8 (.slice A9 acc.length c9) acc ∧ Octets acc ∧ acc.length ≤ many ∧ RowAt bits l many d acc di ∧ Sb w wr AL bits cL Ao no co most (w.heap.size + 1 + 1) di ∧ Block wr (w.heap.size + 1) 65 #[.slice A1 l.length c1, .slice A2 l.length c2]
section
variable {w wq W0 : World} {AL : Option Addr} {bits : List Int} {cL : Nat} {Ao : Option Addr} {no co : Nat} {most : Int} {d di d5 : DS} {l acc : List Int} {many N i : Nat} {A1 A2 A5 : Option Addr} {c1 c2 c5 : Nat}
theorem row_bad (y : Int) (Y : RowAt bits l many d acc di) (he : di.e = 0) (hlt : acc.length < many) (hm : many ≤ 320) (hN : 1 ≤ N) (G : Goes bits di (roundG l many acc bits di.p) (y, (N : Int)) d5) (he5 : d5.e ≠ 0) (h0 : i = 0) (ho : Octets acc) (_h : 0 ≤ y) (_h2 : y < 256) (hal : acc.length ≤ many)
    (o : Own wq w.heap.size 5 .u8 (.slice A5 (acc.length + i) c5) (acc_more acc i y)) (J : Sb w wq AL bits cL Ao no co most (w.heap.size + 1 + 1) d5) (B : Block wq (w.heap.size + 1) 65 #[.slice A1 l.length c1, .slice A2 l.length c2]) :
    LRow w wq AL bits cL Ao no co most d l many A1 A2 c1 c2 (.slice A5 (acc.length + i) c5) := by
  subst h0
  rw [acc_more, List.replicate_zero, List.append_nil] at o
  exact ⟨d5, acc, A5, c5, rfl, o, ho, hal, (Y.next he (by omega) hm (by omega) G).2 he5 acc, J, B⟩
theorem row_go (y : Int) (Y : RowAt bits l many d acc di) (he : di.e = 0) (hlt : acc.length < many) (hm : many ≤ 320) (hN : 1 ≤ N) (G : Goes bits di (roundG l many acc bits di.p) (y, (N : Int)) d5) (h0 : d5.e ≠ 0 → N = 0) (ho : Octets acc) (hy : 0 ≤ y) (hy2 : y < 256) (hal : acc.length ≤ many) (hf : d5.e = 0 → (N : Int) ≤ many - acc.length)
    (o : Own wq w.heap.size 5 .u8 (.slice A5 (acc.length + N) c5) (acc_more acc N y)) (J : Sb w wq AL bits cL Ao no co most (w.heap.size + 1 + 1) d5) (B : Block wq (w.heap.size + 1) 65 #[.slice A1 l.length c1, .slice A2 l.length c2]) :
    LRow w wq AL bits cL Ao no co most d l many A1 A2 c1 c2 (.slice A5 (acc.length + N) c5) := by
  have e5 : d5.e = 0 := by
    by_cases c : d5.e = 0
    · exact c
    · have := h0 c; omega
  have hf := hf e5
  have hn := acc_length acc N y
  have Y5 := (Y.next he (by omega) hm (by omega) G).1 e5
  rw [Int.toNat_natCast] at Y5
  refine ⟨d5, acc_more acc N y, A5, c5, by rw [hn], by rw [hn]; exact o, acc_octets ho hy hy2, by omega, Y5, J, B⟩
theorem mea_bad {v : Value} (J : Sb w wq AL bits cL Ao no co most (w.heap.size + 1 + 1) d5) (he5 : d5.e ≠ 0) {A9 : Option Addr} {c9 : Nat} (h0 : errAt w.heap.size W0 = di.e) (he : di.e = 0) (hlt : acc.length < many) :
    (if errAt w.heap.size wq = 0 then many + 1 - lnV v else 0) < (if errAt w.heap.size W0 = 0 then many + 1 - lnV (.slice A9 acc.length c9) else 0) := by
  rw [J.err, if_neg he5, h0, if_pos he, lnV_slice]
  omega
theorem mea_go {A A9 : Option Addr} {c c9 n : Nat} (J : Sb w wq AL bits cL Ao no co most (w.heap.size + 1 + 1) d5) (h0 : errAt w.heap.size W0 = di.e) (he : di.e = 0) (hlt : acc.length < many) (hn : 1 ≤ n) (_hf : d5.e = 0 → (n : Int) ≤ many - acc.length) :
    (if errAt w.heap.size wq = 0 then many + 1 - lnV (.slice A (acc.length + n) c) else 0) < (if errAt w.heap.size W0 = 0 then many + 1 - lnV (.slice A9 acc.length c9) else 0) := by
  rw [h0, if_pos he, lnV_slice, lnV_slice]
  split <;> omega
end

set_option maxRecDepth 100000 in
set_option maxHeartbeats 12800000 in
theorem lens_any (A1 A2 : Option Addr) (l : List Int) (c1 c2 : Nat) (many : Nat) (AL : Option Addr) (bits : List Int) (cL : Nat) (Ao : Option Addr) (no co : Nat) (most : Int) (d : DS) (w : World)
    (he : d.e = 0) (hp : d.p ≤ bits.length) (hm9 : many ≤ 320) (hl9 : l.length ≤ 19) (r : Rx w AL bits cL) (T : Cx9 w A1 l A2) :
    Calls Tryd.prog 39 #[.agg #[.slice AL bits.length cL, .int .i64 (d.p : Int), .slice Ao no co, .int .i64 most, .int .i64 d.e], .agg #[.slice A1 l.length c1, .slice A2 l.length c2], .int .i64 (many : Int)] w
      (LensTo l many AL bits cL Ao no co most d w) := by
  have hB := r.b
  have hbd := r.m
  have J0 := sb_start3 (most := most) (Ao := Ao) (no := no) (co := co) (d := d) (A1 := A1) (n1 := l.length) (c1 := c1) (A2 := A2) (c2 := c2) r
  have Y0 : RowAt bits l many d [] d := RowAt.begin he hp
  have HT := Lib.hid T
  have HL := Lib.hid hl9
  have h0 : 0 ≤ many := Nat.zero_le _
  clear r T hl9 he hp
  go_enter Tryd.func39, Tryd.ntmps39
  go_upto_region 1 with fail
  generalize (World.alloc (World.alloc (World.alloc w (Obj.cells #[.slice AL bits.length cL, .int .i64 (d.p : Int), .slice Ao no co, .int .i64 most, .int .i64 d.e] 43)) (Obj.cells #[.slice A1 l.length c1, .slice A2 l.length c2] 65)) (Obj.cells #[.slice none 0 0, .int .i64 0, .slice none 0 0, .int .i64 0, .int .i64 0] 43)) = w0 at *
  obtain ⟨J0, B0⟩ := J0
  have o1 := Own.empty (B := w.heap.size) w0 5 .u8 J0.b.size
  have J1 := J0.alloc (.cells #[] 5)
  have B1 := B0.alloc (.cells #[] 5)
  clear J0 B0
  go_upto_region 2 with fail
  generalize (World.alloc w0 (Obj.cells #[] 5)) = w1 at *
  generalize w0.heap.size = g0 at *
  clear w0
  go_loopw [8] (fun x8 wr => ∃ (di : DS) (acc : List Int) (A9 : Option Addr) (c9 : Nat), x8 = .slice A9 acc.length c9 ∧ Own wr w.heap.size 5 .u8 (.slice A9 acc.length c9) acc ∧ Octets acc ∧ acc.length ≤ many ∧ RowAt bits l many d acc di ∧ Sb w wr AL bits cL Ao no co most (w.heap.size + 1 + 1) di ∧ Block wr (w.heap.size + 1) 65 #[.slice A1 l.length c1, .slice A2 l.length c2]) (fun x8 wr => if errAt w.heap.size wr = 0 then many + 1 - lnV x8 else 0)
  case atStart => exact ⟨d, [], some ⟨g0, 0, none⟩, 0, rfl, o1, fun _ h => absurd h (by simp), h0, Y0, J1, B1⟩
  case round =>
    clear Y0 J1 B1 o1
    obtain ⟨di, acc, A9, c9, rfl, o, hoc, hal, Y, J, B1⟩ := hrel
    have k4 : wr.cell? ⟨w.heap.size, 4, none⟩ = some (.int .i64 di.e) := J.x.cell 4
    have hpi := Y.1
    have HER := Lib.hid J.err
    by_cases hlt : acc.length < many
    · have jlt : (acc.length : Int) < (many : Int) := by omega
      by_cases he : di.e = 0
      · obtain ⟨⟨x, d1⟩, hsy⟩ : ∃ r, symD l bits di = r := ⟨_, rfl⟩
        have hxb := symD_bd HT.out.m HT.out.o hB hsy
        have hl9 := HL.out
        have hx0 : 0 ≤ x ∧ x < 19 := by omega
        have hle := symD_le (l := l) (b := bits) hpi
        rw [hsy] at hle
        simp only at hle
        have GN := Lib.hid (fun W R T => by have := next_lit AL bits cL Ao no co most di W A1 A2 l c1 c2 R T hpi; rw [hsy] at this; exact this)
        have HLE := Lib.hid hle
        have HSY := Lib.hid hsy
        have HE := Lib.hid he
        have HY := Lib.hid Y
        have HHX : Hid (d1.e ≠ 0 → x = 0) := Lib.hid (fun c => symD_zero hsy he c)
        have k5 : wr.cell? ⟨w.heap.size, 4, none⟩ = some (.int .i64 0) := by rw [k4, he]
        clear hle hsy he k4 Y hpi hxb hl9
        go_upto_region 3 with fail
        clear k5
        go_upto_region 4 with (first
          | (have _t := J; refine wpList_load_midV (o := ⟨some 31, _, _, _, _, _⟩) (by rfl) _ _ rfl (w.heap.size) 0 rfl [.slice AL bits.length cL, .int .i64 (di.p : Int), .slice Ao no co, .int .i64 most, .int .i64 di.e] (block_range (L := [.slice AL bits.length cL, .int .i64 (di.p : Int), .slice Ao no co, .int .i64 most, .int .i64 di.e]) J.x) Tryd.underlying43 rfl (by kernel_rfl) ?_; clear _t)
          | (have _t := J; refine wpList_load_midV (o := ⟨some 32, _, _, _, _, _⟩) (by rfl) _ _ rfl (w.heap.size + 1) 0 rfl [.slice A1 l.length c1, .slice A2 l.length c2] (block_range (L := [.slice A1 l.length c1, .slice A2 l.length c2]) B1) Tryd.underlying65 rfl (by kernel_rfl) ?_; clear _t)
          | (have _t := J; go_at_call 40; refine (GN.out _ J.rx (HT.out.below J.b)).mono ?_; rintro e w1x ⟨rfl, hbx⟩; have Jx := J.below hbx; have B1x := B1.below hbx B1.lt; have ox := o.below hbx; clear _t J B1 o hbx)
          | (have _t := Jx; refine wpList_store_blk rfl _ _ _ rfl (ds := [.slice AL bits.length cL, .int .i64 (d1.p : Int), .slice Ao no co, .int .i64 most, .int .i64 d1.e]) (Block.new w1x 43 #[.slice none 0 0, .int .i64 0, .slice none 0 0, .int .i64 0, .int .i64 0]) rfl rfl rfl (by kernel_rfl) (by intro u hu; simp only [List.mem_cons, List.not_mem_nil, or_false] at hu; rcases hu with rfl | rfl | rfl | rfl | rfl <;> rfl) ?_; clear _t; intro w2 X9 g9; have kk := Jx.lt; have J2 := Jx.fresh g9; have B2 := (B1x.alloc (.cells #[.slice none 0 0, .int .i64 0, .slice none 0 0, .int .i64 0, .int .i64 0] 43)).grown g9 (by intro h; injection h with h; have := B1x.lt; omega); have o2 := (ox.alloc (.cells #[.slice none 0 0, .int .i64 0, .slice none 0 0, .int .i64 0, .int .i64 0] 43)).kept g9 (.inr (fun e => by have := (ox.lt _ e).2; omega)); have HGT := Lib.hid g9; clear g9))
        try simp only [Act.put]
        have X2 := X9
        clear X9 Jx B1x ox HGT
        obtain ⟨gt, hgt⟩ : ∃ gt, w1x.heap.size = gt := ⟨_, rfl⟩
        rw [hgt] at X2 kk
        try rw [hgt]
        clear hgt
        by_cases hx16 : x = 16
        · have z16 : (x == 16) = true := by rw [beq_iff_eq]; exact hx16
          as_aux_lemma =>
            clear HHX
            subst hx16
            obtain ⟨d2, h2⟩ : ∃ d2, failD (decide (acc.length = 0)) 11 d1 = d2 := ⟨_, rfl⟩
            have hpl := failD_le (decide (acc.length = 0)) 11 d1
            rw [h2] at hpl
            have hp2 : d2.p ≤ bits.length := by rw [hpl.1]; exact HLE.out.1
            clear hpl
            have G0 := Lib.hid (fun W (is : Bool) (hi : is = decide (acc.length = 0)) => by have := refuse_lit AL bits cL Ao no co most d1 W is 11; have e2 : failD is 11 d1 = d2 := by { rw [hi]; exact h2 }; rw [e2] at this; exact this)
            obtain ⟨⟨k, d3⟩, h3⟩ : ∃ r, numD 2 bits d2 = r := ⟨_, rfl⟩
            have hb3 := numD_bd (k := 2) hB (show d2.p ≤ bits.length from hp2)
            have hl3 := numD_le (k := 2) (b := bits) (show d2.p ≤ bits.length from hp2)
            rw [h3] at hb3 hl3
            simp only at hb3 hl3
            rw [show (2 : Int) ^ 2 = 4 by decide] at hb3
            obtain ⟨kn, hkn⟩ := Int.eq_ofNat_of_zero_le hb3.1
            subst hkn
            have GG := Lib.hid (fun W R => by have := get_lit AL bits cL Ao no co most d2 W 2 R (by omega) (hp2); rw [h3] at this; exact this)
            have hkb : kn < 4 := by omega
            obtain ⟨y, hy⟩ : ∃ y, acc[acc.length - 1]?.getD 0 = y := ⟨_, rfl⟩
            go_upto_region 7 with fail
            go_upto_region 8 with (first
              | (have _t := X2; refine wpList_load_midV (o := ⟨some 40, _, _, _, _, _⟩) (by rfl) _ _ rfl (gt) 0 rfl [.slice AL bits.length cL, .int .i64 (d1.p : Int), .slice Ao no co, .int .i64 most, .int .i64 d1.e] (block_range (L := [.slice AL bits.length cL, .int .i64 (d1.p : Int), .slice Ao no co, .int .i64 most, .int .i64 d1.e]) X2) Tryd.underlying43 rfl (by kernel_rfl) ?_; clear _t)
              | (have _t := X2; go_at_call 17; refine (G0.out _ _ (by first | rfl | (by_cases c : acc.length = 0 <;> simp [c]))).mono ?_; rintro e w3x ⟨rfl, hbx⟩; have Jx := J2.below hbx; have Bx := B2.below hbx B2.lt; have ox := o2.below hbx; have Xx := X2.below hbx X2.lt; clear _t J2 B2 o2 X2 hbx)
              | (have _t := Xx; refine wpList_store_blk rfl _ _ _ rfl (ds := [.slice AL bits.length cL, .int .i64 (d2.p : Int), .slice Ao no co, .int .i64 most, .int .i64 d2.e]) Xx rfl rfl rfl (by kernel_rfl) (by intro u hu; simp only [List.mem_cons, List.not_mem_nil, or_false] at hu; rcases hu with rfl | rfl | rfl | rfl | rfl <;> rfl) ?_; clear _t; intro w3 X9 g9; have J2 := Jx.far g9 (by omega) (by omega) (by omega); have B2 := Bx.grown g9 (by intro h; injection h with h; omega); have o2 := ox.kept g9 (.inr (ox.ne_block Xx (by decide))); have X2 := X9; clear X9 g9 Jx Bx ox Xx))
            try simp only [Act.put]
            go_upto_region 9 with (first
              | (have _t := X2; refine wpList_load_midV (o := ⟨some 46, _, _, _, _, _⟩) (by rfl) _ _ rfl (gt) 0 rfl [.slice AL bits.length cL, .int .i64 (d2.p : Int), .slice Ao no co, .int .i64 most, .int .i64 d2.e] (block_range (L := [.slice AL bits.length cL, .int .i64 (d2.p : Int), .slice Ao no co, .int .i64 most, .int .i64 d2.e]) X2) Tryd.underlying43 rfl (by kernel_rfl) ?_; clear _t)
              | (have _t := X2; go_at_call 24; refine (GG.out _ J2.rx).mono ?_; rintro e w4x ⟨rfl, hbx⟩; have Jx := J2.below hbx; have Bx := B2.below hbx B2.lt; have ox := o2.below hbx; have Xx := X2.below hbx X2.lt; clear _t J2 B2 o2 X2 hbx)
              | (have _t := Xx; refine wpList_store_blk rfl _ _ _ rfl (ds := [.slice AL bits.length cL, .int .i64 (d3.p : Int), .slice Ao no co, .int .i64 most, .int .i64 d3.e]) (Block.new w4x 43 #[.slice none 0 0, .int .i64 0, .slice none 0 0, .int .i64 0, .int .i64 0]) rfl rfl rfl (by kernel_rfl) (by intro u hu; simp only [List.mem_cons, List.not_mem_nil, or_false] at hu; rcases hu with rfl | rfl | rfl | rfl | rfl <;> rfl) ?_; clear _t; intro w4 X9 g9; have J2 := Jx.fresh g9; have kt := Xx.lt; have B2 := (Bx.alloc (.cells #[.slice none 0 0, .int .i64 0, .slice none 0 0, .int .i64 0, .int .i64 0] 43)).grown g9 (by intro h; injection h with h; have := Bx.lt; omega); have o2 := (ox.alloc (.cells #[.slice none 0 0, .int .i64 0, .slice none 0 0, .int .i64 0, .int .i64 0] 43)).kept g9 (.inr (fun e => by have := (ox.lt _ e).2; omega)); have X2 := (Xx.alloc (.cells #[.slice none 0 0, .int .i64 0, .slice none 0 0, .int .i64 0, .int .i64 0] 43)).grown g9 (by intro h; injection h with h; omega); have U2 := X9; clear X9 g9 Jx Bx ox Xx))
            try simp only [Act.put]
            go_upto_region 10 with (first
              | (have _t := U2; refine wpList_load_midV (o := ⟨some 50, _, _, _, _, _⟩) (by rfl) _ _ rfl (w4x.heap.size) 0 rfl [.slice AL bits.length cL, .int .i64 (d3.p : Int), .slice Ao no co, .int .i64 most, .int .i64 d3.e] (block_range (L := [.slice AL bits.length cL, .int .i64 (d3.p : Int), .slice Ao no co, .int .i64 most, .int .i64 d3.e]) U2) Tryd.underlying43 rfl (by kernel_rfl) ?_; clear _t)
              | (have _t := U2; refine wpList_store_blk rfl _ _ _ rfl (ds := [.slice AL bits.length cL, .int .i64 (d3.p : Int), .slice Ao no co, .int .i64 most, .int .i64 d3.e]) X2 rfl rfl rfl (by kernel_rfl) (by intro u hu; simp only [List.mem_cons, List.not_mem_nil, or_false] at hu; rcases hu with rfl | rfl | rfl | rfl | rfl <;> rfl) ?_; clear _t; intro w4b X9 g9; have J3 := J2.far g9 (by omega) (by omega) (by omega); have B3 := B2.grown g9 (by intro h; injection h with h; omega); have o3 := o2.kept g9 (.inr (o2.ne_block X2 (by decide))); have X3 := X9; clear X9 g9 J2 B2 o2 X2 U2; have J2 := J3; have B2 := B3; have o2 := o3; have X2 := X3; clear J3 B3 o3 X3))
            try simp only [Act.put]
            go_upto_region 11 with fail
            have hyb : 0 ≤ y ∧ y < 256 := by
              rw [← hy]
              cases hq : acc[acc.length - 1]? with
              | none => exact ⟨by decide, by decide⟩
              | some v => have := hoc v (List.mem_of_getElem? hq); exact ⟨this.1, by have := this.2; show v < 256; omega⟩
            by_cases hz : acc.length = 0
            · have jz : ¬ (0 : Int) < (acc.length : Int) := by omega
              have jz2 : ¬ 0 < acc.length := by omega
              have HZ := Lib.hid hz
              have hd2 : d2.e ≠ 0 := bad_of h2 (decide_eq_true hz)
              clear hz
              have HD3 : Hid (d3.e ≠ 0) := Lib.hid (by rw [(num_err h3 hd2).2]; exact hd2)
              clear hd2
              go_upto_region 23 with fail
              obtain ⟨d5, h5⟩ : ∃ d5, failD (decide ((many : Int) - (acc.length : Int) < 3 + (kn : Int))) 11 d3 = d5 := ⟨_, rfl⟩
              have GF := Lib.hid (fun W => by have := refuse_lit AL bits cL Ao no co most d3 W (decide ((many : Int) - (acc.length : Int) < 3 + (kn : Int))) 11; rw [h5] at this; exact this)
              have HG : Hid (Goes bits di (roundG l many acc bits di.p) (y, (((kn + 3) : Nat) : Int)) d5) := Lib.hid (by have := round_16 (many := many) HE.out HY.out.1 HSY.out h2 h3 h5; rw [hy] at this; rwa [show ((kn + 3 : Nat) : Int) = (kn : Int) + 3 by omega])
              have HF5 : Hid (d5.e = 0 → (((kn + 3) : Nat) : Int) ≤ many - acc.length) := Lib.hid (fun e => by have := few_of h5 e; omega)
              have HD5 : Hid (d5.e ≠ 0) := Lib.hid (by rw [fail_err h5 HD3.out]; exact HD3.out)
              clear h5
              go_upto_region 24 with (first
                | (have _t := X2; refine wpList_load_midV (o := ⟨some 82, _, _, _, _, _⟩) (by rfl) _ _ rfl (gt) 0 rfl [.slice AL bits.length cL, .int .i64 (d3.p : Int), .slice Ao no co, .int .i64 most, .int .i64 d3.e] (block_range (L := [.slice AL bits.length cL, .int .i64 (d3.p : Int), .slice Ao no co, .int .i64 most, .int .i64 d3.e]) X2) Tryd.underlying43 rfl (by kernel_rfl) ?_; clear _t)
                | (have _t := X2; go_at_call 17; refine (GF.out _).mono ?_; rintro e w6x ⟨rfl, hbx⟩; have Jx := J2.below hbx; have Bx := B2.below hbx B2.lt; have ox := o2.below hbx; clear _t J2 B2 o2 X2 hbx)
                | (have _t := Jx; refine wpList_store_blk rfl _ _ _ rfl (ds := [.slice AL bits.length cL, .int .i64 (d5.p : Int), .slice Ao no co, .int .i64 most, .int .i64 d5.e]) Jx.x rfl rfl rfl (by kernel_rfl) (by intro u hu; simp only [List.mem_cons, List.not_mem_nil, or_false] at hu; rcases hu with rfl | rfl | rfl | rfl | rfl <;> rfl) ?_; clear _t; intro w6 X9 g9; have J2 := Jx.set g9 X9; have B2 := Bx.grown g9 (by intro h; injection h with h; omega); have o2 := ox.kept g9 (.inr (ox.ne_block Jx.x (by decide))); clear X9 g9 Jx Bx ox))
              try simp only [Act.put]
              clear GF
              go_wp2_with fail
              go_loopw [8, 19] (fun x8 s wq => ∃ (i : Nat) (A5 : Option Addr) (c5 : Nat), s = .int .i64 i ∧ i ≤ (kn + 3) ∧ (d5.e ≠ 0 → i = 0) ∧ x8 = .slice A5 (acc.length + i) c5 ∧ Own wq w.heap.size 5 .u8 (.slice A5 (acc.length + i) c5) (acc_more acc i y) ∧ Sb w wq AL bits cL Ao no co most (w.heap.size + 1 + 1) d5 ∧ Block wq (w.heap.size + 1) 65 #[.slice A1 l.length c1, .slice A2 l.length c2]) (fun _ s _ => (kn + 3) - (intOf s).toNat)
              case atStart => exact ⟨0, _, c9, rfl, Nat.zero_le _, fun _ => rfl, rfl, by rw [acc_more, List.replicate_zero, List.append_nil]; exact o2, J2, B2⟩
              case round =>
                clear J2 B2 o2
                obtain ⟨i, A5, c5, rfl, hi, h0, rfl, o, J, B1⟩ := hrel
                have k4 : World.cell? _ ⟨w.heap.size, 4, none⟩ = some (.int .i64 d5.e) := J.x.cell 4
                have hln := acc_length acc i y
                have HNX := Lib.hid (acc_next acc i y)
                have H0 := Lib.hid h0
                clear h0
                by_cases hin : i < (kn + 3)
                · have jin : (i : Int) < ((kn + 3) : Int) := by omega
                  by_cases he5 : d5.e = 0
                  · exact absurd he5 HD5.out
                  · have z5 : (d5.e == 0) = false := by rw [beq_eq_false_iff_ne]; exact he5
                    have HR := Lib.hid (row_bad y HY.out HE.out hlt hm9 (by omega) HG.out he5 (H0.out he5) hoc (by omega) (by omega) hal o J B1)
                    have HE5 := Lib.hid he5
                    clear he5 hin jin
                    go_wp2_with fail
                    go_roundw
                    all_goals first | exact ⟨HR.out, mea_bad J HE5.out HER.out HE.out hlt⟩ | exact HR.out | exact mea_bad J HE5.out HER.out HE.out hlt
                · have jin : ¬ (i : Int) < ((kn + 3) : Int) := by omega
                  obtain rfl : i = (kn + 3) := by omega
                  have HR := Lib.hid (row_go y HY.out HE.out hlt hm9 (by omega) HG.out H0.out hoc (by omega) (by omega) hal HF5.out o J B1)
                  clear hin jin k4
                  go_wp2_with fail
                  go_roundw
                  all_goals first | exact ⟨HR.out, mea_go J HER.out HE.out hlt (by omega) HF5.out⟩ | exact HR.out | exact mea_go J HER.out HE.out hlt (by omega) HF5.out
            · have jz : (0 : Int) < (acc.length : Int) := by omega
              have jz2 : 0 < acc.length := by omega
              obtain ⟨g9, cap9, eqv, _, _, _, _⟩ := o2.form (by omega)
              injection eqv with q1 q2 q3
              subst q1 q3
              have hca := o2.cellAt rfl (i := acc.length - 1) (by omega)
              rw [hy] at hca
              have i1 : ((acc.length : Int) - 1).toNat = acc.length - 1 := by omega
              go_upto_region 23 with fail
              clear hca
              obtain ⟨d5, h5⟩ : ∃ d5, failD (decide ((many : Int) - (acc.length : Int) < 3 + (kn : Int))) 11 d3 = d5 := ⟨_, rfl⟩
              have GF := Lib.hid (fun W => by have := refuse_lit AL bits cL Ao no co most d3 W (decide ((many : Int) - (acc.length : Int) < 3 + (kn : Int))) 11; rw [h5] at this; exact this)
              have HG : Hid (Goes bits di (roundG l many acc bits di.p) (y, (((kn + 3) : Nat) : Int)) d5) := Lib.hid (by have := round_16 (many := many) HE.out HY.out.1 HSY.out h2 h3 h5; rw [hy] at this; rwa [show ((kn + 3 : Nat) : Int) = (kn : Int) + 3 by omega])
              have HF5 : Hid (d5.e = 0 → (((kn + 3) : Nat) : Int) ≤ many - acc.length) := Lib.hid (fun e => by have := few_of h5 e; omega)
              clear h5
              go_upto_region 24 with (first
                | (have _t := X2; refine wpList_load_midV (o := ⟨some 82, _, _, _, _, _⟩) (by rfl) _ _ rfl (gt) 0 rfl [.slice AL bits.length cL, .int .i64 (d3.p : Int), .slice Ao no co, .int .i64 most, .int .i64 d3.e] (block_range (L := [.slice AL bits.length cL, .int .i64 (d3.p : Int), .slice Ao no co, .int .i64 most, .int .i64 d3.e]) X2) Tryd.underlying43 rfl (by kernel_rfl) ?_; clear _t)
                | (have _t := X2; go_at_call 17; refine (GF.out _).mono ?_; rintro e w6x ⟨rfl, hbx⟩; have Jx := J2.below hbx; have Bx := B2.below hbx B2.lt; have ox := o2.below hbx; clear _t J2 B2 o2 X2 hbx)
                | (have _t := Jx; refine wpList_store_blk rfl _ _ _ rfl (ds := [.slice AL bits.length cL, .int .i64 (d5.p : Int), .slice Ao no co, .int .i64 most, .int .i64 d5.e]) Jx.x rfl rfl rfl (by kernel_rfl) (by intro u hu; simp only [List.mem_cons, List.not_mem_nil, or_false] at hu; rcases hu with rfl | rfl | rfl | rfl | rfl <;> rfl) ?_; clear _t; intro w6 X9 g9; have J2 := Jx.set g9 X9; have B2 := Bx.grown g9 (by intro h; injection h with h; omega); have o2 := ox.kept g9 (.inr (ox.ne_block Jx.x (by decide))); clear X9 g9 Jx Bx ox))
              try simp only [Act.put]
              clear GF
              go_wp2_with fail
              go_loopw [8, 19] (fun x8 s wq => ∃ (i : Nat) (A5 : Option Addr) (c5 : Nat), s = .int .i64 i ∧ i ≤ (kn + 3) ∧ (d5.e ≠ 0 → i = 0) ∧ x8 = .slice A5 (acc.length + i) c5 ∧ Own wq w.heap.size 5 .u8 (.slice A5 (acc.length + i) c5) (acc_more acc i y) ∧ Sb w wq AL bits cL Ao no co most (w.heap.size + 1 + 1) d5 ∧ Block wq (w.heap.size + 1) 65 #[.slice A1 l.length c1, .slice A2 l.length c2]) (fun _ s _ => (kn + 3) - (intOf s).toNat)
              case atStart => exact ⟨0, _, c9, rfl, Nat.zero_le _, fun _ => rfl, rfl, by rw [acc_more, List.replicate_zero, List.append_nil]; exact o2, J2, B2⟩
              case round =>
                clear J2 B2 o2
                obtain ⟨i, A5, c5, rfl, hi, h0, rfl, o, J, B1⟩ := hrel
                have k4 : World.cell? _ ⟨w.heap.size, 4, none⟩ = some (.int .i64 d5.e) := J.x.cell 4
                have hln := acc_length acc i y
                have HNX := Lib.hid (acc_next acc i y)
                have H0 := Lib.hid h0
                clear h0
                by_cases hin : i < (kn + 3)
                · have jin : (i : Int) < ((kn + 3) : Int) := by omega
                  by_cases he5 : d5.e = 0
                  · have hfew := HF5.out he5
                    have k5 := k4
                    rw [he5] at k5
                    have HE5 := Lib.hid he5
                    obtain ⟨q, hq⟩ : ∃ q, acc_more acc i y = q := ⟨_, rfl⟩
                    rw [hq] at o hln
                    have hq1 : q.length ≤ 400 := by omega
                    have z1 := J.b.size
                    obtain ⟨m9, hm99⟩ : ∃ m9, acc.length + i = m9 := ⟨_, rfl⟩
                    rw [hm99] at o hln
                    try rw [hm99]
                    obtain rfl : m9 = q.length := by omega
                    have HQ := Lib.hid hq
                    have HM9 := Lib.hid hm99
                    clear hq hm99 he5 k4 hln
                    have Ja := J.alloc (.cells #[.int .u8 y] 5)
                    have oa := o.alloc (.cells #[.int .u8 y] 5)
                    have Ba := B1.alloc (.cells #[.int .u8 y] 5)
                    clear J B1
                    go_wp2_with (at_builtin; (refine wpList_append_one (z := y) _ rfl _ _ _ rfl elem8 o rfl rfl (by omega) (by omega) ?_; intro v7 w7 own7 hg7 hb7; have J7 := Ja.row oa (Nat.le_refl _) hg7; have B7 := Ba.grown hg7 (oa.ne_block Ba (by decide)); clear k5 Ja oa Ba o))
                    obtain ⟨A7, c7, rfl, _, _, _⟩ := own7.opened
                    go_roundw
                    case rel => exact ⟨i + 1, A7, c7, by go_num, by omega, fun c => absurd HE5.out c, by simp only [List.length_append, List.length_cons, List.length_nil]; rw [← HM9.out]; rfl, by rw [HNX.out, HQ.out, ← Nat.add_assoc, HM9.out]; simpa using own7, J7, B7⟩
                    case measure => simp [intOf] <;> omega
                  · have z5 : (d5.e == 0) = false := by rw [beq_eq_false_iff_ne]; exact he5
                    have HR := Lib.hid (row_bad y HY.out HE.out hlt hm9 (by omega) HG.out he5 (H0.out he5) hoc (by omega) (by omega) hal o J B1)
                    have HE5 := Lib.hid he5
                    clear he5 hin jin
                    go_wp2_with fail
                    go_roundw
                    all_goals first | exact ⟨HR.out, mea_bad J HE5.out HER.out HE.out hlt⟩ | exact HR.out | exact mea_bad J HE5.out HER.out HE.out hlt
                · have jin : ¬ (i : Int) < ((kn + 3) : Int) := by omega
                  obtain rfl : i = (kn + 3) := by omega
                  have HR := Lib.hid (row_go y HY.out HE.out hlt hm9 (by omega) HG.out H0.out hoc (by omega) (by omega) hal HF5.out o J B1)
                  clear hin jin k4
                  go_wp2_with fail
                  go_roundw
                  all_goals first | exact ⟨HR.out, mea_go J HER.out HE.out hlt (by omega) HF5.out⟩ | exact HR.out | exact mea_go J HER.out HE.out hlt (by omega) HF5.out
        · have z16 : (x == 16) = false := by rw [beq_eq_false_iff_ne]; exact hx16
          by_cases hx17 : x = 17
          · have z17 : (x == 17) = true := by rw [beq_iff_eq]; exact hx17
            as_aux_lemma =>
              clear HHX
              subst hx17
              obtain ⟨⟨k, d3⟩, h3⟩ : ∃ r, numD 3 bits d1 = r := ⟨_, rfl⟩
              have hb3 := numD_bd (k := 3) hB (show d1.p ≤ bits.length from HLE.out.1)
              have hl3 := numD_le (k := 3) (b := bits) (show d1.p ≤ bits.length from HLE.out.1)
              rw [h3] at hb3 hl3
              simp only at hb3 hl3
              rw [show (2 : Int) ^ 3 = 8 by decide] at hb3
              obtain ⟨kn, hkn⟩ := Int.eq_ofNat_of_zero_le hb3.1
              subst hkn
              have GG := Lib.hid (fun W R => by have := get_lit AL bits cL Ao no co most d1 W 3 R (by omega) (HLE.out.1); rw [h3] at this; exact this)
              have hkb : kn < 8 := by omega
              go_upto_region 14 with fail
              go_upto_region 15 with (first
                | (have _t := X2; refine wpList_load_midV (o := ⟨some 65, _, _, _, _, _⟩) (by rfl) _ _ rfl (gt) 0 rfl [.slice AL bits.length cL, .int .i64 (d1.p : Int), .slice Ao no co, .int .i64 most, .int .i64 d1.e] (block_range (L := [.slice AL bits.length cL, .int .i64 (d1.p : Int), .slice Ao no co, .int .i64 most, .int .i64 d1.e]) X2) Tryd.underlying43 rfl (by kernel_rfl) ?_; clear _t)
                | (have _t := X2; go_at_call 24; refine (GG.out _ J2.rx).mono ?_; rintro e w4x ⟨rfl, hbx⟩; have Jx := J2.below hbx; have Bx := B2.below hbx B2.lt; have ox := o2.below hbx; have Xx := X2.below hbx X2.lt; clear _t J2 B2 o2 X2 hbx)
                | (have _t := Xx; refine wpList_store_blk rfl _ _ _ rfl (ds := [.slice AL bits.length cL, .int .i64 (d3.p : Int), .slice Ao no co, .int .i64 most, .int .i64 d3.e]) (Block.new w4x 43 #[.slice none 0 0, .int .i64 0, .slice none 0 0, .int .i64 0, .int .i64 0]) rfl rfl rfl (by kernel_rfl) (by intro u hu; simp only [List.mem_cons, List.not_mem_nil, or_false] at hu; rcases hu with rfl | rfl | rfl | rfl | rfl <;> rfl) ?_; clear _t; intro w4 X9 g9; have J2 := Jx.fresh g9; have kt := Xx.lt; have B2 := (Bx.alloc (.cells #[.slice none 0 0, .int .i64 0, .slice none 0 0, .int .i64 0, .int .i64 0] 43)).grown g9 (by intro h; injection h with h; have := Bx.lt; omega); have o2 := (ox.alloc (.cells #[.slice none 0 0, .int .i64 0, .slice none 0 0, .int .i64 0, .int .i64 0] 43)).kept g9 (.inr (fun e => by have := (ox.lt _ e).2; omega)); have X2 := (Xx.alloc (.cells #[.slice none 0 0, .int .i64 0, .slice none 0 0, .int .i64 0, .int .i64 0] 43)).grown g9 (by intro h; injection h with h; omega); have U2 := X9; clear X9 g9 Jx Bx ox Xx))
              try simp only [Act.put]
              go_upto_region 16 with (first
                | (have _t := U2; refine wpList_load_midV (o := ⟨some 69, _, _, _, _, _⟩) (by rfl) _ _ rfl (w4x.heap.size) 0 rfl [.slice AL bits.length cL, .int .i64 (d3.p : Int), .slice Ao no co, .int .i64 most, .int .i64 d3.e] (block_range (L := [.slice AL bits.length cL, .int .i64 (d3.p : Int), .slice Ao no co, .int .i64 most, .int .i64 d3.e]) U2) Tryd.underlying43 rfl (by kernel_rfl) ?_; clear _t)
                | (have _t := U2; refine wpList_store_blk rfl _ _ _ rfl (ds := [.slice AL bits.length cL, .int .i64 (d3.p : Int), .slice Ao no co, .int .i64 most, .int .i64 d3.e]) X2 rfl rfl rfl (by kernel_rfl) (by intro u hu; simp only [List.mem_cons, List.not_mem_nil, or_false] at hu; rcases hu with rfl | rfl | rfl | rfl | rfl <;> rfl) ?_; clear _t; intro w4b X9 g9; have J3 := J2.far g9 (by omega) (by omega) (by omega); have B3 := B2.grown g9 (by intro h; injection h with h; omega); have o3 := o2.kept g9 (.inr (o2.ne_block X2 (by decide))); have X3 := X9; clear X9 g9 J2 B2 o2 X2 U2; have J2 := J3; have B2 := B3; have o2 := o3; have X2 := X3; clear J3 B3 o3 X3))
              try simp only [Act.put]
              go_upto_region 23 with fail
              obtain ⟨d5, h5⟩ : ∃ d5, failD (decide ((many : Int) - (acc.length : Int) < 3 + (kn : Int))) 11 d3 = d5 := ⟨_, rfl⟩
              have GF := Lib.hid (fun W => by have := refuse_lit AL bits cL Ao no co most d3 W (decide ((many : Int) - (acc.length : Int) < 3 + (kn : Int))) 11; rw [h5] at this; exact this)
              have HG : Hid (Goes bits di (roundG l many acc bits di.p) (0, (((kn + 3) : Nat) : Int)) d5) := Lib.hid (by have := round_17 (many := many) HE.out HY.out.1 HSY.out h3 h5; rwa [show ((kn + 3 : Nat) : Int) = (kn : Int) + 3 by omega])
              have HF5 : Hid (d5.e = 0 → (((kn + 3) : Nat) : Int) ≤ many - acc.length) := Lib.hid (fun e => by have := few_of h5 e; omega)
              clear h5
              go_upto_region 24 with (first
                | (have _t := X2; refine wpList_load_midV (o := ⟨some 82, _, _, _, _, _⟩) (by rfl) _ _ rfl (gt) 0 rfl [.slice AL bits.length cL, .int .i64 (d3.p : Int), .slice Ao no co, .int .i64 most, .int .i64 d3.e] (block_range (L := [.slice AL bits.length cL, .int .i64 (d3.p : Int), .slice Ao no co, .int .i64 most, .int .i64 d3.e]) X2) Tryd.underlying43 rfl (by kernel_rfl) ?_; clear _t)
                | (have _t := X2; go_at_call 17; refine (GF.out _).mono ?_; rintro e w6x ⟨rfl, hbx⟩; have Jx := J2.below hbx; have Bx := B2.below hbx B2.lt; have ox := o2.below hbx; clear _t J2 B2 o2 X2 hbx)
                | (have _t := Jx; refine wpList_store_blk rfl _ _ _ rfl (ds := [.slice AL bits.length cL, .int .i64 (d5.p : Int), .slice Ao no co, .int .i64 most, .int .i64 d5.e]) Jx.x rfl rfl rfl (by kernel_rfl) (by intro u hu; simp only [List.mem_cons, List.not_mem_nil, or_false] at hu; rcases hu with rfl | rfl | rfl | rfl | rfl <;> rfl) ?_; clear _t; intro w6 X9 g9; have J2 := Jx.set g9 X9; have B2 := Bx.grown g9 (by intro h; injection h with h; omega); have o2 := ox.kept g9 (.inr (ox.ne_block Jx.x (by decide))); clear X9 g9 Jx Bx ox))
              try simp only [Act.put]
              clear GF
              go_wp2_with fail
              go_loopw [8, 19] (fun x8 s wq => ∃ (i : Nat) (A5 : Option Addr) (c5 : Nat), s = .int .i64 i ∧ i ≤ (kn + 3) ∧ (d5.e ≠ 0 → i = 0) ∧ x8 = .slice A5 (acc.length + i) c5 ∧ Own wq w.heap.size 5 .u8 (.slice A5 (acc.length + i) c5) (acc_more acc i 0) ∧ Sb w wq AL bits cL Ao no co most (w.heap.size + 1 + 1) d5 ∧ Block wq (w.heap.size + 1) 65 #[.slice A1 l.length c1, .slice A2 l.length c2]) (fun _ s _ => (kn + 3) - (intOf s).toNat)
              case atStart => exact ⟨0, _, c9, rfl, Nat.zero_le _, fun _ => rfl, rfl, by rw [acc_more, List.replicate_zero, List.append_nil]; exact o2, J2, B2⟩
              case round =>
                clear J2 B2 o2
                obtain ⟨i, A5, c5, rfl, hi, h0, rfl, o, J, B1⟩ := hrel
                have k4 : World.cell? _ ⟨w.heap.size, 4, none⟩ = some (.int .i64 d5.e) := J.x.cell 4
                have hln := acc_length acc i 0
                have HNX := Lib.hid (acc_next acc i 0)
                have H0 := Lib.hid h0
                clear h0
                by_cases hin : i < (kn + 3)
                · have jin : (i : Int) < ((kn + 3) : Int) := by omega
                  by_cases he5 : d5.e = 0
                  · have hfew := HF5.out he5
                    have k5 := k4
                    rw [he5] at k5
                    have HE5 := Lib.hid he5
                    obtain ⟨q, hq⟩ : ∃ q, acc_more acc i 0 = q := ⟨_, rfl⟩
                    rw [hq] at o hln
                    have hq1 : q.length ≤ 400 := by omega
                    have z1 := J.b.size
                    obtain ⟨m9, hm99⟩ : ∃ m9, acc.length + i = m9 := ⟨_, rfl⟩
                    rw [hm99] at o hln
                    try rw [hm99]
                    obtain rfl : m9 = q.length := by omega
                    have HQ := Lib.hid hq
                    have HM9 := Lib.hid hm99
                    clear hq hm99 he5 k4 hln
                    have Ja := J.alloc (.cells #[.int .u8 0] 5)
                    have oa := o.alloc (.cells #[.int .u8 0] 5)
                    have Ba := B1.alloc (.cells #[.int .u8 0] 5)
                    clear J B1
                    go_wp2_with (at_builtin; (refine wpList_append_one (z := 0) _ rfl _ _ _ rfl elem8 o rfl rfl (by omega) (by omega) ?_; intro v7 w7 own7 hg7 hb7; have J7 := Ja.row oa (Nat.le_refl _) hg7; have B7 := Ba.grown hg7 (oa.ne_block Ba (by decide)); clear k5 Ja oa Ba o))
                    obtain ⟨A7, c7, rfl, _, _, _⟩ := own7.opened
                    go_roundw
                    case rel => exact ⟨i + 1, A7, c7, by go_num, by omega, fun c => absurd HE5.out c, by simp only [List.length_append, List.length_cons, List.length_nil]; rw [← HM9.out]; rfl, by rw [HNX.out, HQ.out, ← Nat.add_assoc, HM9.out]; simpa using own7, J7, B7⟩
                    case measure => simp [intOf] <;> omega
                  · have z5 : (d5.e == 0) = false := by rw [beq_eq_false_iff_ne]; exact he5
                    have HR := Lib.hid (row_bad 0 HY.out HE.out hlt hm9 (by omega) HG.out he5 (H0.out he5) hoc (by omega) (by omega) hal o J B1)
                    have HE5 := Lib.hid he5
                    clear he5 hin jin
                    go_wp2_with fail
                    go_roundw
                    all_goals first | exact ⟨HR.out, mea_bad J HE5.out HER.out HE.out hlt⟩ | exact HR.out | exact mea_bad J HE5.out HER.out HE.out hlt
                · have jin : ¬ (i : Int) < ((kn + 3) : Int) := by omega
                  obtain rfl : i = (kn + 3) := by omega
                  have HR := Lib.hid (row_go 0 HY.out HE.out hlt hm9 (by omega) HG.out H0.out hoc (by omega) (by omega) hal HF5.out o J B1)
                  clear hin jin k4
                  go_wp2_with fail
                  go_roundw
                  all_goals first | exact ⟨HR.out, mea_go J HER.out HE.out hlt (by omega) HF5.out⟩ | exact HR.out | exact mea_go J HER.out HE.out hlt (by omega) HF5.out
          · have z17 : (x == 17) = false := by rw [beq_eq_false_iff_ne]; exact hx17
            by_cases hx18 : x = 18
            · have z18 : (x == 18) = true := by rw [beq_iff_eq]; exact hx18
              as_aux_lemma =>
                clear HHX
                subst hx18
                obtain ⟨⟨k, d3⟩, h3⟩ : ∃ r, numD 7 bits d1 = r := ⟨_, rfl⟩
                have hb3 := numD_bd (k := 7) hB (show d1.p ≤ bits.length from HLE.out.1)
                have hl3 := numD_le (k := 7) (b := bits) (show d1.p ≤ bits.length from HLE.out.1)
                rw [h3] at hb3 hl3
                simp only at hb3 hl3
                rw [show (2 : Int) ^ 7 = 128 by decide] at hb3
                obtain ⟨kn, hkn⟩ := Int.eq_ofNat_of_zero_le hb3.1
                subst hkn
                have GG := Lib.hid (fun W R => by have := get_lit AL bits cL Ao no co most d1 W 7 R (by omega) (HLE.out.1); rw [h3] at this; exact this)
                have hkb : kn < 128 := by omega
                go_upto_region 19 with fail
                go_upto_region 20 with (first
                  | (have _t := X2; refine wpList_load_midV (o := ⟨some 75, _, _, _, _, _⟩) (by rfl) _ _ rfl (gt) 0 rfl [.slice AL bits.length cL, .int .i64 (d1.p : Int), .slice Ao no co, .int .i64 most, .int .i64 d1.e] (block_range (L := [.slice AL bits.length cL, .int .i64 (d1.p : Int), .slice Ao no co, .int .i64 most, .int .i64 d1.e]) X2) Tryd.underlying43 rfl (by kernel_rfl) ?_; clear _t)
                  | (have _t := X2; go_at_call 24; refine (GG.out _ J2.rx).mono ?_; rintro e w4x ⟨rfl, hbx⟩; have Jx := J2.below hbx; have Bx := B2.below hbx B2.lt; have ox := o2.below hbx; have Xx := X2.below hbx X2.lt; clear _t J2 B2 o2 X2 hbx)
                  | (have _t := Xx; refine wpList_store_blk rfl _ _ _ rfl (ds := [.slice AL bits.length cL, .int .i64 (d3.p : Int), .slice Ao no co, .int .i64 most, .int .i64 d3.e]) (Block.new w4x 43 #[.slice none 0 0, .int .i64 0, .slice none 0 0, .int .i64 0, .int .i64 0]) rfl rfl rfl (by kernel_rfl) (by intro u hu; simp only [List.mem_cons, List.not_mem_nil, or_false] at hu; rcases hu with rfl | rfl | rfl | rfl | rfl <;> rfl) ?_; clear _t; intro w4 X9 g9; have J2 := Jx.fresh g9; have kt := Xx.lt; have B2 := (Bx.alloc (.cells #[.slice none 0 0, .int .i64 0, .slice none 0 0, .int .i64 0, .int .i64 0] 43)).grown g9 (by intro h; injection h with h; have := Bx.lt; omega); have o2 := (ox.alloc (.cells #[.slice none 0 0, .int .i64 0, .slice none 0 0, .int .i64 0, .int .i64 0] 43)).kept g9 (.inr (fun e => by have := (ox.lt _ e).2; omega)); have X2 := (Xx.alloc (.cells #[.slice none 0 0, .int .i64 0, .slice none 0 0, .int .i64 0, .int .i64 0] 43)).grown g9 (by intro h; injection h with h; omega); have U2 := X9; clear X9 g9 Jx Bx ox Xx))
                try simp only [Act.put]
                go_upto_region 21 with (first
                  | (have _t := U2; refine wpList_load_midV (o := ⟨some 79, _, _, _, _, _⟩) (by rfl) _ _ rfl (w4x.heap.size) 0 rfl [.slice AL bits.length cL, .int .i64 (d3.p : Int), .slice Ao no co, .int .i64 most, .int .i64 d3.e] (block_range (L := [.slice AL bits.length cL, .int .i64 (d3.p : Int), .slice Ao no co, .int .i64 most, .int .i64 d3.e]) U2) Tryd.underlying43 rfl (by kernel_rfl) ?_; clear _t)
                  | (have _t := U2; refine wpList_store_blk rfl _ _ _ rfl (ds := [.slice AL bits.length cL, .int .i64 (d3.p : Int), .slice Ao no co, .int .i64 most, .int .i64 d3.e]) X2 rfl rfl rfl (by kernel_rfl) (by intro u hu; simp only [List.mem_cons, List.not_mem_nil, or_false] at hu; rcases hu with rfl | rfl | rfl | rfl | rfl <;> rfl) ?_; clear _t; intro w4b X9 g9; have J3 := J2.far g9 (by omega) (by omega) (by omega); have B3 := B2.grown g9 (by intro h; injection h with h; omega); have o3 := o2.kept g9 (.inr (o2.ne_block X2 (by decide))); have X3 := X9; clear X9 g9 J2 B2 o2 X2 U2; have J2 := J3; have B2 := B3; have o2 := o3; have X2 := X3; clear J3 B3 o3 X3))
                try simp only [Act.put]
                go_upto_region 23 with fail
                obtain ⟨d5, h5⟩ : ∃ d5, failD (decide ((many : Int) - (acc.length : Int) < 11 + (kn : Int))) 11 d3 = d5 := ⟨_, rfl⟩
                have GF := Lib.hid (fun W => by have := refuse_lit AL bits cL Ao no co most d3 W (decide ((many : Int) - (acc.length : Int) < 11 + (kn : Int))) 11; rw [h5] at this; exact this)
                have HG : Hid (Goes bits di (roundG l many acc bits di.p) (0, (((kn + 11) : Nat) : Int)) d5) := Lib.hid (by have := round_18 (many := many) HE.out HY.out.1 HSY.out h3 h5; rwa [show ((kn + 11 : Nat) : Int) = (kn : Int) + 11 by omega])
                have HF5 : Hid (d5.e = 0 → (((kn + 11) : Nat) : Int) ≤ many - acc.length) := Lib.hid (fun e => by have := few_of h5 e; omega)
                clear h5
                go_upto_region 24 with (first
                  | (have _t := X2; refine wpList_load_midV (o := ⟨some 82, _, _, _, _, _⟩) (by rfl) _ _ rfl (gt) 0 rfl [.slice AL bits.length cL, .int .i64 (d3.p : Int), .slice Ao no co, .int .i64 most, .int .i64 d3.e] (block_range (L := [.slice AL bits.length cL, .int .i64 (d3.p : Int), .slice Ao no co, .int .i64 most, .int .i64 d3.e]) X2) Tryd.underlying43 rfl (by kernel_rfl) ?_; clear _t)
                  | (have _t := X2; go_at_call 17; refine (GF.out _).mono ?_; rintro e w6x ⟨rfl, hbx⟩; have Jx := J2.below hbx; have Bx := B2.below hbx B2.lt; have ox := o2.below hbx; clear _t J2 B2 o2 X2 hbx)
                  | (have _t := Jx; refine wpList_store_blk rfl _ _ _ rfl (ds := [.slice AL bits.length cL, .int .i64 (d5.p : Int), .slice Ao no co, .int .i64 most, .int .i64 d5.e]) Jx.x rfl rfl rfl (by kernel_rfl) (by intro u hu; simp only [List.mem_cons, List.not_mem_nil, or_false] at hu; rcases hu with rfl | rfl | rfl | rfl | rfl <;> rfl) ?_; clear _t; intro w6 X9 g9; have J2 := Jx.set g9 X9; have B2 := Bx.grown g9 (by intro h; injection h with h; omega); have o2 := ox.kept g9 (.inr (ox.ne_block Jx.x (by decide))); clear X9 g9 Jx Bx ox))
                try simp only [Act.put]
                clear GF
                go_wp2_with fail
                go_loopw [8, 19] (fun x8 s wq => ∃ (i : Nat) (A5 : Option Addr) (c5 : Nat), s = .int .i64 i ∧ i ≤ (kn + 11) ∧ (d5.e ≠ 0 → i = 0) ∧ x8 = .slice A5 (acc.length + i) c5 ∧ Own wq w.heap.size 5 .u8 (.slice A5 (acc.length + i) c5) (acc_more acc i 0) ∧ Sb w wq AL bits cL Ao no co most (w.heap.size + 1 + 1) d5 ∧ Block wq (w.heap.size + 1) 65 #[.slice A1 l.length c1, .slice A2 l.length c2]) (fun _ s _ => (kn + 11) - (intOf s).toNat)
                case atStart => exact ⟨0, _, c9, rfl, Nat.zero_le _, fun _ => rfl, rfl, by rw [acc_more, List.replicate_zero, List.append_nil]; exact o2, J2, B2⟩
                case round =>
                  clear J2 B2 o2
                  obtain ⟨i, A5, c5, rfl, hi, h0, rfl, o, J, B1⟩ := hrel
                  have k4 : World.cell? _ ⟨w.heap.size, 4, none⟩ = some (.int .i64 d5.e) := J.x.cell 4
                  have hln := acc_length acc i 0
                  have HNX := Lib.hid (acc_next acc i 0)
                  have H0 := Lib.hid h0
                  clear h0
                  by_cases hin : i < (kn + 11)
                  · have jin : (i : Int) < ((kn + 11) : Int) := by omega
                    by_cases he5 : d5.e = 0
                    · have hfew := HF5.out he5
                      have k5 := k4
                      rw [he5] at k5
                      have HE5 := Lib.hid he5
                      obtain ⟨q, hq⟩ : ∃ q, acc_more acc i 0 = q := ⟨_, rfl⟩
                      rw [hq] at o hln
                      have hq1 : q.length ≤ 400 := by omega
                      have z1 := J.b.size
                      obtain ⟨m9, hm99⟩ : ∃ m9, acc.length + i = m9 := ⟨_, rfl⟩
                      rw [hm99] at o hln
                      try rw [hm99]
                      obtain rfl : m9 = q.length := by omega
                      have HQ := Lib.hid hq
                      have HM9 := Lib.hid hm99
                      clear hq hm99 he5 k4 hln
                      have Ja := J.alloc (.cells #[.int .u8 0] 5)
                      have oa := o.alloc (.cells #[.int .u8 0] 5)
                      have Ba := B1.alloc (.cells #[.int .u8 0] 5)
                      clear J B1
                      go_wp2_with (at_builtin; (refine wpList_append_one (z := 0) _ rfl _ _ _ rfl elem8 o rfl rfl (by omega) (by omega) ?_; intro v7 w7 own7 hg7 hb7; have J7 := Ja.row oa (Nat.le_refl _) hg7; have B7 := Ba.grown hg7 (oa.ne_block Ba (by decide)); clear k5 Ja oa Ba o))
                      obtain ⟨A7, c7, rfl, _, _, _⟩ := own7.opened
                      go_roundw
                      case rel => exact ⟨i + 1, A7, c7, by go_num, by omega, fun c => absurd HE5.out c, by simp only [List.length_append, List.length_cons, List.length_nil]; rw [← HM9.out]; rfl, by rw [HNX.out, HQ.out, ← Nat.add_assoc, HM9.out]; simpa using own7, J7, B7⟩
                      case measure => simp [intOf] <;> omega
                    · have z5 : (d5.e == 0) = false := by rw [beq_eq_false_iff_ne]; exact he5
                      have HR := Lib.hid (row_bad 0 HY.out HE.out hlt hm9 (by omega) HG.out he5 (H0.out he5) hoc (by omega) (by omega) hal o J B1)
                      have HE5 := Lib.hid he5
                      clear he5 hin jin
                      go_wp2_with fail
                      go_roundw
                      all_goals first | exact ⟨HR.out, mea_bad J HE5.out HER.out HE.out hlt⟩ | exact HR.out | exact mea_bad J HE5.out HER.out HE.out hlt
                  · have jin : ¬ (i : Int) < ((kn + 11) : Int) := by omega
                    obtain rfl : i = (kn + 11) := by omega
                    have HR := Lib.hid (row_go 0 HY.out HE.out hlt hm9 (by omega) HG.out H0.out hoc (by omega) (by omega) hal HF5.out o J B1)
                    clear hin jin k4
                    go_wp2_with fail
                    go_roundw
                    all_goals first | exact ⟨HR.out, mea_go J HER.out HE.out hlt (by omega) HF5.out⟩ | exact HR.out | exact mea_go J HER.out HE.out hlt (by omega) HF5.out
            · have z18 : (x == 18) = false := by rw [beq_eq_false_iff_ne]; exact hx18
              as_aux_lemma =>
                clear HHX
                have hx1 := hx0.1
                have hx2 := hx0.2
                go_upto_region 23 with fail
                obtain ⟨d5, h5⟩ : ∃ d5, failD (decide ((many : Int) - (acc.length : Int) < 1)) 11 d1 = d5 := ⟨_, rfl⟩
                have GF := Lib.hid (fun W => by have := refuse_lit AL bits cL Ao no co most d1 W (decide ((many : Int) - (acc.length : Int) < 1)) 11; rw [h5] at this; exact this)
                have HG : Hid (Goes bits di (roundG l many acc bits di.p) (x, ((1 : Nat) : Int)) d5) := Lib.hid (round_plain (many := many) HE.out HY.out.1 HSY.out (fun _ => ⟨hx16, hx17, hx18⟩) h5)
                have HF5 : Hid (d5.e = 0 → ((1 : Nat) : Int) ≤ many - acc.length) := Lib.hid (fun e => by have := few_of h5 e; omega)
                clear h5
                go_upto_region 24 with (first
                  | (have _t := X2; refine wpList_load_midV (o := ⟨some 82, _, _, _, _, _⟩) (by rfl) _ _ rfl (gt) 0 rfl [.slice AL bits.length cL, .int .i64 (d1.p : Int), .slice Ao no co, .int .i64 most, .int .i64 d1.e] (block_range (L := [.slice AL bits.length cL, .int .i64 (d1.p : Int), .slice Ao no co, .int .i64 most, .int .i64 d1.e]) X2) Tryd.underlying43 rfl (by kernel_rfl) ?_; clear _t)
                  | (have _t := X2; go_at_call 17; refine (GF.out _).mono ?_; rintro e w6x ⟨rfl, hbx⟩; have Jx := J2.below hbx; have Bx := B2.below hbx B2.lt; have ox := o2.below hbx; clear _t J2 B2 o2 X2 hbx)
                  | (have _t := Jx; refine wpList_store_blk rfl _ _ _ rfl (ds := [.slice AL bits.length cL, .int .i64 (d5.p : Int), .slice Ao no co, .int .i64 most, .int .i64 d5.e]) Jx.x rfl rfl rfl (by kernel_rfl) (by intro u hu; simp only [List.mem_cons, List.not_mem_nil, or_false] at hu; rcases hu with rfl | rfl | rfl | rfl | rfl <;> rfl) ?_; clear _t; intro w6 X9 g9; have J2 := Jx.set g9 X9; have B2 := Bx.grown g9 (by intro h; injection h with h; omega); have o2 := ox.kept g9 (.inr (ox.ne_block Jx.x (by decide))); clear X9 g9 Jx Bx ox))
                try simp only [Act.put]
                clear GF
                go_wp2_with fail
                go_loopw [8, 19] (fun x8 s wq => ∃ (i : Nat) (A5 : Option Addr) (c5 : Nat), s = .int .i64 i ∧ i ≤ 1 ∧ (d5.e ≠ 0 → i = 0) ∧ x8 = .slice A5 (acc.length + i) c5 ∧ Own wq w.heap.size 5 .u8 (.slice A5 (acc.length + i) c5) (acc_more acc i x) ∧ Sb w wq AL bits cL Ao no co most (w.heap.size + 1 + 1) d5 ∧ Block wq (w.heap.size + 1) 65 #[.slice A1 l.length c1, .slice A2 l.length c2]) (fun _ s _ => 1 - (intOf s).toNat)
                case atStart => exact ⟨0, _, c9, rfl, Nat.zero_le _, fun _ => rfl, rfl, by rw [acc_more, List.replicate_zero, List.append_nil]; exact o2, J2, B2⟩
                case round =>
                  clear J2 B2 o2
                  obtain ⟨i, A5, c5, rfl, hi, h0, rfl, o, J, B1⟩ := hrel
                  have k4 : World.cell? _ ⟨w.heap.size, 4, none⟩ = some (.int .i64 d5.e) := J.x.cell 4
                  have hln := acc_length acc i x
                  have HNX := Lib.hid (acc_next acc i x)
                  have H0 := Lib.hid h0
                  clear h0
                  by_cases hin : i < 1
                  · have jin : (i : Int) < (1 : Int) := by omega
                    by_cases he5 : d5.e = 0
                    · have hfew := HF5.out he5
                      have k5 := k4
                      rw [he5] at k5
                      have HE5 := Lib.hid he5
                      obtain ⟨q, hq⟩ : ∃ q, acc_more acc i x = q := ⟨_, rfl⟩
                      rw [hq] at o hln
                      have hq1 : q.length ≤ 400 := by omega
                      have z1 := J.b.size
                      obtain ⟨m9, hm99⟩ : ∃ m9, acc.length + i = m9 := ⟨_, rfl⟩
                      rw [hm99] at o hln
                      try rw [hm99]
                      obtain rfl : m9 = q.length := by omega
                      have HQ := Lib.hid hq
                      have HM9 := Lib.hid hm99
                      clear hq hm99 he5 k4 hln
                      have Ja := J.alloc (.cells #[.int .u8 x] 5)
                      have oa := o.alloc (.cells #[.int .u8 x] 5)
                      have Ba := B1.alloc (.cells #[.int .u8 x] 5)
                      clear J B1
                      go_wp2_with (at_builtin; (refine wpList_append_one (z := x) _ rfl _ _ _ rfl elem8 o rfl rfl (by omega) (by omega) ?_; intro v7 w7 own7 hg7 hb7; have J7 := Ja.row oa (Nat.le_refl _) hg7; have B7 := Ba.grown hg7 (oa.ne_block Ba (by decide)); clear k5 Ja oa Ba o))
                      obtain ⟨A7, c7, rfl, _, _, _⟩ := own7.opened
                      go_roundw
                      case rel => exact ⟨i + 1, A7, c7, by go_num, by omega, fun c => absurd HE5.out c, by simp only [List.length_append, List.length_cons, List.length_nil]; rw [← HM9.out]; rfl, by rw [HNX.out, HQ.out, ← Nat.add_assoc, HM9.out]; simpa using own7, J7, B7⟩
                      case measure => simp [intOf] <;> omega
                    · have z5 : (d5.e == 0) = false := by rw [beq_eq_false_iff_ne]; exact he5
                      have HR := Lib.hid (row_bad x HY.out HE.out hlt hm9 (by omega) HG.out he5 (H0.out he5) hoc (by omega) (by omega) hal o J B1)
                      have HE5 := Lib.hid he5
                      clear he5 hin jin
                      go_wp2_with fail
                      go_roundw
                      all_goals first | exact ⟨HR.out, mea_bad J HE5.out HER.out HE.out hlt⟩ | exact HR.out | exact mea_bad J HE5.out HER.out HE.out hlt
                  · have jin : ¬ (i : Int) < (1 : Int) := by omega
                    obtain rfl : i = 1 := by omega
                    have HR := Lib.hid (row_go x HY.out HE.out hlt hm9 (by omega) HG.out H0.out hoc (by omega) (by omega) hal HF5.out o J B1)
                    clear hin jin k4
                    go_wp2_with fail
                    go_roundw
                    all_goals first | exact ⟨HR.out, mea_go J HER.out HE.out hlt (by omega) HF5.out⟩ | exact HR.out | exact mea_go J HER.out HE.out hlt (by omega) HF5.out
      · have z : (di.e == 0) = false := by rw [beq_eq_false_iff_ne]; exact he
        have HF := Lib.hid (fun (W' : World) (g : wr.drew.grownBy W' (some (w.heap.size + 1 + 1))) => lens_done J.drew (o.drewN 1) hoc hal Y (.inr he) g)
        clear he Y
        go_upto_region 28 with fail
        have JD := J.drew
        refine wp_region_held_drew (S := (fun W => Block W w.heap.size 43 #[.slice AL bits.length cL, .int .i64 (di.p : Int), .slice Ao no co, .int .i64 most, .int .i64 di.e])) (by kernel_rfl) JD.x (fun hS => ?_)
        refine wpAnyH_take (i := 0) (oi := ⟨some 104, _, _, _, _, _⟩) (v := .slice A9 acc.length c9) rfl (by kernel_rfl) (by kernel_rfl) (by kernel_rfl) (fun _ _ _ h => h) (Or.inl ⟨by rfl, fun W hW => by go_simp⟩) hS ?_
        try simp only [Act.put, List.setIfInBounds_toArray, List.set_cons_zero, List.set_cons_succ]
        refine wpAnyH_take (i := 1) (oi := ⟨some 105, _, _, _, _, _⟩) (v := .agg #[.slice AL bits.length cL, .int .i64 (di.p : Int), .slice Ao no co, .int .i64 most, .int .i64 di.e]) rfl (by kernel_rfl) (by kernel_rfl) (by kernel_rfl) (fun _ _ _ h => h) (yieldsIf_load_mid (by rfl) _ _ rfl (w.heap.size) (0) rfl [.slice AL bits.length cL, .int .i64 (di.p : Int), .slice Ao no co, .int .i64 most, .int .i64 di.e] _ (fun W hW => block_range (L := [.slice AL bits.length cL, .int .i64 (di.p : Int), .slice Ao no co, .int .i64 most, .int .i64 di.e]) hW) Tryd.underlying43 rfl (by kernel_rfl)) hS ?_
        try simp only [Act.put, List.setIfInBounds_toArray, List.set_cons_zero, List.set_cons_succ]
        refine wpAnyH_take (i := 2) (oi := ⟨some 6, _, _, _, _, _⟩) (v := .slice A9 acc.length c9) rfl (by kernel_rfl) (by kernel_rfl) (by kernel_rfl) (fun _ _ _ h => h) (Or.inl ⟨by rfl, fun W hW => by go_simp⟩) hS ?_
        try simp only [Act.put, List.setIfInBounds_toArray, List.set_cons_zero, List.set_cons_succ]
        refine wpAnyH_ready (rs := [3]) (by kernel_rfl) (by simp) ?_
        refine AllReadyH.cons rfl (fun K hK => ?_) AllReadyH.nil
        refine step_store_blk rfl _ _ _ rfl (cs := #[.slice none 0 0, .int .i64 0, .slice none 0 0, .int .i64 0, .int .i64 0]) (ds := [.slice AL bits.length cL, .int .i64 (di.p : Int), .slice Ao no co, .int .i64 most, .int .i64 di.e]) (by exact JD.z) rfl rfl rfl (by kernel_rfl) (by intro u hu; simp only [List.mem_cons, List.not_mem_nil, or_false] at hu; rcases hu with rfl | rfl | rfl | rfl | rfl <;> rfl) ?_
        intro w9 X9 g9
        refine hK.out _ _ (hS.grown g9 (by intro h; injection h with h; omega)) (fun hS => ?_)
        clear hK K
        try simp only [Act.put, List.setIfInBounds_toArray, List.set_cons_zero, List.set_cons_succ]
        refine wpAnyH_done (by kernel_rfl) ?_ _
        go_wp2_with fail
        exact bodyPost_ret (v := .tuple #[.slice A9 acc.length c9, .agg #[.slice AL bits.length cL, .int .i64 (di.p : Int), .slice Ao no co, .int .i64 most, .int .i64 di.e]]) (results_tmp_row rfl _ _ (w.heap.size + 1 + 1) 43 _ (0, 0) _ _ rfl rfl X9 Tryd.underlying43 rfl (by kernel_rfl)) rfl (HF.out _ g9)
    · have jlt : ¬ (acc.length : Int) < (many : Int) := by omega
      have HF := Lib.hid (fun (W' : World) (g : wr.drew.grownBy W' (some (w.heap.size + 1 + 1))) => lens_done J.drew (o.drewN 1) hoc hal Y (.inl (by omega)) g)
      clear Y
      go_upto_region 28 with fail
      have JD := J.drew
      refine wp_region_held_drew (S := (fun W => Block W w.heap.size 43 #[.slice AL bits.length cL, .int .i64 (di.p : Int), .slice Ao no co, .int .i64 most, .int .i64 di.e])) (by kernel_rfl) JD.x (fun hS => ?_)
      refine wpAnyH_take (i := 0) (oi := ⟨some 104, _, _, _, _, _⟩) (v := .slice A9 acc.length c9) rfl (by kernel_rfl) (by kernel_rfl) (by kernel_rfl) (fun _ _ _ h => h) (Or.inl ⟨by rfl, fun W hW => by go_simp⟩) hS ?_
      try simp only [Act.put, List.setIfInBounds_toArray, List.set_cons_zero, List.set_cons_succ]
      refine wpAnyH_take (i := 1) (oi := ⟨some 105, _, _, _, _, _⟩) (v := .agg #[.slice AL bits.length cL, .int .i64 (di.p : Int), .slice Ao no co, .int .i64 most, .int .i64 di.e]) rfl (by kernel_rfl) (by kernel_rfl) (by kernel_rfl) (fun _ _ _ h => h) (yieldsIf_load_mid (by rfl) _ _ rfl (w.heap.size) (0) rfl [.slice AL bits.length cL, .int .i64 (di.p : Int), .slice Ao no co, .int .i64 most, .int .i64 di.e] _ (fun W hW => block_range (L := [.slice AL bits.length cL, .int .i64 (di.p : Int), .slice Ao no co, .int .i64 most, .int .i64 di.e]) hW) Tryd.underlying43 rfl (by kernel_rfl)) hS ?_
      try simp only [Act.put, List.setIfInBounds_toArray, List.set_cons_zero, List.set_cons_succ]
      refine wpAnyH_take (i := 2) (oi := ⟨some 6, _, _, _, _, _⟩) (v := .slice A9 acc.length c9) rfl (by kernel_rfl) (by kernel_rfl) (by kernel_rfl) (fun _ _ _ h => h) (Or.inl ⟨by rfl, fun W hW => by go_simp⟩) hS ?_
      try simp only [Act.put, List.setIfInBounds_toArray, List.set_cons_zero, List.set_cons_succ]
      refine wpAnyH_ready (rs := [3]) (by kernel_rfl) (by simp) ?_
      refine AllReadyH.cons rfl (fun K hK => ?_) AllReadyH.nil
      refine step_store_blk rfl _ _ _ rfl (cs := #[.slice none 0 0, .int .i64 0, .slice none 0 0, .int .i64 0, .int .i64 0]) (ds := [.slice AL bits.length cL, .int .i64 (di.p : Int), .slice Ao no co, .int .i64 most, .int .i64 di.e]) (by exact JD.z) rfl rfl rfl (by kernel_rfl) (by intro u hu; simp only [List.mem_cons, List.not_mem_nil, or_false] at hu; rcases hu with rfl | rfl | rfl | rfl | rfl <;> rfl) ?_
      intro w9 X9 g9
      refine hK.out _ _ (hS.grown g9 (by intro h; injection h with h; omega)) (fun hS => ?_)
      clear hK K
      try simp only [Act.put, List.setIfInBounds_toArray, List.set_cons_zero, List.set_cons_succ]
      refine wpAnyH_done (by kernel_rfl) ?_ _
      go_wp2_with fail
      exact bodyPost_ret (v := .tuple #[.slice A9 acc.length c9, .agg #[.slice AL bits.length cL, .int .i64 (di.p : Int), .slice Ao no co, .int .i64 most, .int .i64 di.e]]) (results_tmp_row rfl _ _ (w.heap.size + 1 + 1) 43 _ (0, 0) _ _ rfl rfl X9 Tryd.underlying43 rfl (by kernel_rfl)) rfl (HF.out _ g9)
end Go.Proofs.YthflefdchgpbdaaDoor.Inf
