/-
  Layer 15, match.widened: a contract. Conditions: as each theorem names.
-/
import Derived.Test.YtlcnbepldkbkgaaMMxA
import Derived.Deep.DeepCutAuto
namespace Go.Proofs.Ytlcnbepldkbkgaa.Mx
open Go.ChangeShapes Go.WideShapes Go.ChangeAt Go.RowKit Go.Proofs.Ytlcnbepldkbkgaa.Kit Go.Proofs.Ytlcnbepldkbkgaa.Sx

def backP (xs ys : List Int) (n o k : Nat) : Bool := decide (ys.getD (n - 1 - k) 0 = xs.getD (o - 1 - k) 0)
def moreP (xs ys : List Int) (n o l k : Nat) : Bool := decide (ys.getD (n + l + k) 0 = xs.getD (o + l + k) 0)
/-- What is put to a piece on both sides. -/
structure WideOk (xs ys : List Int) (n o l free back more : Nat) : Prop where
  b1 : back + free ≤ n
  b2 : back ≤ o
  b3 : back ≤ 2 * cnt (backP xs ys n o) back
  m1 : n + l + more ≤ ys.length
  m2 : o + l + more ≤ xs.length
  m3 : more ≤ 2 * cnt (moreP xs ys n o l) more

theorem back_reach {W : World} {p1 p2 p3 : Nat} {xs ys : List Int} {A1 A2 : Option Addr} {ca cb n o l free B C : Nat} (c1 : W.cell? ⟨p1, 0, none⟩ = some (.slice A2 ys.length cb)) (c0 : W.cell? ⟨p3, 0, none⟩ = some (.slice A1 xs.length ca))
    (c2 : W.cell? ⟨p2, 0, none⟩ = some (.int .i64 n)) (c3 : W.cell? ⟨p2, 1, none⟩ = some (.int .i64 o)) (c4 : W.cell? ⟨p2, 2, none⟩ = some (.int .i64 l)) (hx : Holds W B .u8 A1 xs) (hy : Holds W C .u8 A2 ys) (hxl : xs.length ≤ 100000) (hyl : ys.length ≤ 100000)
    (hn : n ≤ ys.length) (ho : o ≤ xs.length) (most : Int) (m1 : most ≤ (n : Int) - free) (m2 : most ≤ o) (m3 : -1000000 ≤ most) :
    Calls Try.prog 34 #[.int .i64 most, .func (.func 35) #[] #[.pointer (some ⟨p1, 0, none⟩), .pointer (some ⟨p2, 0, none⟩), .pointer (some ⟨p3, 0, none⟩)]] W fun e w' =>
      ∃ far : Nat, e = .returned (.int .i64 far) ∧ (far + free ≤ n ∨ far = 0) ∧ far ≤ o ∧ far ≤ 2 * cnt (backP xs ys n o) far ∧ ∃ m, w' = W.drewN m := by
  refine (reach_back (w := W) (most := most) (p := backP xs ys n o) (by omega) m3 (fun k hk m => (back_one (w := W.drewN m) c1 c0 c2 c3 c4 hx hy (by omega) (by omega) (by omega) (by omega) hn ho).mono (fun e w' hh => ⟨hh.1, by obtain ⟨q, rfl⟩ := hh.2; exact ⟨m + q, World.drewN_drewN _ _ _⟩⟩))).mono ?_
  rintro e w' ⟨⟨far, rfl, h⟩, m, rfl⟩
  have := h.le
  exact ⟨far, rfl, by omega, by omega, h.half, m, rfl⟩
theorem more_reach {W : World} {p1 p2 p3 : Nat} {xs ys : List Int} {A1 A2 : Option Addr} {ca cb n o l B C : Nat} (c1 : W.cell? ⟨p1, 0, none⟩ = some (.slice A2 ys.length cb)) (c0 : W.cell? ⟨p3, 0, none⟩ = some (.slice A1 xs.length ca))
    (c2 : W.cell? ⟨p2, 0, none⟩ = some (.int .i64 n)) (c3 : W.cell? ⟨p2, 1, none⟩ = some (.int .i64 o)) (c4 : W.cell? ⟨p2, 2, none⟩ = some (.int .i64 l)) (hx : Holds W B .u8 A1 xs) (hy : Holds W C .u8 A2 ys) (hxl : xs.length ≤ 100000) (hyl : ys.length ≤ 100000)
    (hn : n + l ≤ ys.length) (ho : o + l ≤ xs.length) (most : Int) (m1 : most ≤ (ys.length : Int) - n - l) (m2 : most ≤ (xs.length : Int) - o - l) (m3 : -1000000 ≤ most) :
    Calls Try.prog 34 #[.int .i64 most, .func (.func 36) #[] #[.pointer (some ⟨p1, 0, none⟩), .pointer (some ⟨p2, 0, none⟩), .pointer (some ⟨p3, 0, none⟩)]] W fun e w' =>
      ∃ far : Nat, e = .returned (.int .i64 far) ∧ n + l + far ≤ ys.length ∧ o + l + far ≤ xs.length ∧ far ≤ 2 * cnt (moreP xs ys n o l) far ∧ ∃ m, w' = W.drewN m := by
  refine (reach_more (w := W) (most := most) (p := moreP xs ys n o l) (by omega) m3 (fun k hk m => (more_one (w := W.drewN m) c1 c0 c2 c3 c4 hx hy (by omega) (by omega) (by omega) (by omega)).mono (fun e w' hh => ⟨hh.1, by obtain ⟨q, rfl⟩ := hh.2; exact ⟨m + q, World.drewN_drewN _ _ _⟩⟩))).mono ?_
  rintro e w' ⟨⟨far, rfl, h⟩, m, rfl⟩
  have := h.le
  exact ⟨far, rfl, by omega, by omega, h.half, m, rfl⟩
def BackR (xs ys : List Int) (n o free : Nat) (W : World) (v : Value) (wx : World) : Prop := ∃ back : Nat, v = .int .i64 back ∧ (back + free ≤ n ∧ back ≤ o ∧ back ≤ 2 * cnt (backP xs ys n o) back) ∧ ∃ m, wx = W.drewN m
def MoreR (xs ys : List Int) (n o l : Nat) (W : World) (v : Value) (wx : World) : Prop := ∃ more : Nat, v = .int .i64 more ∧ (n + l + more ≤ ys.length ∧ o + l + more ≤ xs.length ∧ more ≤ 2 * cnt (moreP xs ys n o l) more) ∧ ∃ m, wx = W.drewN m

set_option maxRecDepth 100000 in
set_option maxHeartbeats 12800000 in
theorem widened_any {w : World} {xs ys : List Int} (A1 A2 : Option Addr) (ca cb : Nat) {n o l free : Nat} (hx : Holds w w.heap.size .u8 A1 xs) (hy : Holds w w.heap.size .u8 A2 ys) (hxl : xs.length ≤ 100000) (hyl : ys.length ≤ 100000) (hf : free ≤ n) (hn : n + l ≤ ys.length) (ho : o + l ≤ xs.length) :
    Calls Try.prog 25 #[.slice A1 xs.length ca, .slice A2 ys.length cb, .agg #[.int .i64 n, .int .i64 o, .int .i64 l], .int .i64 free] w fun e w' => ∃ back more : Nat, e = .returned (.agg #[.int .i64 ((n - back : Nat) : Int), .int .i64 ((o - back : Nat) : Int), .int .i64 ((back + l + more : Nat) : Int)]) ∧
      WideOk xs ys n o l free back more ∧ Below w.heap.size w w' := by
  have s1 : (w.alloc (.cells #[.slice A1 xs.length ca] 22)).heap.size = w.heap.size + 1 := by simp
  have s2 : ((w.alloc (.cells #[.slice A1 xs.length ca] 22)).alloc (.cells #[.slice A2 ys.length cb] 22)).heap.size = w.heap.size + 1 + 1 := by simp
  have s3 : (((w.alloc (.cells #[.slice A1 xs.length ca] 22)).alloc (.cells #[.slice A2 ys.length cb] 22)).alloc (.cells #[.int .i64 n, .int .i64 o, .int .i64 l] 46)).heap.size = w.heap.size + 1 + 1 + 1 := by simp
  have N0 := ((Block.new w 22 #[.slice A1 xs.length ca]).alloc (.cells #[.slice A2 ys.length cb] 22)).alloc (.cells #[.int .i64 n, .int .i64 o, .int .i64 l] 46) |>.alloc (.cells #[.int .i64 0, .int .i64 0, .int .i64 0] 46)
  have N1 := ((Block.new (w.alloc (.cells #[.slice A1 xs.length ca] 22)) 22 #[.slice A2 ys.length cb]).alloc (.cells #[.int .i64 n, .int .i64 o, .int .i64 l] 46)).alloc (.cells #[.int .i64 0, .int .i64 0, .int .i64 0] 46)
  have N2 := (Block.new ((w.alloc (.cells #[.slice A1 xs.length ca] 22)).alloc (.cells #[.slice A2 ys.length cb] 22)) 46 #[.int .i64 n, .int .i64 o, .int .i64 l]).alloc (.cells #[.int .i64 0, .int .i64 0, .int .i64 0] 46)
  have N3 := Block.new (((w.alloc (.cells #[.slice A1 xs.length ca] 22)).alloc (.cells #[.slice A2 ys.length cb] 22)).alloc (.cells #[.int .i64 n, .int .i64 o, .int .i64 l] 46)) 46 #[.int .i64 0, .int .i64 0, .int .i64 0]
  rw [s1] at N1
  rw [s2] at N2
  rw [s3] at N3
  have BW : Below w.heap.size w ((((w.alloc (.cells #[.slice A1 xs.length ca] 22)).alloc (.cells #[.slice A2 ys.length cb] 22)).alloc (.cells #[.int .i64 n, .int .i64 o, .int .i64 l] 46)).alloc (.cells #[.int .i64 0, .int .i64 0, .int .i64 0] 46)) :=
    (((Below.refl w.heap.size w).alloc (Nat.le_refl _) _).alloc (by omega) _).alloc (by omega) _ |>.alloc (by omega) _
  clear s1 s2 s3
  go_enter Try.func25, Try.ntmps25
  go_upto_region 1 with fail
  obtain ⟨W, hW⟩ : ∃ W, W = ((((w.alloc (.cells #[.slice A1 xs.length ca] 22)).alloc (.cells #[.slice A2 ys.length cb] 22)).alloc (.cells #[.int .i64 n, .int .i64 o, .int .i64 l] 46)).alloc (.cells #[.int .i64 0, .int .i64 0, .int .i64 0] 46)) := ⟨_, rfl⟩
  rw [← hW] at N0 N1 N2 N3 BW ⊢
  clear hW
  have hxW := hx.below BW
  have hyW := hy.below BW
  have c0 : W.cell? ⟨w.heap.size, 0, none⟩ = some (.slice A1 xs.length ca) := by rw [N0.cell 0]; rfl
  have c1 : W.cell? ⟨w.heap.size + 1, 0, none⟩ = some (.slice A2 ys.length cb) := by rw [N1.cell 0]; rfl
  have c2 : W.cell? ⟨w.heap.size + 1 + 1, 0, none⟩ = some (.int .i64 n) := by rw [N2.cell 0]; rfl
  have c3 : W.cell? ⟨w.heap.size + 1 + 1, 1, none⟩ = some (.int .i64 o) := by rw [N2.cell 1]; rfl
  have c4 : W.cell? ⟨w.heap.size + 1 + 1, 2, none⟩ = some (.int .i64 l) := by rw [N2.cell 2]; rfl
  have HRB := Lib.hid (fun most => back_reach (W := W) (free := free) c1 c0 c2 c3 c4 hxW hyW hxl hyl (by omega) (by omega) most)
  have HRM := Lib.hid (fun (m0 : Nat) most => more_reach (W := W.drewN m0) (ca := ca) (cb := cb) c1 c0 c2 c3 c4 hxW hyW hxl hyl hn ho most)
  have HBW := Lib.hid BW
  have HN3 := Lib.hid N3
  clear hx hy hxW hyW N0 N1 N2 N3 BW
  obtain ⟨M, hM⟩ : ∃ M : Int, (if (o : Int) < (n : Int) - (free : Int) then (o : Int) else (n : Int) - (free : Int)) = M := ⟨_, rfl⟩
  obtain ⟨M2, hM2⟩ : ∃ M2 : Int, (if (xs.length : Int) - (o : Int) < (ys.length : Int) - (n : Int) then (xs.length : Int) - (o : Int) else (ys.length : Int) - (n : Int)) = M2 := ⟨_, rfl⟩
  have b1 : M ≤ (n : Int) - free ∧ M ≤ o ∧ 0 ≤ M := by split at hM <;> omega
  have b2 : M2 ≤ (ys.length : Int) - n ∧ M2 ≤ (xs.length : Int) - o ∧ (l : Int) ≤ M2 := by split at hM2 <;> omega
  have G1 := Lib.hid (HRB.out M b1.1 b1.2.1 (by omega))
  have G2 := Lib.hid (fun m0 => HRM.out m0 (M2 - l) (by omega) (by omega) (by omega))
  have HC := Lib.hid (fun m : Nat => (And.intro (show (W.drewN m).cell? ⟨w.heap.size, 0, none⟩ = some (.slice A1 xs.length ca) from c0) (And.intro (show (W.drewN m).cell? ⟨w.heap.size + 1, 0, none⟩ = some (.slice A2 ys.length cb) from c1)
    (And.intro (show (W.drewN m).cell? ⟨w.heap.size + 1 + 1, 0, none⟩ = some (.int .i64 n) from c2) (And.intro (show (W.drewN m).cell? ⟨w.heap.size + 1 + 1, 1, none⟩ = some (.int .i64 o) from c3) (show (W.drewN m).cell? ⟨w.heap.size + 1 + 1, 2, none⟩ = some (.int .i64 l) from c4))))))
  have hM26 : M2 ≤ 100000 := by omega
  clear HRB HRM
  go_wp2_with (first
    | (go_at_call 34; have _t := G1; clear _t; go_loud (with_reducible refine G1.out.mono ?_; rintro e w1 ⟨back, rfl, f1, f2, f3, m, rfl⟩; have HF3 := Lib.hid f3; obtain ⟨r0, r1, r2, r3, r4⟩ := HC.out m; have G3 := Lib.hid (G2.out m); clear f3 G1 c0 c1 c2 c3 c4))
    | (go_at_call 34; have _t := G3; clear _t; go_loud (with_reducible refine G3.out.mono ?_; rintro e w2 ⟨more, rfl, g1, g2, g3, m2, rfl⟩; have HG3 := Lib.hid g3; rw [World.drewN_drewN]; obtain ⟨t0, t1, t2, t3, t4⟩ := HC.out (m + m2); have NN := (HN3.out).drewN (m + m2); have z0 := NN.cell 0; have z1 := NN.cell 1; have z2 := NN.cell 2; have ff := fun i => NN.frozen i; have HNN := Lib.hid NN; clear g3 G3 NN r0 r1 r2 r3 r4; simp only [List.getElem?_toArray, List.getElem?_cons_zero, List.getElem?_cons_succ] at z0 z1 z2)))
  have BB := (((below_draws HBW.out (m + m2)).setCell (p := ⟨w.heap.size + 1 + 1 + 1, 0, none⟩) (by simp; omega) (.int .i64 ((n : Int) - back))).setCell (p := ⟨w.heap.size + 1 + 1 + 1, 1, none⟩) (by simp; omega) (.int .i64 ((o : Int) - back))).setCell (p := ⟨w.heap.size + 1 + 1 + 1, 2, none⟩) (by simp; omega) (.int .i64 ((back : Int) + l + more))
  have b9 := (((HNN.out.set_ 0 (.int .i64 ((n : Int) - back))).set_ 1 (.int .i64 ((o : Int) - back))).set_ 2 (.int .i64 ((back : Int) + l + more)))
  generalize (((W.drewN (m + m2)).setCell ⟨w.heap.size + 1 + 1 + 1, 0, none⟩ (.int .i64 ((n : Int) - back))).setCell ⟨w.heap.size + 1 + 1 + 1, 1, none⟩ (.int .i64 ((o : Int) - back))).setCell ⟨w.heap.size + 1 + 1 + 1, 2, none⟩ (.int .i64 ((back : Int) + l + more)) = w9 at *
  have e0 : w9.cell? ⟨w.heap.size + 1 + 1 + 1, 0, none⟩ = some (.int .i64 ((n : Int) - back)) := b9.cell 0
  have e1 : w9.cell? ⟨w.heap.size + 1 + 1 + 1, 1, none⟩ = some (.int .i64 ((o : Int) - back)) := b9.cell 1
  have e2 : w9.cell? ⟨w.heap.size + 1 + 1 + 1, 2, none⟩ = some (.int .i64 ((back : Int) + l + more)) := b9.cell 2
  have q0 : ((n - back : Nat) : Int) = (n : Int) - back := by omega
  have q1 : ((o - back : Nat) : Int) = (o : Int) - back := by omega
  have q2 : ((back + l + more : Nat) : Int) = (back : Int) + l + more := by omega
  have fin := (⟨by omega, f2, HF3.out, g1, g2, HG3.out⟩ : WideOk xs ys n o l free back more)
  refine bodyPost_ret (v := .agg #[.int .i64 ((n : Int) - back), .int .i64 ((o : Int) - back), .int .i64 ((back : Int) + l + more)]) ?_ rfl ⟨back, more, by rw [q0, q1, q2], fin, BB⟩
  simp [results, Try.results25, go_sem, e0, e1, e2]
end Go.Proofs.Ytlcnbepldkbkgaa.Mx
