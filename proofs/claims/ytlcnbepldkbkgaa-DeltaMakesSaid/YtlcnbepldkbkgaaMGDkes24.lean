/-
  Layer 17, delta.withLit of any plan: a contract. Conditions: as each theorem names.
  Layer 17, delta.withPart: a contract. Conditions: as each theorem names.
  Layer 17, delta.planOf of any pieces: a contract. Conditions: as each theorem names.
  Layer 17, blocks one behind the other: plain. Conditions: as each theorem names.
  Layer 17, delta.Plans of any two images: a contract. Conditions: as each theorem names.
-/
import Derived.Test.YtlcnbepldkbkgaaMDlJ
import Derived.Test.YtlcnbepldkbkgaaMDlC
import Derived.Test.YtlcnbepldkbkgaaMMxC
import Derived.Test.YtlcnbepldkbkgaaMGDkes18
import Derived.BigQuiet
import Derived.Deep.QuietTactic
import Derived.RegionTactic
import Derived.Test.YtlcnbepldkbkgaaMDlF
import Derived.Test.YtlcnbepldkbkgaaMGDkes4
namespace Go.Proofs.Ytlcnbepldkbkgaa.Dl
open Go.ChangeShapes Go.WideShapes Go.ChangeAt Go.RowKit Go.Proofs.Ytlcnbepldkbkgaa.Kit Go.Proofs.Ytlcnbepldkbkgaa.Pl

/-- One step more. -/
theorem OwnPlan.push {w w3 w4 : World} {B : Nat} {v v4 : Value} {ss : List Stp} {q : Stp} (h : OwnPlan w B v ss) (hB : B ≤ w.heap.size) (hb3 : Below w.heap.size w w3) (own3 : Own w3 w.heap.size 5 .u8 (slS q) q.zs) (own4 : OwnSteps w4 B v4 (ss ++ [q])) (tu : TurnsIn (fun b => v.ownBlock = some b) w3 w4) :
    OwnPlan w4 B v4 (ss ++ [q]) ∧ Below B w w4 ∧ TurnsIn (footP v ss) w w4 := by
  have h3 := h.below hb3
  refine ⟨⟨own4, ?_, ?_⟩, ?_, (TurnsIn.ofNew hb3).then_ tu fun b _ hb => .inl hb⟩
  · intro s hs
    rcases List.mem_append.1 hs with hs | hs
    · exact (h3.dat s hs).out tu fun b hb he => h3.st.ne_own (h3.dat s hs) (by decide) b hb he
    · obtain rfl : s = q := by simpa using hs
      exact (own3.mono hB).out tu fun b hb he => h3.st.ne_own own3 (by decide) b hb he
  · refine List.pairwise_append.2 ⟨h.apart, by simp, fun t ht s hs b hb he => ?_⟩
    obtain rfl : s = q := by simpa using hs
    have h1 := ((h.dat t ht).lt b hb).2
    have h2 := (own3.lt b he).1
    omega
  · exact (hb3.mono hB).trans (tu.toBelow (by have := hb3.size; omega) fun b hb he => by have := (h3.st.lt b he).1; omega)

theorem wpList_append_none {ops : Array Oper} {rest : List Oper} {o : Oper} {a : Act} {Q : Exit → Act → World → Prop} {w : World} {B : Nat} {v : Value} {ss : List Stp} (hgd : o.guard = none) (s x : Operand)
    (ho : o.op = Op.call { callee := Callee.builtin Builtin.append, args := #[s, x], argTypes := #[26, 26] })
    (hown : OwnSteps w B v ss) (hs : a.eval s = v) {c : Nat} (hx : a.eval x = .slice none 0 c) (h : wpList Try.prog ops Q rest (a.put o.dst v) w) :
    wpList Try.prog ops Q (o :: rest) a w := by
  refine wpList_plain hgd fun K hK => ?_
  obtain ⟨ht, hinfo⟩ := elemS
  obtain ⟨i, hi, hz, hss, hby⟩ := info_parts hinfo
  have hrun := run_append_no_source (P := Try.prog) w 26 o.type 30 i ht hi _ _ _ hown c
  unfold Oper.wp
  simp only [execOp, ho, resolve, invoke, builtin, Sem.run_bind, Sem.run_pure, Result.andThen_ok, List.map_toArray, List.map_cons, List.map_nil, hs, hx, hrun]
  exact hK _ _ h
theorem litQ_len {ss : List Stp} {xs : List Int} (h : ∀ s, ss.getLast? = some s → s.a ≠ 1) : litQ (ss.map sqS) xs = if xs = [] then ss.map sqS else ss.map sqS ++ [⟨1, 0, (xs.length : Int), xs⟩] :=
  litQ_new fun s hs => by
    rw [List.getLast?_map] at hs
    cases hg : ss.getLast? with
    | none => rw [hg] at hs; cases hs
    | some t => rw [hg] at hs; injection hs with hs; subst hs; exact h t hg
/-- What Literal gives, put behind steps. -/
def LitTo (B : Nat) (w : World) (v : Value) (ss : List Stp) (sq : List Sq) (e : Ending) (w' : World) : Prop := ∃ (v' : Value) (ss' : List Stp), e = .returned v' ∧ OwnPlan w' B v' ss' ∧ ss'.map sqS = sq ∧ Below B w w' ∧ TurnsIn (footP v ss) w w'

set_option maxRecDepth 100000 in
set_option maxHeartbeats 6400000 in
theorem withLit_none {B : Nat} {w : World} (A : Option Addr) (xs : List Int) (c : Nat) (v : Value) (ss : List Stp) (h : OwnPlan w B v ss) (hB : B ≤ w.heap.size) (hlast : ∀ s, ss.getLast? = some s → s.a ≠ 1) (hl : ss.length ≤ 100000) (hx : xs = []) (hr : Holds w B .u8 A xs) :
    Calls Try.prog 26 #[v, .slice A xs.length c] w (LitTo B w v ss (litQ (ss.map sqS) xs)) := by
  rw [litQ_len hlast]
  rw [if_pos hx]
  subst hx
  have GL := Lib.hid (literal_no A [] c w (by simp) (.inl (by simp)))
  have HP := Lib.hid h
  rcases List.eq_nil_or_concat ss with rfl | ⟨l, s, rfl⟩
  · obtain ⟨A0, c0, rfl, k1, k2⟩ := h.opened
    clear h hr hlast
    go_enter Try.func26, Try.ntmps26
    go_wp2_with (first
      | (go_at_call 11; refine GL.out.mono ?_; rintro e w1 ⟨rfl, rfl⟩)
      | (at_builtin; go_loud (refine wpList_append_none rfl _ _ rfl HP.out.st rfl rfl ?_)))
    go_ret
    exact ⟨_, _, rfl, HP.out, rfl, Below.refl _ _, TurnsIn.refl _ _⟩
  · rw [List.concat_eq_append] at *
    obtain ⟨g, c0, rfl, _, _, k1, k2⟩ := h.form (by simp)
    have q0 := h.cellOf 0 _ rfl
    have ha := hlast s (by simp)
    rw [Nat.add_zero] at q0
    have hln : (l ++ [s]).length = l.length + 1 := by simp
    have d1 : (s.a == 1) = false := by rw [beq_eq_false_iff_ne]; exact ha
    rw [hln] at HP k1 hl ⊢
    have hk : l.length < l.length + 1 := by omega
    have HLN := Lib.hid hln
    clear h hr hln hlast
    go_enter Try.func26, Try.ntmps26
    go_wp2_with (first
      | (go_at_call 11; refine GL.out.mono ?_; rintro e w1 ⟨rfl, rfl⟩)
      | (at_builtin; go_loud (refine wpList_append_none rfl _ _ rfl HP.out.st rfl rfl ?_)))
    go_ret
    exact ⟨_, _, rfl, HP.out, rfl, Below.refl _ _, TurnsIn.refl _ _⟩

set_option maxRecDepth 100000 in
set_option maxHeartbeats 6400000 in
theorem withLit_new {B : Nat} {w : World} (A : Option Addr) (xs : List Int) (c : Nat) (v : Value) (ss : List Stp) (h : OwnPlan w B v ss) (hB : B ≤ w.heap.size) (hlast : ∀ s, ss.getLast? = some s → s.a ≠ 1) (hl : ss.length ≤ 100000) (h1 : 1 ≤ xs.length) (h2 : xs.length ≤ 4096) (hr : Holds w B .u8 A xs) :
    Calls Try.prog 26 #[v, .slice A xs.length c] w (LitTo B w v ss (litQ (ss.map sqS) xs)) := by
  rw [litQ_len hlast]
  rw [if_neg (by intro h; rw [h] at h1; simp at h1)]
  have GL := Lib.hid (literal_yes A xs c w h1 h2 (hr.more hB))
  have hsz1 : ss.length ≤ 1000000 := by omega
  have HP := Lib.hid h
  rcases List.eq_nil_or_concat ss with rfl | ⟨l, s, rfl⟩
  · obtain ⟨A0, c0, rfl, k1, k2⟩ := h.opened
    clear h hr hlast
    go_enter Try.func26, Try.ntmps26
    go_wp2_with (first
      | (go_at_call 11; refine GL.out.mono ?_; rintro e w1 ⟨A3, c3, w3, rfl, rfl, own3, kk1, kk2, hb3⟩; have HO := Lib.hid own3; have HB := Lib.hid hb3; have H3 := Lib.hid (HP.out.below hb3); have hB3 : B ≤ w3.heap.size := Nat.le_trans hB hb3.size; clear own3 hb3 kk2)
      | (have _t := H3; clear _t; at_builtin; go_loud (refine wpList_append_step rfl _ _ rfl ⟨1, 0, xs.length, A3, c3, xs⟩ H3.out.st rfl rfl hsz1 hB3 ?_; intro A9 c9 w4 own4 tu; have HU := Lib.hid (HP.out.push (q := ⟨1, 0, xs.length, A3, c3, xs⟩) hB HB.out HO.out own4 tu); clear own4 tu)))
    go_ret
    exact ⟨_, _, rfl, HU.out.1, by simp [sqS], HU.out.2.1, HU.out.2.2⟩
  · rw [List.concat_eq_append] at *
    obtain ⟨g, c0, rfl, _, _, k1, k2⟩ := h.form (by simp)
    have q0 := h.cellOf 0 _ rfl
    have ha := hlast s (by simp)
    rw [Nat.add_zero] at q0
    have hln : (l ++ [s]).length = l.length + 1 := by simp
    have d1 : (s.a == 1) = false := by rw [beq_eq_false_iff_ne]; exact ha
    rw [hln] at HP k1 hl ⊢
    have hk : l.length < l.length + 1 := by omega
    have HLN := Lib.hid hln
    clear h hr hln hlast
    go_enter Try.func26, Try.ntmps26
    go_wp2_with (first
      | (go_at_call 11; refine GL.out.mono ?_; rintro e w1 ⟨A3, c3, w3, rfl, rfl, own3, kk1, kk2, hb3⟩; have HO := Lib.hid own3; have HB := Lib.hid hb3; have H3 := Lib.hid (HP.out.below hb3); have hB3 : B ≤ w3.heap.size := Nat.le_trans hB hb3.size; clear own3 hb3 kk2)
      | (have _t := H3; clear _t; at_builtin; go_loud (refine wpList_append_step rfl _ _ rfl ⟨1, 0, xs.length, A3, c3, xs⟩ H3.out.st rfl rfl hsz1 hB3 ?_; intro A9 c9 w4 own4 tu; have HU := Lib.hid (HP.out.push (q := ⟨1, 0, xs.length, A3, c3, xs⟩) hB HB.out HO.out own4 tu); clear own4 tu)))
    go_ret
    obtain ⟨u1, u2, u3⟩ := HU.out
    rw [HLN.out] at u1
    exact ⟨_, _, rfl, u1, by simp [sqS], u2, u3⟩

theorem withLit_any {B : Nat} {w : World} (A : Option Addr) (xs : List Int) (c : Nat) (v : Value) (ss : List Stp) (h : OwnPlan w B v ss) (hB : B ≤ w.heap.size) (hl : ss.length ≤ 100000) (h2 : xs.length ≤ 4096) (hz : ∀ s ∈ ss, s.zs.length ≤ 4096) (hr : Holds w B .u8 A xs) :
    Calls Try.prog 26 #[v, .slice A xs.length c] w (LitTo B w v ss (litQ (ss.map sqS) xs)) := by
  by_cases hlast : ∀ s, ss.getLast? = some s → s.a ≠ 1
  · by_cases hx : xs = []
    · exact withLit_none A xs c v ss h hB hlast hl hx hr
    · exact withLit_new A xs c v ss h hB hlast hl (by cases xs with | nil => exact absurd rfl hx | cons _ _ => simp) h2 hr
  · have ⟨s, hs, ha⟩ : ∃ s, ss.getLast? = some s ∧ s.a = 1 := by
      cases hq : ss.getLast? with
      | none => exact absurd (fun s h => by rw [hq] at h; cases h) hlast
      | some s => exact ⟨s, rfl, Classical.byContradiction fun hn => hlast fun t ht => by rw [hq] at ht; injection ht with ht; subst ht; exact hn⟩
    obtain ⟨l, rfl⟩ := List.getLast?_eq_some_iff.1 hs
    have := hz s (by simp)
    rw [List.map_append, List.map_singleton, litQ_last _ _ _ (show (sqS s).a = 1 from ha)]
    exact withLit_last A xs c h ha hB (by simp at hl; omega) (by omega) hr
end Go.Proofs.Ytlcnbepldkbkgaa.Dl

namespace Go.Proofs.Ytlcnbepldkbkgaa.Dl
open Go.ChangeShapes Go.WideShapes Go.ChangeAt Go.RowKit Go.Proofs.Ytlcnbepldkbkgaa.Kit Go.Proofs.Ytlcnbepldkbkgaa.Pl
open Go.Proofs.Ytlcnbepldkbkgaa.Mx (equal_all holds_cut)


set_option maxRecDepth 100000 in
set_option maxHeartbeats 6400000 in
theorem part_copy {B : Nat} {w : World} (Ao : Option Addr) (old : List Int) (co : Nat) (Ab : Option Addr) (b : List Int) (cb : Nat) (i n : Nat) (o : Int) (v : Value) (ss : List Stp) (h : OwnPlan w B v ss) (hB : B ≤ w.heap.size) (hl : ss.length ≤ 100000)
    (hro : Holds w B .u8 Ao old) (hrb : Holds w B .u8 Ab b) (hoo : Octets old) (hob : Octets b) (hco : old.length ≤ co) (hcb : b.length ≤ cb) (hold : old.length ≤ 1000000) (hb : b.length ≤ 4096) (hn : 1 ≤ n) (he : i + n ≤ b.length) (h0 : 0 ≤ i + o) (h1 : i + n + o ≤ old.length) (hq : cutL b i (i + n) = cutL old (i + o).toNat (((i + n : Nat) : Int) + o).toNat) (h8 : 8 ≤ n ∨ n = b.length) :
    Calls Try.prog 27 #[v, .slice Ao old.length co, .slice Ab b.length cb, .int .i64 i, .int .i64 ((i + n : Nat) : Int), .int .i64 o] w (LitTo B w v ss (ss.map sqS ++ [⟨2, i + o, (n : Int), []⟩])) := by
  obtain ⟨F, hF⟩ : ∃ F : Nat, (F : Int) = i + o := ⟨(i + o).toNat, by omega⟩
  have hpl := cutL_length (b := b) (i := i) he
  obtain ⟨gb, fb, rfl, _, _⟩ := hrb (by omega)
  obtain ⟨go_, fo, rfl, _, _⟩ := hro (by omega)
  have hcp := holds_cut hrb i n
  have hcl := holds_cut hro F n
  rw [show List.take n (List.drop i b) = cutL b i (i + n) by unfold cutL; rw [show i + n - i = n by omega]] at hcp
  rw [show List.take n (List.drop F old) = cutL old F (F + n) by unfold cutL; rw [show F + n - F = n by omega]] at hcl
  have hll := cutL_length (b := old) (i := F) (e := F + n) (by omega)
  rw [show i + n - i = n by omega] at hpl
  rw [show F + n - F = n by omega] at hll
  have hop := cutL_octets hob i (i + n)
  have hol := cutL_octets hoo F (F + n)
  have hF1 : (i + o).toNat = F := by omega
  have hF2 : (((i + n : Nat) : Int) + o).toNat = F + n := by omega
  rw [hF1, hF2] at hq
  generalize cutL b i (i + n) = part at *
  generalize cutL old F (F + n) = like at *
  have dq : decide (part = like) = true := decide_eq_true hq
  have GE := Lib.hid (fun W (r1 : Holds W W.heap.size .u8 (some ⟨gb, fb + i, none⟩) part) (r2 : Holds W W.heap.size .u8 (some ⟨go_, fo + F, none⟩) like) => equal_all (some ⟨gb, fb + i, none⟩) (some ⟨go_, fo + F, none⟩) part like (cb - i) (co - F) W hop hol r1 r2)
  rw [hpl, hll] at GE
  have HCP := Lib.hid hcp
  have HCL := Lib.hid hcl
  have HPL := Lib.hid hpl
  have HLL := Lib.hid hll
  have HP := Lib.hid h
  have HOP := Lib.hid hop
  have HOL := Lib.hid hol
  have e1 : IntKind.i64.wrap ((i : Int) + o) = (F : Int) := by rw [← hF]; exact IntWalk.i64_in _ (by omega)
  have e2 : IntKind.i64.wrap ((i : Int) + (n : Int) + o) = ((F + n : Nat) : Int) := by rw [show (i : Int) + (n : Int) + o = ((F + n : Nat) : Int) by omega]; exact IntWalk.i64_in _ (by omega)
  have e3 : F + n - F = n := by omega
  have e5 : (i : Int) + (n : Int) - (i : Int) = (n : Int) := by omega
  have e4 : i + n - i = n := by omega
  have c1 : i + n ≤ cb := by omega
  have c2 : F + n ≤ co := by omega
  have c3 : ¬ cb = i := by omega
  have c4 : ¬ co = F := by omega
  have c5 : i ≤ i + n := by omega
  have c6 : F ≤ F + n := by omega
  have HF := Lib.hid hF
  clear hF hcp hcl hpl hll h hro hrb hop hol hF1 hF2 hoo hob
  rw [dq] at GE
  obtain ⟨A0, c0, rfl, k1, k2⟩ := HP.out.opened
  have hsz1 : ss.length ≤ 1000000 := by omega
  clear dq hq
  go_enter Try.func27, Try.ntmps27
  go_wp2_with fail
  go_quiet (fail)
  have hp2 : OwnPlan (w.drewN nq) B _ ss := HP.out.below (below_draws (Below.refl _ _) nq)
  have HP2 := Lib.hid hp2
  have GE2 := Lib.hid (GE.out (w.drewN nq) (HCP.out.more hB) (HCL.out.more hB))
  clear e1 e2 hp2
  by_cases h9 : 8 ≤ n
  · have d1 : decide ((8 : Int) ≤ (n : Int)) = true := decide_eq_true (by omega)
    have d2 : decide (8 ≤ n) = true := decide_eq_true h9
    go_wp2_with (first
      | (go_at_call 22; (refine GE2.out.mono ?_); rintro e w1 ⟨rfl, rfl⟩)
      | (have _t := HP2; clear _t; at_builtin; go_loud (refine wpList_append_step rfl _ _ rfl ⟨2, i + o, (n : Int), none, 0, []⟩ HP2.out.st rfl rfl hsz1 hB ?_; intro A9 c9 w4 own4 tu; have HU := Lib.hid (HP2.out.push (q := ⟨2, i + o, (n : Int), none, 0, []⟩) hB (Below.refl _ _) (Own.nil _ _ _ _) own4 tu); clear own4 tu)))
    go_ret
    exact ⟨_, _, rfl, HU.out.1, by simp [sqS], (below_draws (Below.refl _ _) nq).trans HU.out.2.1, ((TurnsIn.refl _ w).drewN nq).trans HU.out.2.2⟩
  · have d1 : decide ((8 : Int) ≤ (n : Int)) = false := decide_eq_false (by omega)
    have d2 : decide (8 ≤ n) = false := decide_eq_false h9
    have d3 : ((n : Int) == (b.length : Int)) = true := by rw [beq_iff_eq]; omega
    have d4 : (n == b.length) = true := by rw [beq_iff_eq]; omega
    go_wp2_with (first
      | (go_at_call 22; (refine GE2.out.mono ?_); rintro e w1 ⟨rfl, rfl⟩)
      | (have _t := HP2; clear _t; at_builtin; go_loud (refine wpList_append_step rfl _ _ rfl ⟨2, i + o, (n : Int), none, 0, []⟩ HP2.out.st rfl rfl hsz1 hB ?_; intro A9 c9 w4 own4 tu; have HU := Lib.hid (HP2.out.push (q := ⟨2, i + o, (n : Int), none, 0, []⟩) hB (Below.refl _ _) (Own.nil _ _ _ _) own4 tu); clear own4 tu)))
    go_ret
    exact ⟨_, _, rfl, HU.out.1, by simp [sqS], (below_draws (Below.refl _ _) nq).trans HU.out.2.1, ((TurnsIn.refl _ w).drewN nq).trans HU.out.2.2⟩

set_option maxRecDepth 100000 in
set_option maxHeartbeats 6400000 in
theorem part_lit {B : Nat} {w : World} (Ao : Option Addr) (old : List Int) (co : Nat) (Ab : Option Addr) (b : List Int) (cb : Nat) (i n : Nat) (o : Int) (v : Value) (ss : List Stp) (h : OwnPlan w B v ss) (hB : B ≤ w.heap.size) (hl : ss.length ≤ 100000)
    (hro : Holds w B .u8 Ao old) (hrb : Holds w B .u8 Ab b) (hoo : Octets old) (hob : Octets b) (hco : old.length ≤ co) (hcb : b.length ≤ cb) (hold : old.length ≤ 1000000) (hb : b.length ≤ 4096) (hn : 1 ≤ n) (he : i + n ≤ b.length) (h0 : 0 ≤ i + o) (h1 : i + n + o ≤ old.length) (hz : ∀ s ∈ ss, s.zs.length ≤ 4096) (hq : ¬ (cutL b i (i + n) = cutL old (i + o).toNat (((i + n : Nat) : Int) + o).toNat ∧ (8 ≤ n ∨ n = b.length))) (h64 : n < 64) :
    Calls Try.prog 27 #[v, .slice Ao old.length co, .slice Ab b.length cb, .int .i64 i, .int .i64 ((i + n : Nat) : Int), .int .i64 o] w (LitTo B w v ss (litQ (ss.map sqS) (cutL b i (i + n)))) := by
  obtain ⟨F, hF⟩ : ∃ F : Nat, (F : Int) = i + o := ⟨(i + o).toNat, by omega⟩
  have hpl := cutL_length (b := b) (i := i) he
  obtain ⟨gb, fb, rfl, _, _⟩ := hrb (by omega)
  obtain ⟨go_, fo, rfl, _, _⟩ := hro (by omega)
  have hcp := holds_cut hrb i n
  have hcl := holds_cut hro F n
  rw [show List.take n (List.drop i b) = cutL b i (i + n) by unfold cutL; rw [show i + n - i = n by omega]] at hcp
  rw [show List.take n (List.drop F old) = cutL old F (F + n) by unfold cutL; rw [show F + n - F = n by omega]] at hcl
  have hll := cutL_length (b := old) (i := F) (e := F + n) (by omega)
  rw [show i + n - i = n by omega] at hpl
  rw [show F + n - F = n by omega] at hll
  have hop := cutL_octets hob i (i + n)
  have hol := cutL_octets hoo F (F + n)
  have hF1 : (i + o).toNat = F := by omega
  have hF2 : (((i + n : Nat) : Int) + o).toNat = F + n := by omega
  rw [hF1, hF2] at hq
  generalize cutL b i (i + n) = part at *
  generalize cutL old F (F + n) = like at *
  obtain ⟨t, ht⟩ : ∃ t, decide (part = like) = t := ⟨_, rfl⟩
  have hq2 : t = false ∨ (n < 8 ∧ n ≠ b.length) := by
    cases t with
    | false => exact .inl rfl
    | true =>
      by_cases h8 : 8 ≤ n ∨ n = b.length
      · exact absurd ⟨of_decide_eq_true ht, h8⟩ hq
      · exact .inr (by omega)
  have GE := Lib.hid (fun W (r1 : Holds W W.heap.size .u8 (some ⟨gb, fb + i, none⟩) part) (r2 : Holds W W.heap.size .u8 (some ⟨go_, fo + F, none⟩) like) => equal_all (some ⟨gb, fb + i, none⟩) (some ⟨go_, fo + F, none⟩) part like (cb - i) (co - F) W hop hol r1 r2)
  rw [hpl, hll] at GE
  have HCP := Lib.hid hcp
  have HCL := Lib.hid hcl
  have HPL := Lib.hid hpl
  have HLL := Lib.hid hll
  have HP := Lib.hid h
  have HOP := Lib.hid hop
  have HOL := Lib.hid hol
  have e1 : IntKind.i64.wrap ((i : Int) + o) = (F : Int) := by rw [← hF]; exact IntWalk.i64_in _ (by omega)
  have e2 : IntKind.i64.wrap ((i : Int) + (n : Int) + o) = ((F + n : Nat) : Int) := by rw [show (i : Int) + (n : Int) + o = ((F + n : Nat) : Int) by omega]; exact IntWalk.i64_in _ (by omega)
  have e3 : F + n - F = n := by omega
  have e5 : (i : Int) + (n : Int) - (i : Int) = (n : Int) := by omega
  have e4 : i + n - i = n := by omega
  have c1 : i + n ≤ cb := by omega
  have c2 : F + n ≤ co := by omega
  have c3 : ¬ cb = i := by omega
  have c4 : ¬ co = F := by omega
  have c5 : i ≤ i + n := by omega
  have c6 : F ≤ F + n := by omega
  have HF := Lib.hid hF
  clear hF hcp hcl hpl hll h hro hrb hop hol hF1 hF2 hoo hob
  rw [ht] at GE
  obtain ⟨A0, c0, rfl, k1, k2⟩ := HP.out.opened
  have d9 : decide ((n : Int) < 64) = true := decide_eq_true (by omega)
  have d8 : decide (n < 64) = true := decide_eq_true h64
  clear ht hq
  go_enter Try.func27, Try.ntmps27
  go_wp2_with fail
  go_quiet (fail)
  have hp2 : OwnPlan (w.drewN nq) B _ ss := HP.out.below (below_draws (Below.refl _ _) nq)
  have HP2 := Lib.hid hp2
  have GE2 := Lib.hid (GE.out (w.drewN nq) (HCP.out.more hB) (HCL.out.more hB))
  clear e1 e2 hp2
  have gw := withLit_any (w := w.drewN nq) (some ⟨gb, fb + i, none⟩) part (cb - i) _ ss HP2.out hB hl (by have := HPL.out; omega) hz HCP.out
  rw [HPL.out] at gw
  have GW := Lib.hid gw
  clear gw
  cases t with
  | false =>
    go_wp2_with (first
      | (go_at_call 22; (refine GE2.out.mono ?_); rintro e w1 ⟨rfl, rfl⟩)
      | (go_at_call 26; (refine GW.out.mono ?_); rintro e w5 ⟨v5, ss5, rfl, p5, s5, b5, t5⟩; obtain ⟨A5, c5, rfl, _, _⟩ := p5.opened; have H5 := Lib.hid p5; have S5 := Lib.hid s5; have B5 := Lib.hid b5; have T5 := Lib.hid t5; clear p5 s5 b5 t5))
    go_ret
    exact ⟨_, _, rfl, H5.out, S5.out, (below_draws (Below.refl _ _) nq).trans B5.out, ((TurnsIn.refl _ w).drewN nq).trans T5.out⟩
  | true =>
    have hn8 : n < 8 ∧ n ≠ b.length := by rcases hq2 with h | h; cases h; exact h
    have d1 : decide ((8 : Int) ≤ (n : Int)) = false := decide_eq_false (by omega)
    have d2 : decide (8 ≤ n) = false := decide_eq_false (by omega)
    have d3 : ((n : Int) == (b.length : Int)) = false := by rw [beq_eq_false_iff_ne]; omega
    have d4 : (n == b.length) = false := by rw [beq_eq_false_iff_ne]; omega
    go_wp2_with (first
      | (go_at_call 22; (refine GE2.out.mono ?_); rintro e w1 ⟨rfl, rfl⟩)
      | (go_at_call 26; (refine GW.out.mono ?_); rintro e w5 ⟨v5, ss5, rfl, p5, s5, b5, t5⟩; obtain ⟨A5, c5, rfl, _, _⟩ := p5.opened; have H5 := Lib.hid p5; have S5 := Lib.hid s5; have B5 := Lib.hid b5; have T5 := Lib.hid t5; clear p5 s5 b5 t5))
    go_ret
    exact ⟨_, _, rfl, H5.out, S5.out, (below_draws (Below.refl _ _) nq).trans B5.out, ((TurnsIn.refl _ w).drewN nq).trans T5.out⟩

theorem fill_sub (part like : List Int) (j : Nat) (hj : j < part.length) (z : Int) (hz : (part.getD j 0 - like.getD j 0) % 256 = z) :
    ((subL part like).take j ++ List.replicate (part.length - j) 0).set j z = (subL part like).take (j + 1) ++ List.replicate (part.length - (j + 1)) 0 := by
  have hl : (subL part like).length = part.length := by simp [subL]
  have h1 : ((subL part like).take j).length = j := by rw [List.length_take]; omega
  rw [List.set_append_right _ _ (by omega), h1, Nat.sub_self, show part.length - j = (part.length - (j + 1)) + 1 by omega, List.replicate_succ, List.set_cons_zero,
    List.take_succ_eq_append_getElem (by omega), List.append_assoc]
  congr 1
  simp [subL, ← hz]

set_option maxRecDepth 100000 in
set_option maxHeartbeats 6400000 in
theorem part_add {B : Nat} {w : World} (Ao : Option Addr) (old : List Int) (co : Nat) (Ab : Option Addr) (b : List Int) (cb : Nat) (i n : Nat) (o : Int) (v : Value) (ss : List Stp) (h : OwnPlan w B v ss) (hB : B ≤ w.heap.size) (hl : ss.length ≤ 100000)
    (hro : Holds w B .u8 Ao old) (hrb : Holds w B .u8 Ab b) (hoo : Octets old) (hob : Octets b) (hco : old.length ≤ co) (hcb : b.length ≤ cb) (hold : old.length ≤ 1000000) (hb : b.length ≤ 4096) (hn : 1 ≤ n) (he : i + n ≤ b.length) (h0 : 0 ≤ i + o) (h1 : i + n + o ≤ old.length) (hq : ¬ (cutL b i (i + n) = cutL old (i + o).toNat (((i + n : Nat) : Int) + o).toNat ∧ (8 ≤ n ∨ n = b.length))) (h64 : 64 ≤ n) :
    Calls Try.prog 27 #[v, .slice Ao old.length co, .slice Ab b.length cb, .int .i64 i, .int .i64 ((i + n : Nat) : Int), .int .i64 o] w (LitTo B w v ss (ss.map sqS ++ [⟨3, i + o, (n : Int), subL (cutL b i (i + n)) (cutL old (i + o).toNat (((i + n : Nat) : Int) + o).toNat)⟩])) := by
  obtain ⟨F, hF⟩ : ∃ F : Nat, (F : Int) = i + o := ⟨(i + o).toNat, by omega⟩
  have hpl := cutL_length (b := b) (i := i) he
  obtain ⟨gb, fb, rfl, _, _⟩ := hrb (by omega)
  obtain ⟨go_, fo, rfl, _, _⟩ := hro (by omega)
  have hcp := holds_cut hrb i n
  have hcl := holds_cut hro F n
  rw [show List.take n (List.drop i b) = cutL b i (i + n) by unfold cutL; rw [show i + n - i = n by omega]] at hcp
  rw [show List.take n (List.drop F old) = cutL old F (F + n) by unfold cutL; rw [show F + n - F = n by omega]] at hcl
  have hll := cutL_length (b := old) (i := F) (e := F + n) (by omega)
  rw [show i + n - i = n by omega] at hpl
  rw [show F + n - F = n by omega] at hll
  have hop := cutL_octets hob i (i + n)
  have hol := cutL_octets hoo F (F + n)
  have hF1 : (i + o).toNat = F := by omega
  have hF2 : (((i + n : Nat) : Int) + o).toNat = F + n := by omega
  rw [hF1, hF2] at hq ⊢
  generalize cutL b i (i + n) = part at *
  generalize cutL old F (F + n) = like at *
  have dq : decide (part = like) = false := decide_eq_false fun h => hq ⟨h, .inl (by omega)⟩
  have GE := Lib.hid (fun W (r1 : Holds W W.heap.size .u8 (some ⟨gb, fb + i, none⟩) part) (r2 : Holds W W.heap.size .u8 (some ⟨go_, fo + F, none⟩) like) => equal_all (some ⟨gb, fb + i, none⟩) (some ⟨go_, fo + F, none⟩) part like (cb - i) (co - F) W hop hol r1 r2)
  rw [hpl, hll] at GE
  have HCP := Lib.hid hcp
  have HCL := Lib.hid hcl
  have HPL := Lib.hid hpl
  have HLL := Lib.hid hll
  have HP := Lib.hid h
  have HOP := Lib.hid hop
  have HOL := Lib.hid hol
  have e1 : IntKind.i64.wrap ((i : Int) + o) = (F : Int) := by rw [← hF]; exact IntWalk.i64_in _ (by omega)
  have e2 : IntKind.i64.wrap ((i : Int) + (n : Int) + o) = ((F + n : Nat) : Int) := by rw [show (i : Int) + (n : Int) + o = ((F + n : Nat) : Int) by omega]; exact IntWalk.i64_in _ (by omega)
  have e3 : F + n - F = n := by omega
  have e5 : (i : Int) + (n : Int) - (i : Int) = (n : Int) := by omega
  have e4 : i + n - i = n := by omega
  have c1 : i + n ≤ cb := by omega
  have c2 : F + n ≤ co := by omega
  have c3 : ¬ cb = i := by omega
  have c4 : ¬ co = F := by omega
  have c5 : i ≤ i + n := by omega
  have c6 : F ≤ F + n := by omega
  have HF := Lib.hid hF
  clear hF hcp hcl hpl hll h hro hrb hop hol hF1 hF2 hoo hob
  rw [dq] at GE
  obtain ⟨A0, c0, rfl, k1, k2⟩ := HP.out.opened
  have d9 : decide ((n : Int) < 64) = false := decide_eq_false (by omega)
  have d8 : decide (n < 64) = false := decide_eq_false (by omega)
  have hsz1 : ss.length ≤ 1000000 := by omega
  have hsl : (subL part like).length = n := by rw [← HPL.out]; simp [subL]
  have HSL := Lib.hid hsl
  have HF0 := Lib.hid (fun j (hj : j < part.length) z hz => fill_sub part like j hj z hz)
  clear dq hq hsl
  go_enter Try.func27, Try.ntmps27
  go_wp2_with fail
  go_quiet (fail)
  have hp2 : OwnPlan (w.drewN nq) B _ ss := HP.out.below (below_draws (Below.refl _ _) nq)
  have HP2 := Lib.hid hp2
  have GE2 := Lib.hid (GE.out (w.drewN nq) (HCP.out.more hB) (HCL.out.more hB))
  clear e1 e2 hp2
  go_wp2_with (first
    | (go_at_call 22; (refine GE2.out.mono ?_); rintro e w1 ⟨rfl, rfl⟩)
    | (at_make; refine wpList_make_ints _ rfl _ _ _ rfl elem8 n n rfl rfl (by omega) (by omega) (Nat.le_refl _) (by omega) ?_; intro w1 own1 hb1 hz1))
  have own1' : Own w1 w.heap.size 5 .u8 (.slice (some ⟨w.heap.size, 0, none⟩) n n) ((subL part like).take 0 ++ List.replicate (n - 0) 0) := by simpa using own1
  have hb1' : Below w.heap.size w w1 := (below_draws (Below.refl _ _) nq).trans hb1
  have HO1 := Lib.hid own1'
  have HB1 := Lib.hid hb1'
  clear own1 own1' hb1 hb1' hz1
  go_loopw [63] (fun s wr => ∃ j : Nat, j ≤ n ∧ s = .int .i64 j ∧ Own wr w.heap.size 5 .u8 (.slice (some ⟨w.heap.size, 0, none⟩) n n) ((subL part like).take j ++ List.replicate (n - j) 0) ∧ Below w.heap.size w wr) (fun s _ => n - (intOf s).toNat)
  case atStart => exact ⟨0, Nat.zero_le _, rfl, HO1.out, HB1.out⟩
  case round =>
    obtain ⟨j, hj, rfl, own, hbr⟩ := hrel
    by_cases hlt : j < n
    · have dj : decide ((j : Int) < (n : Int)) = true := decide_eq_true (by omega)
      have dj2 : decide (j < n) = true := decide_eq_true hlt
      obtain ⟨g1, o1, ee1, _, hc1⟩ := (HCP.out.below (hbr.mono hB)) (by have := HPL.out; omega)
      obtain ⟨g2, o2, ee2, _, hc2⟩ := (HCL.out.below (hbr.mono hB)) (by have := HLL.out; omega)
      injection ee1 with ee1
      injection ee1 with x1 x2
      subst x1 x2
      injection ee2 with ee2
      injection ee2 with x1 x2
      subst x1 x2
      have cp := hc1 j (by have := HPL.out; omega)
      have cl := hc2 j (by have := HLL.out; omega)
      have hp8 := getD_octet HOP.out j
      have hl8 := getD_octet HOL.out j
      have hf := HF0.out j (by have := HPL.out; omega) _ rfl
      rw [HPL.out] at hf
      generalize part.getD j 0 = p at *
      generalize like.getD j 0 = q at *
      have hlen : n = ((subL part like).take j ++ List.replicate (n - j) 0).length := by rw [List.length_append, List.length_take, HSL.out, List.length_replicate]; omega
      have HLEN := Lib.hid hlen
      have cy := own.cellAt hlen (i := j) (by omega)
      have fy := own.frozenAt hlen j
      have hst := fun k => ((own.drewN k).stored hlen j ((p - q) % 256)).1
      rw [hf] at hst
      have HST := Lib.hid hst
      have hw8 : IntKind.u8.wrap (p - q) = (p - q) % 256 := IntKind.wrap_u8 _
      have HBR := Lib.hid hbr
      have hjn : (j : Int) < (n : Int) := by omega
      clear hc1 hc2 hst hf hlen own hbr
      go_wp2_with fail
      go_region
      all_goals
        go_wp2_with fail
        go_roundw
        case rel => exact ⟨j + 1, by omega, by go_num, HST.out _, (below_draws HBR.out _).setCell (Nat.le_refl _) _⟩
        case measure => simp [intOf] <;> omega
    · obtain rfl : j = n := by omega
      have dj : decide ((j : Int) < (j : Int)) = false := decide_eq_false (by omega)
      have dj2 : decide (j < j) = false := decide_eq_false (by omega)
      rw [List.take_of_length_le (by rw [HSL.out]; omega), Nat.sub_self, List.replicate_zero, List.append_nil] at own
      have own2 : Own wr w.heap.size 5 .u8 (slS ⟨3, i + o, (j : Int), some ⟨w.heap.size, 0, none⟩, j, subL part like⟩) (subL part like) := by unfold slS; simp only; rw [HSL.out]; exact own
      have HPr := Lib.hid (HP.out.below hbr)
      have HO2 := Lib.hid own2
      have HBR := Lib.hid hbr
      have hBr : B ≤ wr.heap.size := Nat.le_trans hB hbr.size
      clear own own2 hbr
      obtain ⟨zs, hzs⟩ : ∃ zs, subL part like = zs := ⟨_, rfl⟩
      rw [hzs] at HO2 HSL ⊢
      obtain rfl := HSL.out
      go_wp2_with (have _t := HPr; clear _t; at_builtin; go_loud (refine wpList_append_step rfl _ _ rfl ⟨3, i + o, (zs.length : Int), some ⟨w.heap.size, 0, none⟩, zs.length, zs⟩ HPr.out.st rfl rfl hsz1 hBr ?_; intro A9 c9 w4 own4 tu; have HU := Lib.hid (HP.out.push (q := ⟨3, i + o, (zs.length : Int), some ⟨w.heap.size, 0, none⟩, zs.length, zs⟩) hB HBR.out HO2.out own4 tu); clear own4 tu))
      go_ret
      exact ⟨_, _, rfl, HU.out.1, by simp [sqS], HU.out.2.1, HU.out.2.2⟩

theorem withPart_any {B : Nat} {w : World} (Ao : Option Addr) (old : List Int) (co : Nat) (Ab : Option Addr) (b : List Int) (cb : Nat) (i n : Nat) (o : Int) (v : Value) (ss : List Stp) (h : OwnPlan w B v ss) (hB : B ≤ w.heap.size) (hl : ss.length ≤ 100000)
    (hro : Holds w B .u8 Ao old) (hrb : Holds w B .u8 Ab b) (hoo : Octets old) (hob : Octets b) (hco : old.length ≤ co) (hcb : b.length ≤ cb) (hold : old.length ≤ 1000000) (hb : b.length ≤ 4096) (hn : 1 ≤ n) (he : i + n ≤ b.length) (h0 : 0 ≤ i + o) (h1 : i + n + o ≤ old.length) (hz : ∀ s ∈ ss, s.zs.length ≤ 4096) :
    Calls Try.prog 27 #[v, .slice Ao old.length co, .slice Ab b.length cb, .int .i64 i, .int .i64 ((i + n : Nat) : Int), .int .i64 o] w (LitTo B w v ss (partQ (ss.map sqS) old b i (i + n) o)) := by
  unfold partQ
  simp only
  rw [show i + n - i = n by omega]
  by_cases hq : cutL b i (i + n) = cutL old (i + o).toNat (((i + n : Nat) : Int) + o).toNat ∧ (8 ≤ n ∨ n = b.length)
  · rw [if_pos hq]
    exact part_copy Ao old co Ab b cb i n o v ss h hB hl hro hrb hoo hob hco hcb hold hb hn he h0 h1 hq.1 hq.2
  · rw [if_neg hq]
    by_cases h64 : n < 64
    · rw [if_pos h64]
      exact part_lit Ao old co Ab b cb i n o v ss h hB hl hro hrb hoo hob hco hcb hold hb hn he h0 h1 hz hq h64
    · rw [if_neg h64]
      exact part_add Ao old co Ab b cb i n o v ss h hB hl hro hrb hoo hob hco hcb hold hb hn he h0 h1 hq (by omega)
end Go.Proofs.Ytlcnbepldkbkgaa.Dl

namespace Go.Proofs.Ytlcnbepldkbkgaa.Dl
open Go.ChangeShapes Go.WideShapes Go.ChangeAt Go.RowKit Go.Proofs.Ytlcnbepldkbkgaa.Kit Go.Proofs.Ytlcnbepldkbkgaa.Pl
open Go.Proofs.Ytlcnbepldkbkgaa.Sx (holds_tail)
open Go.Proofs.Ytlcnbepldkbkgaa.Mx (runL holds_cut)
open Go.Proofs.Ytlcnbepldkbkgaa.Mt (Pc PcOk HoldsP one_bd)

theorem evalQ_oct {old : List Int} : ∀ {l : List Sq}, True := trivial
/-- No step has more bytes than all make. -/
theorem Makes.short {old : List Int} {l : List Sq} {bs : List Int} (h : Makes old l bs) : ∀ s ∈ l, s.zs.length ≤ 4096 := by
  intro s hs
  have h1 := of_decide_eq_true (List.all_eq_true.1 h.right s hs : decide _ = true)
  omega
theorem OwnPlan.holds {w : World} {B : Nat} {A : Option Addr} {n c : Nat} {ss : List Stp} {old bs : List Int} (h : OwnPlan w B (.slice A n c) ss) (hm : Makes old (ss.map sqS) bs) (hw : w.heap.size ≤ w.heap.size) : n = ss.length ∧ n ≤ c ∧ c ≤ maxLen ∧ HoldsS w A ss := by
  refine h.st.holds fun s hs => ?_
  obtain ⟨A3, c3, e, k1, k2, hh⟩ := (h.dat s hs).opened
  unfold slS at e
  injection e with e1 e2 e3
  have hin : sqS s ∈ ss.map sqS := List.mem_map_of_mem hs
  have hf := fine_of (q := sqS s) (List.all_eq_true.1 hm.right _ hin) s.A s.cap (by rw [e3]; exact k1) (by rw [e3]; exact k2) (hm.oct _ hin)
  subst e1
  exact ⟨hf, hh⟩
/-- The literal plan. -/
theorem lit_plan {w w6 w3 : World} {A3 : Option Addr} {c3 : Nat} {b : List Int} (hB6 : Below w.heap.size w w6) (own3 : Own w3 w6.heap.size 5 .u8 (.slice A3 b.length c3) b) (hk : b.length ≤ c3) (hb3 : Below w6.heap.size w6 w3) :
    OwnPlan (w3.alloc (.cells #[.int .u8 1, .int .i64 0, .int .i64 b.length, .slice A3 b.length c3] 30)) w.heap.size (.slice (some ⟨w3.heap.size, 0, none⟩) 1 1) [⟨1, 0, b.length, A3, c3, b⟩] ∧
      Below w.heap.size w (w3.alloc (.cells #[.int .u8 1, .int .i64 0, .int .i64 b.length, .slice A3 b.length c3] 30)) := by
  have h6 := hB6.size
  have h3 := hb3.size
  refine ⟨⟨World.ownsRow_lit (size := 4) w3 #[.int .u8 1, .int .i64 0, .int .i64 b.length, .slice A3 b.length c3] 1 (by omega) (by unfold maxLen; omega) rfl, ?_, by simp⟩, (hB6.trans (hb3.mono h6)).alloc (by omega) _⟩
  intro s hs
  obtain rfl : s = _ := by simpa using hs
  exact (own3.mono h6).below ((Below.refl _ _).alloc (Nat.le_refl _) _)

/-- A plan of the call's own that was made so. -/
def PlanTo (B : Nat) (w : World) (sq : List Sq) (e : Ending) (w' : World) : Prop := ∃ (v' : Value) (ss' : List Stp), e = .returned v' ∧ OwnPlan w' B v' ss' ∧ ss'.map sqS = sq ∧ Below B w w'
/-- Blocks of other types are no part of a plan. -/
theorem OwnPlan.far {w : World} {B g : Nat} {t : TypeId} {cs : Array Value} {v : Value} {ss : List Stp} (h : OwnPlan w B v ss) (hg : Block w g t cs) (h1 : 30 ≠ t) (h2 : 5 ≠ t) : ¬ footP v ss g := by
  rintro (h3 | ⟨s, hs, h3⟩)
  · exact h.st.ne_block hg h1 h3
  · exact (h.dat s hs).ne_block hg h2 h3
def MidP (w : World) (old b : List Int) (fr new f : Int) (ps : List Pc) (Q : List Sq) (j i : Nat) (v : Value) (ss : List Stp) (wr : World) : Prop :=
  OwnPlan wr w.heap.size v ss ∧ Makes old (ss.map sqS) (b.take i) ∧ i ≤ b.length ∧ planGo old b fr (ss.map sqS) i (ps.drop j) = Q ∧ Below w.heap.size w wr ∧
    ∃ e : Int, runL old.length new e (ps.drop j) f ∧ ((i : Int) = b.length ∨ (i : Int) ≤ e - fr ∨ (i = 0 ∧ ∀ p ∈ ps.drop j, fr < p.n + p.l))

set_option maxRecDepth 100000 in
set_option maxHeartbeats 12800000 in
theorem planOf_any (w : World) (Ao : Option Addr) (old : List Int) (co : Nat) (Ab : Option Addr) (b : List Int) (cb : Nat) (Ap : Option Addr) (ps : List Pc) (cp : Nat) (fr new f e0 : Int)
    (hro : Holds w w.heap.size .u8 Ao old) (hrb : Holds w w.heap.size .u8 Ab b) (hrp : HoldsP w w.heap.size Ap ps) (hoo : Octets old) (hob : Octets b) (hco : old.length ≤ co) (hcb : b.length ≤ cb) (hold : old.length ≤ 1000000) (hnew : new ≤ 1000000) (h1 : 1 ≤ b.length) (hb : b.length ≤ 4096)
    (hlp : ps.length ≤ 1000000) (hf0 : 0 ≤ fr) (hf1 : fr ≤ 1000000) (hrun : runL old.length new e0 ps f) (hd : ∀ p ∈ ps, fr < p.n + p.l) :
    Calls Try.prog 19 #[.slice Ao old.length co, .slice Ab b.length cb, .int .i64 fr, .slice Ap ps.length cp] w (PlanTo w.heap.size w (planQ old b fr ps)) := by
  obtain ⟨gb, fb, rfl, _, _⟩ := hrb (by omega)
  obtain ⟨Q, hQ⟩ : ∃ Q, planGo old b fr [] 0 ps = Q := ⟨_, rfl⟩
  have HQ := Lib.hid hQ
  have HST : Hid (MidP w old b fr new f ps Q 0 0 (.slice none 0 0) [] w) := Lib.hid ⟨OwnPlan.nil w _, by simpa using Makes.nil old, Nat.zero_le _, hQ, Below.refl _ _, e0, hrun, .inr (.inr ⟨rfl, hd⟩)⟩
  have HRB := Lib.hid hrb
  have HRO := Lib.hid hro
  have HRP := Lib.hid hrp
  clear hQ hrun hd hrb hro hrp
  go_enter Try.func19, Try.ntmps19
  go_wp2_with fail
  go_loopw [9, 10, 17] (fun l a s wr => ∃ (j i : Nat) (ss : List Stp), j ≤ ps.length ∧ s = .int .i64 j ∧ a = .int .i64 i ∧ MidP w old b fr new f ps Q j i l ss wr) (fun _ _ s _ => ps.length - (intOf s).toNat)
  case atStart => exact ⟨0, 0, [], Nat.zero_le _, rfl, rfl, HST.out⟩
  case round =>
    obtain ⟨j, i, ss, hj, rfl, rfl, OP, hmk, hi, hgo, hB, e, hrun, hd⟩ := hrel
    have hfew : ss.length ≤ 100000 := by have := hmk.len; rw [List.length_map, List.length_take] at this; omega
    have hsh := fun s (hs : s ∈ ss) => hmk.short (sqS s) (List.mem_map_of_mem hs)
    have HSH := Lib.hid (show ∀ s ∈ ss, s.zs.length ≤ 4096 from hsh)
    clear hsh HST
    by_cases hlt : j < ps.length
    · have dj : decide ((j : Int) < (ps.length : Int)) = true := decide_eq_true (by omega)
      have dj2 : decide (j < ps.length) = true := decide_eq_true hlt
      have hdr : ps.drop j = ps[j] :: ps.drop (j + 1) := List.drop_eq_getElem_cons hlt
      obtain ⟨bp, fp, rfl, hbp, hcp⟩ := (HRP.out.below hB) (by omega)
      obtain ⟨p0, p1, p2⟩ := hcp j ps[j] (List.getElem?_eq_getElem hlt)
      rw [hdr] at hrun hgo hd
      rw [planGo] at hgo
      obtain ⟨r1, r2, r3⟩ := hrun
      have hbd := one_bd r1
      have hmem : ps[j] = ps[j] := rfl
      clear hdr hcp r1 hmem
      generalize ps[j] = p at *
      obtain ⟨pn, po, pl⟩ := p
      simp only at p0 p1 p2 hbd hgo hd r2 r3
      have hd2 : (i : Int) = b.length ∨ (i : Int) ≤ e - fr ∨ (i = 0 ∧ fr < pn + pl) := by
        rcases hd with hd | hd | hd
        · exact .inl hd
        · exact .inr (.inl hd)
        · exact .inr (.inr ⟨hd.1, hd.2 ⟨pn, po, pl⟩ (by simp)⟩)
      obtain ⟨BG, hBG⟩ : ∃ BG : Nat, (if pn - fr < (i : Int) then (i : Int) else pn - fr) = (BG : Int) := ⟨(if pn - fr < (i : Int) then (i : Int) else pn - fr).toNat, by split <;> omega⟩
      obtain ⟨EN, hEN⟩ : ∃ EN : Int, (if (b.length : Int) < pn + pl - fr then (b.length : Int) else pn + pl - fr) = EN := ⟨_, rfl⟩
      rw [show (max (pn - fr) (i : Int)).toNat = BG by split at hBG <;> omega, show (min (pn + pl - fr) (b.length : Int)).toNat = EN.toNat by split at hEN <;> omega] at hgo
      have w1 : IntKind.i64.wrap (pn - fr) = pn - fr := IntWalk.i64_in _ (by omega)
      have w2 : IntKind.i64.wrap (pn + pl) = pn + pl := IntWalk.i64_in _ (by omega)
      have w3 : IntKind.i64.wrap (pn + pl - fr) = pn + pl - fr := IntWalk.i64_in _ (by omega)
      have blk := Block.new wr 46 #[.int .i64 pn, .int .i64 po, .int .i64 pl]
      have q0 := blk.cell 0
      have q1 := blk.cell 1
      have q2 := blk.cell 2
      simp at q0 q1 q2
      have hB1 := (hB.alloc hB.size (.cells #[.int .i64 pn, .int .i64 po, .int .i64 pl] 46))
      have HR1 := Lib.hid (⟨r2, r3⟩ : e ≤ pn ∧ runL old.length new (pn + pl) (ps.drop (j + 1)) f)
      clear hd r3
      by_cases hg : b.length ≤ BG
      · have dg : decide ((b.length : Int) ≤ (BG : Int)) = true := decide_eq_true (by omega)
        have dg2 : decide (b.length ≤ BG) = true := decide_eq_true hg
        rw [if_pos hg] at hgo
        have HGO1 := Lib.hid hgo
        clear hgo
        go_wp2_with fail
        go_quiet (fail)
        have HOPW := Lib.hid (OP.below (below_draws ((Below.refl _ _).alloc (Nat.le_refl _) (.cells #[.int .i64 pn, .int .i64 po, .int .i64 pl] 46)) nq))
        have HBW := Lib.hid (below_draws hB1 nq)
        have hgo := HGO1.out
        clear OP hB hB1 HGO1 blk q0 q1 q2 p0 p1 p2 hBG hEN w1 w2 w3
        have hlit := hmk.lit (bs := b.drop i) (fun x hx => hob x (List.mem_of_mem_drop hx)) (by rw [List.length_take, List.length_drop]; omega)
        rw [List.take_append_drop] at hlit
        obtain ⟨L, hL⟩ : ∃ L, litQ (ss.map sqS) (b.drop i) = L := ⟨_, rfl⟩
        rw [hL] at hlit hgo
        have HLIT := Lib.hid hlit
        have HGO := Lib.hid hgo
        have GW := Lib.hid (fun A' c' (hA : Holds ((wr.alloc (.cells #[.int .i64 pn, .int .i64 po, .int .i64 pl] 46)).drewN nq) w.heap.size .u8 A' (b.drop i)) => withLit_any (w := ((wr.alloc (.cells #[.int .i64 pn, .int .i64 po, .int .i64 pl] 46)).drewN nq)) A' (b.drop i) c' _ ss HOPW.out (HBW.out.size) hfew (by rw [List.length_drop]; omega) HSH.out hA)
        rw [hL, List.length_drop] at GW
        have HTL := Lib.hid (holds_tail (HRB.out.below HBW.out) i)
        have HNIL := Lib.hid (fun (A' : Option Addr) (h : b.length = i) => (show Holds ((wr.alloc (.cells #[.int .i64 pn, .int .i64 po, .int .i64 pl] 46)).drewN nq) w.heap.size .u8 A' (b.drop i) from fun hx => by rw [List.length_drop] at hx; omega))
        clear hL hlit hgo
        obtain ⟨A0, c0, rfl, k1, k2⟩ := HOPW.out.opened
        by_cases hci : cb = i
        · have gw2 := GW.out (some ⟨gb, fb, none⟩) 0 (HNIL.out _ (by omega))
          have e0 : b.length - i = 0 := by omega
          have e00 : cb - i = 0 := by omega
          rw [e0] at gw2
          have GW2 := Lib.hid gw2
          clear GW gw2
          go_wp2_with fail
          refine GW2.out.mono ?_
          rintro e w5 ⟨v5, ss5, rfl, p5, s5, b5, _⟩
          have hm5 := HLIT.out
          rw [← s5] at hm5
          have hb5 : Below w.heap.size w w5 := HBW.out.trans b5
          obtain ⟨A5, c5, rfl, k5, m5⟩ := p5.opened
          obtain ⟨_, q1, q2, q3⟩ := p5.holds hm5 (Nat.le_refl _)
          have hle5 : ss5.length ≤ 4096 := by have := hm5.len; rw [List.length_map] at this; omega
          have gs := size_any A5 ss5 c5 w5 (by omega) q1 q2 q3
          rw [if_pos (by rw [rightS_q]; exact hm5.right), putB_q] at gs
          obtain ⟨Z, hZ⟩ : ∃ Z : Nat, (putBQ (ss5.map sqS)).length = Z := ⟨_, rfl⟩
          rw [hZ] at gs
          have HZ := Lib.hid hZ
          have GS := Lib.hid gs
          have H5 := Lib.hid p5
          have S5 := Lib.hid s5
          have HB5 := Lib.hid hb5
          clear gs hZ p5 s5 hb5 b5 hm5 q1 q2 q3 GW2
          have hpq : planQ old b fr ps = if b.length + 12 < Z then [⟨1, 0, (b.length : Int), b⟩] else ss5.map sqS := by
            unfold planQ
            simp only
            rw [HQ.out, ← HGO.out, ← S5.out, HZ.out]
          by_cases hz : b.length + 12 < Z
          · have d7 : decide ((b.length : Int) + 12 < (Z : Int)) = true := decide_eq_true (by omega)
            have d8 : decide (b.length + 12 < Z) = true := decide_eq_true hz
            rw [if_pos hz] at hpq
            have HPQ := Lib.hid hpq
            clear hpq
            go_wp2_with (first
              | (go_at_call 28; refine GS.out.mono ?_; rintro e w6 ⟨rfl, hb6⟩; have HB6 := Lib.hid (HB5.out.trans (hb6.mono HB5.out.size)); clear hb6; have GL := Lib.hid (fun c => literal_yes (some ⟨gb, fb, none⟩) b c w6 (by omega) hb ((HRB.out.below HB6.out).more HB6.out.size)))
              | (go_at_call 11; refine (GL.out _).mono ?_; rintro e w7 ⟨A3, c3, w3, rfl, rfl, own3, kk1, kk2, hb3⟩; have HLP := Lib.hid (lit_plan HB6.out own3 kk1 hb3); clear own3 hb3 kk2))
            go_ret
            exact ⟨_, _, rfl, HLP.out.1, by rw [HPQ.out]; rfl, HLP.out.2⟩
          · have d7 : decide ((b.length : Int) + 12 < (Z : Int)) = false := decide_eq_false (by omega)
            have d8 : decide (b.length + 12 < Z) = false := decide_eq_false hz
            rw [if_neg hz] at hpq
            have HPQ := Lib.hid hpq
            clear hpq
            go_wp2_with (go_at_call 28; refine GS.out.mono ?_; rintro e w6 ⟨rfl, hb6⟩)
            go_ret
            exact ⟨_, _, rfl, H5.out.below hb6, HPQ.out.symm, HB5.out.trans (hb6.mono HB5.out.size)⟩
        · have GW2 := Lib.hid (GW.out (some ⟨gb, fb + i, none⟩) (cb - i) HTL.out)
          clear GW
          go_wp2_with fail
          refine GW2.out.mono ?_
          rintro e w5 ⟨v5, ss5, rfl, p5, s5, b5, _⟩
          have hm5 := HLIT.out
          rw [← s5] at hm5
          have hb5 : Below w.heap.size w w5 := HBW.out.trans b5
          obtain ⟨A5, c5, rfl, k5, m5⟩ := p5.opened
          obtain ⟨_, q1, q2, q3⟩ := p5.holds hm5 (Nat.le_refl _)
          have hle5 : ss5.length ≤ 4096 := by have := hm5.len; rw [List.length_map] at this; omega
          have gs := size_any A5 ss5 c5 w5 (by omega) q1 q2 q3
          rw [if_pos (by rw [rightS_q]; exact hm5.right), putB_q] at gs
          obtain ⟨Z, hZ⟩ : ∃ Z : Nat, (putBQ (ss5.map sqS)).length = Z := ⟨_, rfl⟩
          rw [hZ] at gs
          have HZ := Lib.hid hZ
          have GS := Lib.hid gs
          have H5 := Lib.hid p5
          have S5 := Lib.hid s5
          have HB5 := Lib.hid hb5
          clear gs hZ p5 s5 hb5 b5 hm5 q1 q2 q3 GW2
          have hpq : planQ old b fr ps = if b.length + 12 < Z then [⟨1, 0, (b.length : Int), b⟩] else ss5.map sqS := by
            unfold planQ
            simp only
            rw [HQ.out, ← HGO.out, ← S5.out, HZ.out]
          by_cases hz : b.length + 12 < Z
          · have d7 : decide ((b.length : Int) + 12 < (Z : Int)) = true := decide_eq_true (by omega)
            have d8 : decide (b.length + 12 < Z) = true := decide_eq_true hz
            rw [if_pos hz] at hpq
            have HPQ := Lib.hid hpq
            clear hpq
            go_wp2_with (first
              | (go_at_call 28; refine GS.out.mono ?_; rintro e w6 ⟨rfl, hb6⟩; have HB6 := Lib.hid (HB5.out.trans (hb6.mono HB5.out.size)); clear hb6; have GL := Lib.hid (fun c => literal_yes (some ⟨gb, fb, none⟩) b c w6 (by omega) hb ((HRB.out.below HB6.out).more HB6.out.size)))
              | (go_at_call 11; refine (GL.out _).mono ?_; rintro e w7 ⟨A3, c3, w3, rfl, rfl, own3, kk1, kk2, hb3⟩; have HLP := Lib.hid (lit_plan HB6.out own3 kk1 hb3); clear own3 hb3 kk2))
            go_ret
            exact ⟨_, _, rfl, HLP.out.1, by rw [HPQ.out]; rfl, HLP.out.2⟩
          · have d7 : decide ((b.length : Int) + 12 < (Z : Int)) = false := decide_eq_false (by omega)
            have d8 : decide (b.length + 12 < Z) = false := decide_eq_false hz
            rw [if_neg hz] at hpq
            have HPQ := Lib.hid hpq
            clear hpq
            go_wp2_with (go_at_call 28; refine GS.out.mono ?_; rintro e w6 ⟨rfl, hb6⟩)
            go_ret
            exact ⟨_, _, rfl, H5.out.below hb6, HPQ.out.symm, HB5.out.trans (hb6.mono HB5.out.size)⟩
      · have dg : decide ((b.length : Int) ≤ (BG : Int)) = false := decide_eq_false (by omega)
        have dg2 : decide (b.length ≤ BG) = false := decide_eq_false hg
        rw [if_neg hg] at hgo
        have hBE : i ≤ BG ∧ (BG : Int) < EN ∧ EN ≤ b.length ∧ 0 ≤ (BG : Int) + (po - pn + fr) ∧ EN + (po - pn + fr) ≤ old.length ∧ (EN = b.length ∨ EN ≤ pn + pl - fr) := by split at hBG <;> split at hEN <;> omega
        obtain ⟨E, rfl⟩ : ∃ E : Nat, EN = (E : Int) := ⟨EN.toNat, by omega⟩
        rw [Int.toNat_natCast] at hgo
        have HGO1 := Lib.hid hgo
        have HMK := Lib.hid hmk
        clear hgo hmk hd2
        go_wp2_with fail
        go_quiet (fail)
        have HOPW := Lib.hid (OP.below (below_draws ((Below.refl _ _).alloc (Nat.le_refl _) (.cells #[.int .i64 pn, .int .i64 po, .int .i64 pl] 46)) nq))
        have HBW := Lib.hid (below_draws hB1 nq)
        have HBLK := Lib.hid (blk.drewN nq)
        have hcut := holds_cut (HRB.out.below HBW.out) i (BG - i)
        have gw := withLit_any (w := ((wr.alloc (.cells #[.int .i64 pn, .int .i64 po, .int .i64 pl] 46)).drewN nq)) (some ⟨gb, fb + i, none⟩) (cutL b i BG) (cb - i) _ ss HOPW.out HBW.out.size hfew (by rw [cutL_length (by omega)]; omega) HSH.out hcut
        rw [cutL_length (show BG ≤ b.length by omega)] at gw
        have GW := Lib.hid gw
        have x1 : ¬ cb = i := by omega
        have x2 : i ≤ BG := hBE.1
        have x3 : BG ≤ cb := by omega
        clear gw hcut OP hB hB1 blk q0 q1 q2 p0 p1 p2 hBG hEN w1 w2 w3
        go_wp2_with fail
        refine GW.out.mono ?_
        rintro e w5 ⟨v5, ss5, rfl, p5, s5, b5, t5⟩
        have hmk5 := HMK.out.lit (cutL_octets hob i BG) (by rw [List.length_take, cutL_length (by omega)]; omega)
        rw [take_cut hBE.1, ← s5] at hmk5
        have hgo5 := HGO1.out
        rw [← s5] at hgo5
        have blk5 : Block w5 wr.heap.size 46 #[.int .i64 pn, .int .i64 po, .int .i64 pl] := HBLK.out.out t5 (HOPW.out.far HBLK.out (by decide) (by decide))
        have y0 := blk5.cell 0
        have y1 := blk5.cell 1
        simp at y0 y1
        have HB5 := Lib.hid (HBW.out.trans b5)
        have hfew5 : ss5.length ≤ 100000 := by have := hmk5.len; rw [List.length_map, List.length_take] at this; omega
        have gp := withPart_any (w := w5) Ao old co (some ⟨gb, fb, none⟩) b cb BG (E - BG) (po - pn + fr) v5 ss5 p5 HB5.out.size hfew5 (HRO.out.below HB5.out) (HRB.out.below HB5.out) hoo hob hco hcb hold hb (by omega) (by omega) hBE.2.2.2.1 (by omega) (fun s hs => hmk5.short (sqS s) (List.mem_map_of_mem hs))
        rw [show BG + (E - BG) = E by omega] at gp
        have GP := Lib.hid gp
        have HMK5 := Lib.hid hmk5
        have HGO5 := Lib.hid hgo5
        clear gp hmk5 hgo5 p5 s5 b5 t5 blk5
        go_wp2_with fail
        refine GP.out.mono ?_
        rintro e w6 ⟨v6, ss6, rfl, p6, s6, b6, t6⟩
        have hmk6 := HMK5.out.part (i := BG) (e := E) (o := po - pn + fr) hoo hob (by omega) (by omega) hb hBE.2.2.2.1 hBE.2.2.2.2.1 (by omega) (by rw [List.length_take]; omega)
        rw [take_cut (by omega), ← s6] at hmk6
        have hgo6 := HGO5.out
        rw [← s6] at hgo6
        have HH := Lib.hid (show MidP w old b fr new f ps Q (j + 1) E v6 ss6 w6 from ⟨p6, hmk6, by omega, hgo6, HB5.out.trans b6, pn + pl, HR1.out.2, by omega⟩)
        clear hmk6 hgo6 p6 s6 b6 t6
        go_wp2_with fail
        go_roundw
        case rel => exact ⟨j + 1, E, ss6, by omega, by go_num, rfl, HH.out⟩
        case measure => simp [intOf] <;> omega
    · have dj : decide ((j : Int) < (ps.length : Int)) = false := decide_eq_false (by omega)
      have dj2 : decide (j < ps.length) = false := decide_eq_false hlt
      obtain rfl : j = ps.length := by omega
      rw [List.drop_length, planGo] at hgo
      have HOP := Lib.hid OP
      have HB := Lib.hid hB
      clear OP hB hrun hd
      have hlit := hmk.lit (bs := b.drop i) (fun x hx => hob x (List.mem_of_mem_drop hx)) (by rw [List.length_take, List.length_drop]; omega)
      rw [List.take_append_drop] at hlit
      obtain ⟨L, hL⟩ : ∃ L, litQ (ss.map sqS) (b.drop i) = L := ⟨_, rfl⟩
      rw [hL] at hlit hgo
      have HLIT := Lib.hid hlit
      have HGO := Lib.hid hgo
      have GW := Lib.hid (fun A' c' (hA : Holds wr w.heap.size .u8 A' (b.drop i)) => withLit_any (w := wr) A' (b.drop i) c' _ ss HOP.out (HB.out.size) hfew (by rw [List.length_drop]; omega) HSH.out hA)
      rw [hL, List.length_drop] at GW
      have HTL := Lib.hid (holds_tail (HRB.out.below HB.out) i)
      have HNIL := Lib.hid (fun (A' : Option Addr) (h : b.length = i) => (show Holds wr w.heap.size .u8 A' (b.drop i) from fun hx => by rw [List.length_drop] at hx; omega))
      clear hL hlit hgo
      obtain ⟨A0, c0, rfl, k1, k2⟩ := HOP.out.opened
      by_cases hci : cb = i
      · have gw2 := GW.out (some ⟨gb, fb, none⟩) 0 (HNIL.out _ (by omega))
        have e0 : b.length - i = 0 := by omega
        have e00 : cb - i = 0 := by omega
        rw [e0] at gw2
        have GW2 := Lib.hid gw2
        clear GW gw2
        go_wp2_with fail
        refine GW2.out.mono ?_
        rintro e w5 ⟨v5, ss5, rfl, p5, s5, b5, _⟩
        have hm5 := HLIT.out
        rw [← s5] at hm5
        have hb5 : Below w.heap.size w w5 := HB.out.trans b5
        obtain ⟨A5, c5, rfl, k5, m5⟩ := p5.opened
        obtain ⟨_, q1, q2, q3⟩ := p5.holds hm5 (Nat.le_refl _)
        have hle5 : ss5.length ≤ 4096 := by have := hm5.len; rw [List.length_map] at this; omega
        have gs := size_any A5 ss5 c5 w5 (by omega) q1 q2 q3
        rw [if_pos (by rw [rightS_q]; exact hm5.right), putB_q] at gs
        obtain ⟨Z, hZ⟩ : ∃ Z : Nat, (putBQ (ss5.map sqS)).length = Z := ⟨_, rfl⟩
        rw [hZ] at gs
        have HZ := Lib.hid hZ
        have GS := Lib.hid gs
        have H5 := Lib.hid p5
        have S5 := Lib.hid s5
        have HB5 := Lib.hid hb5
        clear gs hZ p5 s5 hb5 b5 hm5 q1 q2 q3 GW2
        have hpq : planQ old b fr ps = if b.length + 12 < Z then [⟨1, 0, (b.length : Int), b⟩] else ss5.map sqS := by
          unfold planQ
          simp only
          rw [HQ.out, ← HGO.out, ← S5.out, HZ.out]
        by_cases hz : b.length + 12 < Z
        · have d7 : decide ((b.length : Int) + 12 < (Z : Int)) = true := decide_eq_true (by omega)
          have d8 : decide (b.length + 12 < Z) = true := decide_eq_true hz
          rw [if_pos hz] at hpq
          have HPQ := Lib.hid hpq
          clear hpq
          go_wp2_with (first
            | (go_at_call 28; refine GS.out.mono ?_; rintro e w6 ⟨rfl, hb6⟩; have HB6 := Lib.hid (HB5.out.trans (hb6.mono HB5.out.size)); clear hb6; have GL := Lib.hid (fun c => literal_yes (some ⟨gb, fb, none⟩) b c w6 (by omega) hb ((HRB.out.below HB6.out).more HB6.out.size)))
            | (go_at_call 11; refine (GL.out _).mono ?_; rintro e w7 ⟨A3, c3, w3, rfl, rfl, own3, kk1, kk2, hb3⟩; have HLP := Lib.hid (lit_plan HB6.out own3 kk1 hb3); clear own3 hb3 kk2))
          go_ret
          exact ⟨_, _, rfl, HLP.out.1, by rw [HPQ.out]; rfl, HLP.out.2⟩
        · have d7 : decide ((b.length : Int) + 12 < (Z : Int)) = false := decide_eq_false (by omega)
          have d8 : decide (b.length + 12 < Z) = false := decide_eq_false hz
          rw [if_neg hz] at hpq
          have HPQ := Lib.hid hpq
          clear hpq
          go_wp2_with (go_at_call 28; refine GS.out.mono ?_; rintro e w6 ⟨rfl, hb6⟩)
          go_ret
          exact ⟨_, _, rfl, H5.out.below hb6, HPQ.out.symm, HB5.out.trans (hb6.mono HB5.out.size)⟩
      · have GW2 := Lib.hid (GW.out (some ⟨gb, fb + i, none⟩) (cb - i) HTL.out)
        clear GW
        go_wp2_with fail
        refine GW2.out.mono ?_
        rintro e w5 ⟨v5, ss5, rfl, p5, s5, b5, _⟩
        have hm5 := HLIT.out
        rw [← s5] at hm5
        have hb5 : Below w.heap.size w w5 := HB.out.trans b5
        obtain ⟨A5, c5, rfl, k5, m5⟩ := p5.opened
        obtain ⟨_, q1, q2, q3⟩ := p5.holds hm5 (Nat.le_refl _)
        have hle5 : ss5.length ≤ 4096 := by have := hm5.len; rw [List.length_map] at this; omega
        have gs := size_any A5 ss5 c5 w5 (by omega) q1 q2 q3
        rw [if_pos (by rw [rightS_q]; exact hm5.right), putB_q] at gs
        obtain ⟨Z, hZ⟩ : ∃ Z : Nat, (putBQ (ss5.map sqS)).length = Z := ⟨_, rfl⟩
        rw [hZ] at gs
        have HZ := Lib.hid hZ
        have GS := Lib.hid gs
        have H5 := Lib.hid p5
        have S5 := Lib.hid s5
        have HB5 := Lib.hid hb5
        clear gs hZ p5 s5 hb5 b5 hm5 q1 q2 q3 GW2
        have hpq : planQ old b fr ps = if b.length + 12 < Z then [⟨1, 0, (b.length : Int), b⟩] else ss5.map sqS := by
          unfold planQ
          simp only
          rw [HQ.out, ← HGO.out, ← S5.out, HZ.out]
        by_cases hz : b.length + 12 < Z
        · have d7 : decide ((b.length : Int) + 12 < (Z : Int)) = true := decide_eq_true (by omega)
          have d8 : decide (b.length + 12 < Z) = true := decide_eq_true hz
          rw [if_pos hz] at hpq
          have HPQ := Lib.hid hpq
          clear hpq
          go_wp2_with (first
            | (go_at_call 28; refine GS.out.mono ?_; rintro e w6 ⟨rfl, hb6⟩; have HB6 := Lib.hid (HB5.out.trans (hb6.mono HB5.out.size)); clear hb6; have GL := Lib.hid (fun c => literal_yes (some ⟨gb, fb, none⟩) b c w6 (by omega) hb ((HRB.out.below HB6.out).more HB6.out.size)))
            | (go_at_call 11; refine (GL.out _).mono ?_; rintro e w7 ⟨A3, c3, w3, rfl, rfl, own3, kk1, kk2, hb3⟩; have HLP := Lib.hid (lit_plan HB6.out own3 kk1 hb3); clear own3 hb3 kk2))
          go_ret
          exact ⟨_, _, rfl, HLP.out.1, by rw [HPQ.out]; rfl, HLP.out.2⟩
        · have d7 : decide ((b.length : Int) + 12 < (Z : Int)) = false := decide_eq_false (by omega)
          have d8 : decide (b.length + 12 < Z) = false := decide_eq_false hz
          rw [if_neg hz] at hpq
          have HPQ := Lib.hid hpq
          clear hpq
          go_wp2_with (go_at_call 28; refine GS.out.mono ?_; rintro e w6 ⟨rfl, hb6⟩)
          go_ret
          exact ⟨_, _, rfl, H5.out.below hb6, HPQ.out.symm, HB5.out.trans (hb6.mono HB5.out.size)⟩
end Go.Proofs.Ytlcnbepldkbkgaa.Dl

namespace Go.Proofs.Ytlcnbepldkbkgaa.Dl

theorem blocks_cover {n b : Int} (hn : 0 ≤ n) (hb : 1 ≤ b) : n ≤ blocksI n b * b ∧ (∀ i, i < blocksI n b - 1 → i * b + b ≤ n) := by
  have hd := div_bd hn hb
  obtain ⟨k1, k2, k3, k4, k5, k6⟩ := hd
  have e : blocksI n b = n / b + if 0 < n % b then 1 else 0 := if_neg (by omega)
  rw [e]
  constructor
  · rw [Int.add_mul, Int.mul_comm (n / b) b]
    generalize b * (n / b) = p at *
    split <;> omega
  · intro i hi
    have h1 : i ≤ n / b - 1 := by split at hi <;> omega
    have h2 : i * b ≤ (n / b - 1) * b := Int.mul_le_mul_of_nonneg_right h1 (by omega)
    rw [Int.sub_mul, Int.one_mul, Int.mul_comm (n / b) b] at h2
    generalize b * (n / b) = p at *
    omega
theorem blockL_zero {xs : List Int} {b : Int} : (blockL xs b 0).length = 0 ↔ (b < 1 ∨ xs.length = 0) := by
  unfold blockL
  by_cases hb : b < 1
  · have e : blocksI xs.length b = 0 := if_pos (.inr hb)
    rw [e]
    simp [hb]
  · have hc := blocks_cover (n := xs.length) (b := b) (by omega) (by omega)
    have hbd := blocksI_bd (n := xs.length) (b := b)
    by_cases h0 : xs.length = 0
    · have e : blocksI xs.length b = 0 := by
        rw [h0]
        simp [blocksI]
      rw [e]
      simp [h0]
    · have h1 : ¬ ((0 : Int) < 0 ∨ blocksI xs.length b ≤ 0) := by
        intro h
        have h2 : blocksI xs.length b ≤ 0 := by omega
        have h3 : blocksI xs.length b * b ≤ 0 * b := Int.mul_le_mul_of_nonneg_right h2 (by omega)
        rw [Int.zero_mul] at h3
        omega
      rw [if_neg h1, Int.zero_mul, List.length_take, List.length_drop]
      omega
theorem blockL_next {xs : List Int} {B j : Nat} (hB : 1 ≤ B) (hj : (j : Int) < blocksI xs.length B) :
    xs.take (j * B) ++ blockL xs B j = xs.take ((j + 1) * B) ∧ 1 ≤ (blockL xs B j).length ∧ (blockL xs B j).length ≤ B ∧ ((j : Int) < blocksI xs.length B - 1 → (blockL xs B j).length = B) := by
  have hi := begins_in (n := xs.length) (b := B) (i := j) (by omega) hj
  have hc := blocks_cover (n := xs.length) (b := B) (by omega) (by omega)
  have e : blockL xs B j = (xs.drop (j * B)).take B := by
    unfold blockL
    rw [if_neg (by omega), ← Int.natCast_mul, Int.toNat_natCast, Int.toNat_natCast]
  have hK : ((j * B : Nat) : Int) = (j : Int) * B := Int.natCast_mul j B
  rw [e]
  refine ⟨?_, ?_, ?_, fun h => ?_⟩
  · rw [Nat.add_mul, Nat.one_mul, List.take_add]
  · rw [List.length_take, List.length_drop]; omega
  · rw [List.length_take]; omega
  · have := hc.2 j h
    rw [List.length_take, List.length_drop]
    omega
theorem take_all {xs : List Int} {B N : Nat} (hB : 1 ≤ B) (hN : (N : Int) = blocksI xs.length B) : xs.take (N * B) = xs := by
  have hc := blocks_cover (n := xs.length) (b := B) (by omega) (by omega)
  have hK : ((N * B : Nat) : Int) = (N : Int) * B := Int.natCast_mul N B
  rw [← hN] at hc
  exact List.take_of_length_le (by omega)
end Go.Proofs.Ytlcnbepldkbkgaa.Dl

namespace Go.Proofs.Ytlcnbepldkbkgaa.Dl
open Go.ChangeShapes Go.WideShapes Go.ChangeAt Go.RowKit Go.Proofs.Ytlcnbepldkbkgaa.Kit Go.Proofs.Ytlcnbepldkbkgaa.Pl
open Go.Proofs.Ytlcnbepldkbkgaa.Mx (runL holds_cut FoundL find_cap)
open Go.Proofs.Ytlcnbepldkbkgaa.Mt (Pc PcOk HoldsP one_bd)

/-- Pieces end one behind the other. -/
theorem runL_ends {old new : Int} : ∀ {ps : List Pc} {e f x : Int}, runL old new e ps f → x < e → ∀ p ∈ ps, x < p.n + p.l
  | [], _, _, _, _, _, p, hp => by simp at hp
  | q :: qs, e, f, x, ⟨h1, h2, h3⟩, hx, p, hp => by
    have hb := one_bd h1
    rcases List.mem_cons.1 hp with rfl | hp
    · omega
    · exact runL_ends h3 (by omega) p hp
theorem runL_ahead {old new : Int} {ps : List Pc} {e f x : Int} (h : runL old new e ps f) (hh : ∀ p, ps.head? = some p → x < p.n + p.l) : ∀ p ∈ ps, x < p.n + p.l := by
  cases ps with
  | nil => intro p hp; simp at hp
  | cons q qs =>
    intro p hp
    have hq := hh q rfl
    rcases List.mem_cons.1 hp with rfl | hp
    · exact hq
    · exact runL_ends h.2.2 hq p hp
theorem ahead_stay {fr : Int} {ps : List Pc} (h : ∀ p, ps.head? = some p → fr < p.n + p.l) : aheadP fr ps = ps := by
  cases ps with
  | nil => rfl
  | cons q qs =>
    have := h q rfl
    unfold aheadP
    rw [List.dropWhile_cons_of_neg (by simp; omega)]
theorem ahead_drop {fr fr' : Int} {p : Pc} {ps : List Pc} (h : p.n + p.l ≤ fr) (hf : fr ≤ fr') : aheadP fr' (p :: ps) = aheadP fr' ps := by
  unfold aheadP
  rw [List.dropWhile_cons_of_pos (by simp; omega)]
theorem holdsP_tail {w : World} {B b off : Nat} {p : Pc} {ps : List Pc} (h : HoldsP w B (some ⟨b, off, none⟩) (p :: ps)) : HoldsP w B (some ⟨b, off + 3, none⟩) ps := by
  intro hx
  obtain ⟨b', off', e, hb, hc⟩ := h (by simp)
  injection e with e
  injection e with e1 e2
  subst e1 e2
  refine ⟨b, off + 3, rfl, hb, fun i q hi => ?_⟩
  have := hc (i + 1) q (by simpa using hi)
  rw [show off + 3 + i * 3 = off + (i + 1) * 3 by omega]
  exact this

theorem steps_block {w : World} {B g : Nat} {v : Value} {ss : List Stp} (h : OwnSteps w B v ss) (hv : v.ownBlock = some g) : ∃ cs, Block w g 30 cs := by
  rcases h.2 with ⟨rfl, _⟩ | ⟨g', cap, cur, rfl, _, hh, _⟩
  · simp [Value.ownBlock] at hv
  · obtain rfl : g' = g := by simpa [Value.ownBlock] using hv
    exact ⟨cur, hh⟩
theorem own_is_block8 {w : World} {B g : Nat} {e : TypeId} {k : IntKind} {v : Value} {xs : List Int} (h : Own w B e k v xs) (hv : v.ownBlock = some g) : ∃ cs, Block w g e cs := by
  rcases h.2 with ⟨rfl, _⟩ | ⟨g', cap, cur, rfl, _, hh, _⟩
  · simp [Value.ownBlock] at hv
  · obtain rfl : g' = g := by simpa [Value.ownBlock] using hv
    exact ⟨cur, hh⟩
theorem OwnPlan.mono {w : World} {B B' : Nat} {v : Value} {ss : List Stp} (h : OwnPlan w B v ss) (hb : B' ≤ B) : OwnPlan w B' v ss := by
  refine ⟨?_, fun s hs => (h.dat s hs).mono hb, h.apart⟩
  rcases h.st.2 with ⟨rfl, h0⟩ | ⟨g, cap, cur, rfl, hbg, hrest⟩
  · exact ⟨h.st.1, .inl ⟨rfl, h0⟩⟩
  · exact ⟨h.st.1, .inr ⟨g, cap, cur, rfl, by omega, hrest⟩⟩
/-- A row of slices of steps grows: a plan stays. -/
theorem OwnPlan.row {w w' : World} {B B' : Nat} {v u : Value} {us : List Value} {ss : List Stp} (h : OwnPlan w B v ss) (hu : OwnV w B' 26 u us) (ht : TurnsIn (fun b => u.ownBlock = some b) w w') : OwnPlan w' B v ss :=
  h.out ht (fun b hb he => by obtain ⟨cs, hcs⟩ := steps_block h.st hb; exact hu.ne_block hcs (by decide) he)
    fun s hs b hb he => by obtain ⟨cs, hcs⟩ := own_is_block8 (h.dat s hs) hb; exact hu.ne_block hcs (by decide) he

/-- A plan of the call's own, as it lies among others. -/
structure PlanV where
  v : Value
  ss : List Stp
/-- The plans of the first blocks. -/
structure PlansAt (w : World) (B : Nat) (v : Value) (pls : List PlanV) (old new : List Int) (blk : Int) (ps : List Pc) : Prop where
  own : OwnV w B 26 v (pls.map PlanV.v)
  each : ∀ (i : Nat) (p : PlanV), pls[i]? = some p → OwnPlan w B p.v p.ss ∧ p.ss.map sqS = planQ old (blockL new blk i) (i * blk) (aheadP (i * blk) ps)
theorem PlansAt.below {w w' : World} {B : Nat} {v : Value} {pls : List PlanV} {old new : List Int} {blk : Int} {ps : List Pc} (h : PlansAt w B v pls old new blk ps) (hb : Below w.heap.size w w') : PlansAt w' B v pls old new blk ps :=
  ⟨h.own.below hb, fun i p hi => ⟨(h.each i p hi).1.below hb, (h.each i p hi).2⟩⟩
theorem PlansAt.mono {w : World} {B B' : Nat} {v : Value} {pls : List PlanV} {old new : List Int} {blk : Int} {ps : List Pc} (h : PlansAt w B v pls old new blk ps) (hb : B' ≤ B) : PlansAt w B' v pls old new blk ps :=
  ⟨h.own.mono hb, fun i p hi => ⟨(h.each i p hi).1.mono hb, (h.each i p hi).2⟩⟩
theorem blockL_octets {new : List Int} {b i : Int} (h : Octets new) : Octets (blockL new b i) := by
  unfold blockL
  split
  · intro x hx; simp at hx
  · exact fun x hx => h x (List.mem_of_mem_drop (List.mem_of_mem_take hx))
theorem PlansAt.push {w w' : World} {B : Nat} {v v' : Value} {pls : List PlanV} {old new : List Int} {blk : Int} {ps : List Pc} {p : PlanV} (h : PlansAt w B v pls old new blk ps) (hp : OwnPlan w B p.v p.ss) (hq : p.ss.map sqS = planQ old (blockL new blk pls.length) (pls.length * blk) (aheadP (pls.length * blk) ps))
    (own : OwnV w' B 26 v' (pls.map PlanV.v ++ [p.v])) (ht : TurnsIn (fun b => v.ownBlock = some b) w w') : PlansAt w' B v' (pls ++ [p]) old new blk ps := by
  refine ⟨by rw [List.map_append]; exact own, fun i q hi => ?_⟩
  by_cases hlt : i < pls.length
  · rw [List.getElem?_append_left hlt] at hi
    exact ⟨(h.each i q hi).1.row h.own ht, (h.each i q hi).2⟩
  · rw [List.getElem?_append_right (by omega)] at hi
    have h0 : i - pls.length = 0 := by
      have := (List.getElem?_eq_some_iff.1 hi).1
      simp at this
      omega
    rw [h0] at hi
    obtain rfl : p = q := by simpa using hi
    obtain rfl : i = pls.length := by omega
    exact ⟨hp.row h.own ht, hq⟩
/-- What is left of the pieces. -/
structure LeftP (w1 : World) (B : Nat) (sp : Value) (ps : List Pc) (old new f fr : Int) (qs : List Pc) : Prop where
  form : ∃ (A : Option Addr) (c : Nat), sp = .slice A qs.length c ∧ qs.length ≤ c ∧ HoldsP w1 B A qs
  run : ∃ e, runL old new e qs f
  same : ∀ x, fr ≤ x → aheadP x ps = aheadP x qs
  few : qs.length ≤ 1000000
theorem LeftP.below {w1 w2 : World} {B : Nat} {sp : Value} {ps : List Pc} {old new f fr : Int} {qs : List Pc} (h : LeftP w1 B sp ps old new f fr qs) (hb : Below B w1 w2) : LeftP w2 B sp ps old new f fr qs := by
  obtain ⟨A, c, h1, h2, h3⟩ := h.form
  exact ⟨⟨A, c, h1, h2, h3.below hb⟩, h.run, h.same, h.few⟩
theorem holdsP_more {w1 : World} {B B' : Nat} {A : Option Addr} {qs : List Pc} (h : HoldsP w1 B A qs) (hb : B ≤ B') : HoldsP w1 B' A qs := fun hx => by
  obtain ⟨b, off, e, hlt, hc⟩ := h hx
  exact ⟨b, off, e, by omega, hc⟩
theorem LeftP.on {w1 : World} {B : Nat} {sp : Value} {ps : List Pc} {old new f fr fr' : Int} {qs : List Pc} (h : LeftP w1 B sp ps old new f fr qs) (hf : fr ≤ fr') : LeftP w1 B sp ps old new f fr' qs :=
  ⟨h.form, h.run, fun x hx => h.same x (by omega), h.few⟩
theorem LeftP.drop {w1 : World} {B b off c : Nat} {p : Pc} {ps : List Pc} {old new f fr : Int} {qs : List Pc} {A' : Option Addr} (h : LeftP w1 B (.slice (some ⟨b, off, none⟩) (qs.length + 1) c) ps old new f fr (p :: qs)) (hd : p.n + p.l ≤ fr) (hA : qs.length = 0 ∨ A' = some ⟨b, off + 3, none⟩) : LeftP w1 B (.slice A' qs.length (c - 1)) ps old new f fr qs := by
  obtain ⟨A, c0, h1, h2, h3⟩ := h.form
  injection h1 with e1 e2 e3
  subst e1 e3
  obtain ⟨e, hr⟩ := h.run
  refine ⟨⟨A', c - 1, rfl, by simp at h2; omega, ?_⟩, ⟨_, hr.2.2⟩, fun x hx => by rw [h.same x hx, ahead_drop hd hx], by have := h.few; simp at this; omega⟩
  intro hx
  rcases hA with h0 | rfl
  · omega
  · exact holdsP_tail h3 hx
def lenV : Value → Nat
  | .slice _ n _ => n
  | _ => 0
def PlansTo (w : World) (old new : List Int) (blk : Nat) (e : Ending) (w' : World) : Prop :=
  ∃ (A : Option Addr) (c : Nat) (pls : List PlanV) (ps : List Pc) (e9 : Nat), e = .returned (.tuple #[.slice A pls.length c, .int .i64 0]) ∧ FoundL old new ps e9 new.length ∧ (pls.length : Int) = blocksI new.length blk ∧ PlansAt w' w.heap.size (.slice A pls.length c) pls old new blk ps ∧ Below w.heap.size w w'

set_option maxRecDepth 100000 in
set_option maxHeartbeats 12800000 in
theorem plans_any (w : World) (Ao : Option Addr) (old : List Int) (co : Nat) (An : Option Addr) (new : List Int) (cn : Nat) (blk : Nat)
    (hro : Holds w w.heap.size .u8 Ao old) (hrn : Holds w w.heap.size .u8 An new) (hoo : Octets old) (hon : Octets new) (hco : old.length ≤ co) (hcn : new.length ≤ cn) (hold : old.length ≤ 100000) (hnew : new.length ≤ 100000) (hk1 : 128 ≤ blk) (hk2 : blk ≤ 4096) :
    Calls Try.prog 14 #[.slice Ao old.length co, .slice An new.length cn, .int .i64 blk] w (PlansTo w old new blk) := by
  have GI := Lib.hid (fun W => isBlock_any blk W)
  rw [show isBlkB (blk : Int) = true by unfold isBlkB; rw [decide_eq_true (by omega), decide_eq_true (by omega)]; rfl] at GI
  have hn64 : In64 (new.length : Int) := by unfold In64; omega
  have hb64 : In64 (blk : Int) := by unfold In64; omega
  have hbd := blocksI_bd (b := (blk : Int)) hn64
  obtain ⟨N, hN⟩ : ∃ N : Nat, (N : Int) = blocksI new.length blk := ⟨(blocksI new.length blk).toNat, by omega⟩
  have HX := Lib.hid (fun (j : Nat) (hj : (j : Int) < blocksI new.length blk) => blockL_next (xs := new) (B := blk) (j := j) (by omega) hj)
  have HC := Lib.hid (fun (j : Nat) (hj : (j : Int) < blocksI new.length blk) => begins_in (n := new.length) (b := blk) (i := j) (by omega) hj)
  have GB := Lib.hid (fun W => blocks_any new.length blk hn64 hb64 W)
  rw [← hN] at GB HX HC hbd
  have GF := Lib.hid (find_cap (w := w) (xs := old) (ys := new) Ao An co cn hro hrn (by omega) (by omega) hoo hon hcn)
  have GK := Lib.hid (fun W (j : Nat) (hj : In64 (j : Int)) (hW : Below w.heap.size w W) => block_any An new cn blk j W hb64 hj (by omega) hcn ((hrn.below hW).more hW.size))
  have hNl : N ≤ new.length := by omega
  have HRO := Lib.hid hro
  have HN := Lib.hid hN
  have d0 : decide ((2147483647 : Int) < (old.length : Int)) = false := decide_eq_false (by omega)
  have d1 : decide (2147483647 < old.length) = false := decide_eq_false (by omega)
  have d2 : decide ((2147483647 : Int) < (new.length : Int)) = false := decide_eq_false (by omega)
  have d3 : decide (2147483647 < new.length) = false := decide_eq_false (by omega)
  clear hro hrn hbd hN hn64 hb64
  go_enter Try.func14, Try.ntmps14
  go_wp2_with (first
    | (go_at_call 17; (with_reducible refine (GI.out _).mono ?_); rintro e w1 ⟨rfl, rfl⟩)
    | (go_at_call 18; refine GF.out.mono ?_; rintro e w2 ⟨A0, c0, ps, e9, rfl, hfl, hh, hkc, hb⟩; have HFL := Lib.hid hfl; have HB := Lib.hid hb; have HH := Lib.hid hh; clear hfl hh hb)
    | (go_at_call 7; (with_reducible refine (GB.out _).mono ?_); rintro e w1 ⟨rfl, rfl⟩))
  have hps : ps.length ≤ 1000000 := by have := HFL.out.few; omega
  go_loopw [8, 9, 30] (fun sp sl si wr => ∃ (i : Nat) (pls : List PlanV) (qs : List Pc), i ≤ N ∧ si = .int .i64 i ∧ pls.length = i ∧ PlansAt wr w2.heap.size sl pls old new blk ps ∧ LeftP wr w2.heap.size sp ps old.length new.length e9 (i * blk) qs ∧ Below w2.heap.size w2 wr) (fun _ _ si _ => N - (intOf si).toNat)
  case atStart => exact ⟨0, [], ps, Nat.zero_le _, rfl, rfl, ⟨OwnV.nil _ _ _, by simp⟩, ⟨⟨A0, c0, rfl, hkc, HH.out⟩, ⟨0, HFL.out.run⟩, fun _ _ => rfl, hps⟩, Below.refl _ _⟩
  case round =>
    obtain ⟨i, pls, qs, hi, rfl, hpl, hpa, hleft, hB⟩ := hrel
    have HPA := Lib.hid hpa
    have HB1 := Lib.hid hB
    have HPL := Lib.hid hpl
    clear hpa hB hpl HH
    by_cases hlt : i < N
    · have di : decide ((i : Int) < (N : Int)) = true := decide_eq_true (by omega)
      have di2 : decide (i < N) = true := decide_eq_true hlt
      have hc := HC.out i (by omega)
      obtain ⟨FR, hFR⟩ : ∃ FR : Nat, (i : Int) * blk = (FR : Int) := ⟨((i : Int) * blk).toNat, by omega⟩
      rw [hFR] at hleft hc
      have HFR := Lib.hid hFR
      have hfr : FR ≤ 100000 := by omega
      have HLEFT := Lib.hid hleft
      clear hleft hc
      go_wp2_with fail
      clear hFR
      go_loopw [8] (fun sp wx => ∃ (q : Nat) (qs2 : List Pc), wx = wr.drewN q ∧ LeftP wr w2.heap.size sp ps old.length new.length e9 FR qs2) (fun sp _ => lenV sp)
      case atStart => exact ⟨0, qs, rfl, HLEFT.out⟩
      case round =>
        obtain ⟨q, qs2, rfl, hleft2⟩ := hrel
        clear HLEFT
        obtain ⟨AQ, cQ, rfl, kq, hq⟩ := hleft2.form
        have HL2 := Lib.hid hleft2
        clear hleft2
        by_cases h0 : 0 < qs2.length
        · have e0 : decide ((0 : Int) < (qs2.length : Int)) = true := decide_eq_true (by omega)
          have e1 : decide (0 < qs2.length) = true := decide_eq_true h0
          obtain ⟨bq, fq, rfl, hbq, hcq⟩ := hq h0
          obtain ⟨p, qs3, rfl⟩ : ∃ p qs3, qs2 = p :: qs3 := by cases qs2 with | nil => simp at h0 | cons p qs3 => exact ⟨p, qs3, rfl⟩
          obtain ⟨p0, p1, p2⟩ := hcq 0 p rfl
          rw [Nat.zero_mul, Nat.add_zero] at p0 p1 p2
          obtain ⟨eQ, hrQ⟩ := HL2.out.run
          have hbd := one_bd hrQ.1
          obtain ⟨pn, po, pl⟩ := p
          simp only at p0 p1 p2 hbd
          have e3 : decide ((0 : Int) < (qs3.length : Int) + 1) = true := decide_eq_true (by omega)
          have e4 : decide (0 < qs3.length + 1) = true := decide_eq_true (by omega)
          rw [List.length_cons] at kq HL2 ⊢
          clear e0 e1 h0
          have hw1 : IntKind.i64.wrap (pn + pl) = pn + pl := IntWalk.i64_in _ (by omega)
          clear hcq hrQ
          by_cases hle : pn + pl ≤ (FR : Int)
          · have e2 : decide (pn + pl ≤ (FR : Int)) = true := decide_eq_true hle
            by_cases hc1 : cQ = 1
            · have hc2 : qs3.length = 0 := by omega
              go_wp2_with fail
              go_quiet (fail)
              go_wp2_with fail
              go_roundw
              case rel => exact ⟨_, qs3, rfl, by have h := HL2.out.drop (A' := some ⟨bq, fq, none⟩) hle (.inl hc2); rw [hc2, hc1] at h; exact h⟩
              case measure => simp [lenV]
            go_wp2_with fail
            go_quiet (fail)
            go_wp2_with fail
            go_roundw
            case rel => exact ⟨_, qs3, rfl, HL2.out.drop hle (.inr rfl)⟩
            case measure => simp [lenV]
          · have e2 : decide (pn + pl ≤ (FR : Int)) = false := decide_eq_false hle
            have hstay : ∀ p, (((⟨pn, po, pl⟩ : Pc) :: qs3)).head? = some p → (FR : Int) < p.n + p.l := by
              intro p hp
              obtain rfl : _ = p := by simpa using hp
              show (FR : Int) < pn + pl
              omega
            have HSTAY := Lib.hid hstay
            clear hstay
            go_wp2_with fail
            go_quiet (fail)
            clear hw1 p0 p1 p2 e2 e3 e4
            have hst : aheadP FR (((⟨pn, po, pl⟩ : Pc) :: qs3)) = ((⟨pn, po, pl⟩ : Pc) :: qs3) := ahead_stay HSTAY.out
            have hsame := HL2.out.same FR (Int.le_refl _)
            rw [hst] at hsame
            obtain ⟨eQ2, hrQ2⟩ := HL2.out.run
            have hhd := runL_ahead (x := (FR : Int)) hrQ2 HSTAY.out
            have HB2X := Lib.hid (below_draws HB1.out (q + nq))
            have HBX := Lib.hid (HB.out.trans (HB2X.out.mono HB.out.size))
            obtain ⟨x1, x2, x3, x4⟩ := HX.out i (by omega)
            have HSAME := Lib.hid hsame
            have HRUN := Lib.hid hrQ2
            have HHD := Lib.hid hhd
            have GK1 := Lib.hid (GK.out _ i (by unfold In64; omega) HBX.out)
            obtain ⟨Y, hY⟩ : ∃ Y, blockL new blk i = Y := ⟨_, rfl⟩
            have hoY : Octets Y := by
              rw [← hY]
              exact blockL_octets hon
            have HY := Lib.hid hY
            rw [hY] at GK1 x2 x3
            clear hst hsame hrQ2 hhd x1 x4 hY
            go_wp2_with fail
            refine GK1.out.mono ?_
            rintro e w4 ⟨v4, rfl, own4, hb4⟩
            obtain ⟨A4, c4, rfl, k4, _, hh4⟩ := own4.opened
            have hB4 := HBX.out.trans (hb4.mono HBX.out.size)
            have hs4 : w2.heap.size ≤ wr.heap.size := HB1.out.size
            have hw4 : Below wr.heap.size wr w4 := (below_draws (Below.refl _ wr) (q + nq)).trans hb4
            obtain ⟨Ax, cx, ex, kx, hx⟩ := (HL2.out.below (hw4.mono hs4)).form
            injection ex with ex1 ex2 ex3
            subst ex1 ex3
            have gp := planOf_any w4 Ao old co A4 Y c4 (some ⟨bq, fq, none⟩) (((⟨pn, po, pl⟩ : Pc) :: qs3)) cQ FR new.length e9 eQ2 ((HRO.out.below hB4).more hB4.size) hh4 (holdsP_more hx (Nat.le_trans hs4 hw4.size)) hoo hoY hco k4 (by omega) (by omega) (by omega) (by omega) HL2.out.few (by omega) (by omega) HRUN.out HHD.out
            rw [List.length_cons] at gp
            have GP := Lib.hid gp
            have HB4 := Lib.hid hB4
            have HW4 := Lib.hid hw4
            clear gp hB4 hb4 hw4 own4 hh4 hx GK1 ex2
            go_wp2_with fail
            refine GP.out.mono ?_
            rintro e w5 ⟨v5, ss5, rfl, p5, s5, b5⟩
            have hB5 := HB4.out.trans (b5.mono HB4.out.size)
            have hw5 : Below wr.heap.size wr w5 := HW4.out.trans (b5.mono HW4.out.size)
            have hpa5 : PlansAt w5 w2.heap.size u9 pls old new blk ps := HPA.out.below hw5
            have hl5 : LeftP w5 w2.heap.size _ ps old.length new.length e9 FR (((⟨pn, po, pl⟩ : Pc) :: qs3)) := HL2.out.below (hw5.mono hs4)
            have hB25 : Below w2.heap.size w2 w5 := HB1.out.trans (hw5.mono hs4)
            have HB25 := Lib.hid hB25
            have HPA5 := Lib.hid hpa5
            have HL5 := Lib.hid hl5
            have HB5 := Lib.hid hB5
            have HP5 := Lib.hid (p5.mono (show w2.heap.size ≤ w4.heap.size from Nat.le_trans hs4 HW4.out.size))
            have HS5 := Lib.hid s5
            obtain ⟨A5, c5, rfl, _, _⟩ := p5.opened
            clear hpa5 hl5 hB5 p5 s5 b5 hB25 hw5
            have hus : (pls.map PlanV.v).length + 1 ≤ 1099511627776 := by rw [List.length_map, HPL.out]; omega
            go_wp2_with (at_builtin; go_loud (refine wpList_append_val rfl _ _ _ rfl elemSS HPA5.out.own rfl rfl rfl hus HB25.out.size ?_; intro v8 w8 own8 hg8 hb8; obtain ⟨A8, c8, rfl, _, _⟩ := own8.opened; have HO8 := Lib.hid own8; have HG8 := Lib.hid hg8; have HB8 := Lib.hid hb8; clear own8 hg8 hb8))
            go_roundw
            case rel =>
              have ht : TurnsIn (fun b => u9.ownBlock = some b) w5 w8 := ((TurnsIn.refl _ w5).alloc _).trans (.ofGrown HG8.out fun b hb => hb)
              have hpush := HPA5.out.push (p := ⟨.slice A5 ss5.length c5, ss5⟩) HP5.out (by rw [HPL.out, HFR.out, HY.out, HSAME.out]; exact HS5.out) HO8.out ht
              rw [show (List.map PlanV.v pls ++ [Value.slice A5 ss5.length c5]).length = pls.length + 1 by simp] at hpush
              have hl8 := (HL5.out.below HB8.out).on (show (FR : Int) ≤ ((i + 1 : Nat) : Int) * blk by rw [Int.natCast_add, Int.add_mul, HFR.out]; omega)
              exact ⟨i + 1, pls ++ [⟨.slice A5 ss5.length c5, ss5⟩], ((⟨pn, po, pl⟩ : Pc) :: qs3), by omega, by go_num, by rw [List.length_append, HPL.out]; rfl, hpush, hl8, HB25.out.trans HB8.out⟩
            case measure => simp [intOf] <;> omega
        · have e0 : decide ((0 : Int) < (qs2.length : Int)) = false := decide_eq_false (by omega)
          have e1 : decide (0 < qs2.length) = false := decide_eq_false h0
          have hstay : ∀ p, qs2.head? = some p → (FR : Int) < p.n + p.l := fun p hp => by
            cases qs2 with
            | nil => simp at hp
            | cons _ _ => simp at h0
          have HSTAY := Lib.hid hstay
          clear hstay
          go_wp2_with fail
          go_quiet (fail)
          have hst : aheadP FR (qs2) = qs2 := ahead_stay HSTAY.out
          have hsame := HL2.out.same FR (Int.le_refl _)
          rw [hst] at hsame
          obtain ⟨eQ2, hrQ2⟩ := HL2.out.run
          have hhd := runL_ahead (x := (FR : Int)) hrQ2 HSTAY.out
          have HB2X := Lib.hid (below_draws HB1.out (q + nq))
          have HBX := Lib.hid (HB.out.trans (HB2X.out.mono HB.out.size))
          obtain ⟨x1, x2, x3, x4⟩ := HX.out i (by omega)
          have HSAME := Lib.hid hsame
          have HRUN := Lib.hid hrQ2
          have HHD := Lib.hid hhd
          have GK1 := Lib.hid (GK.out _ i (by unfold In64; omega) HBX.out)
          obtain ⟨Y, hY⟩ : ∃ Y, blockL new blk i = Y := ⟨_, rfl⟩
          have hoY : Octets Y := by
            rw [← hY]
            exact blockL_octets hon
          have HY := Lib.hid hY
          rw [hY] at GK1 x2 x3
          clear hst hsame hrQ2 hhd x1 x4 hY
          go_wp2_with fail
          refine GK1.out.mono ?_
          rintro e w4 ⟨v4, rfl, own4, hb4⟩
          obtain ⟨A4, c4, rfl, k4, _, hh4⟩ := own4.opened
          have hB4 := HBX.out.trans (hb4.mono HBX.out.size)
          have hs4 : w2.heap.size ≤ wr.heap.size := HB1.out.size
          have hw4 : Below wr.heap.size wr w4 := (below_draws (Below.refl _ wr) (q + nq)).trans hb4
          obtain ⟨Ax, cx, ex, kx, hx⟩ := (HL2.out.below (hw4.mono hs4)).form
          injection ex with ex1 ex2 ex3
          subst ex1 ex3
          have gp := planOf_any w4 Ao old co A4 Y c4 AQ (qs2) cQ FR new.length e9 eQ2 ((HRO.out.below hB4).more hB4.size) hh4 (holdsP_more hx (Nat.le_trans hs4 hw4.size)) hoo hoY hco k4 (by omega) (by omega) (by omega) (by omega) HL2.out.few (by omega) (by omega) HRUN.out HHD.out
          have _t := gp
          have GP := Lib.hid gp
          have HB4 := Lib.hid hB4
          have HW4 := Lib.hid hw4
          clear gp hB4 hb4 hw4 own4 hh4 hx GK1 ex2
          go_wp2_with fail
          refine GP.out.mono ?_
          rintro e w5 ⟨v5, ss5, rfl, p5, s5, b5⟩
          have hB5 := HB4.out.trans (b5.mono HB4.out.size)
          have hw5 : Below wr.heap.size wr w5 := HW4.out.trans (b5.mono HW4.out.size)
          have hpa5 : PlansAt w5 w2.heap.size u9 pls old new blk ps := HPA.out.below hw5
          have hl5 : LeftP w5 w2.heap.size _ ps old.length new.length e9 FR (qs2) := HL2.out.below (hw5.mono hs4)
          have hB25 : Below w2.heap.size w2 w5 := HB1.out.trans (hw5.mono hs4)
          have HB25 := Lib.hid hB25
          have HPA5 := Lib.hid hpa5
          have HL5 := Lib.hid hl5
          have HB5 := Lib.hid hB5
          have HP5 := Lib.hid (p5.mono (show w2.heap.size ≤ w4.heap.size from Nat.le_trans hs4 HW4.out.size))
          have HS5 := Lib.hid s5
          obtain ⟨A5, c5, rfl, _, _⟩ := p5.opened
          clear hpa5 hl5 hB5 p5 s5 b5 hB25 hw5
          have hus : (pls.map PlanV.v).length + 1 ≤ 1099511627776 := by rw [List.length_map, HPL.out]; omega
          go_wp2_with (at_builtin; go_loud (refine wpList_append_val rfl _ _ _ rfl elemSS HPA5.out.own rfl rfl rfl hus HB25.out.size ?_; intro v8 w8 own8 hg8 hb8; obtain ⟨A8, c8, rfl, _, _⟩ := own8.opened; have HO8 := Lib.hid own8; have HG8 := Lib.hid hg8; have HB8 := Lib.hid hb8; clear own8 hg8 hb8))
          go_roundw
          case rel =>
            have ht : TurnsIn (fun b => u9.ownBlock = some b) w5 w8 := ((TurnsIn.refl _ w5).alloc _).trans (.ofGrown HG8.out fun b hb => hb)
            have hpush := HPA5.out.push (p := ⟨.slice A5 ss5.length c5, ss5⟩) HP5.out (by rw [HPL.out, HFR.out, HY.out, HSAME.out]; exact HS5.out) HO8.out ht
            rw [show (List.map PlanV.v pls ++ [Value.slice A5 ss5.length c5]).length = pls.length + 1 by simp] at hpush
            have hl8 := (HL5.out.below HB8.out).on (show (FR : Int) ≤ ((i + 1 : Nat) : Int) * blk by rw [Int.natCast_add, Int.add_mul, HFR.out]; omega)
            exact ⟨i + 1, pls ++ [⟨.slice A5 ss5.length c5, ss5⟩], qs2, by omega, by go_num, by rw [List.length_append, HPL.out]; rfl, hpush, hl8, HB25.out.trans HB8.out⟩
          case measure => simp [intOf] <;> omega
    · have di : decide ((i : Int) < (N : Int)) = false := decide_eq_false (by omega)
      have di2 : decide (i < N) = false := decide_eq_false hlt
      obtain rfl : i = N := by omega
      obtain ⟨A9, c9, rfl, _, _⟩ := HPA.out.own.opened
      have hml : (pls.map PlanV.v).length = pls.length := List.length_map ..
      go_wp2_with fail
      go_ret2
      refine ⟨A9, c9, pls, ps, e9, ?_, HFL.out, by rw [HPL.out]; exact HN.out, ?_, HB.out.trans (HB1.out.mono HB.out.size)⟩
      · rw [← hml]; rfl
      · rw [← hml]; exact HPA.out.mono HB.out.size
end Go.Proofs.Ytlcnbepldkbkgaa.Dl
