/-
  Layer 13, inflate: new ones, what is told, what is held, and all at once: the program's contracts. Conditions: the table of turns holds what the program's text lays; and as each theorem names.
-/
import Derived.Test.YthflefdchgpbdaaDoorMInW
namespace Go.Proofs.YthflefdchgpbdaaDoor.Inf
open Go.ChangeShapes Go.WideShapes Go.ChangeAt Go.RowKit Go.Proofs.YthflefdchgpbdaaDoor.Kit Go.Proofs.YthflefdchgpbdaaDoor.Bits Go.Proofs.YthflefdchgpbdaaDoor.Huf Go.Proofs.YthflefdchgpbdaaDoor.Df

def most0 (m : Int) : Int := if m < 0 then 0 else m
theorem most0_bd {m : Int} (h : m ≤ 1000000) : 0 ≤ most0 m ∧ most0 m ≤ 1000000 := by unfold most0; split <;> omega
theorem stands_new (most : Int) (hm : 0 ≤ most) : Stands most [] St.new 0 2 := by
  refine ⟨.refl, .inr ⟨by simp [St.new], .inl ⟨?_, rfl⟩⟩⟩
  rw [step0 rfl]
  unfold openG
  exact bindG_miss _ (numG_no (by simp [bitsOf]))
/-- A new one. -/
def NewTo (m0 : Int) (w : World) (e : Ending) (w' : World) : Prop := e = .returned (.pointer (some ⟨w.heap.size, 0, none⟩)) ∧ Infl w' w.heap.size w.heap.size (most0 m0) [] St.new 0 2 (.slice none 0 0) (.slice none 0 0) (.slice none 0 0) none 0 ∧ Below w.heap.size w w' ∧ w.heap.size < w'.heap.size
theorem infl_new (m0 : Int) (hm : m0 ≤ 1000000) (w : World) : Infl (w.alloc (.cells #[.int .i64 (most0 m0), .slice none 0 0, .slice none 0 0, .int .i64 0, .int .u8 0, .bool false, .int .i64 0, .slice none 0 0, .slice none 0 0, .int .i64 0] 40)) w.heap.size w.heap.size (most0 m0) [] St.new 0 2 (.slice none 0 0) (.slice none 0 0) (.slice none 0 0) none 0 := by
  have hb := most0_bd hm
  refine ⟨stands_new _ hb.1, ⟨Block.new w _ _, Own.nil _ _ _ _, by show ((0 : Nat) : Int) ≤ most0 m0; omega, hb.2⟩, ?_, Own.nil _ _ _ _, Own.nil _ _ _ _, fun g hg => by simp [Value.ownBlock] at hg, by simp [capV], by simp [capV]⟩
  rw [restL_ok (.inr rfl)]
  exact Own.nil _ _ _ _
set_option maxHeartbeats 1600000 in
theorem new_any (m0 : Int) (hm : m0 ≤ 1000000) (w : World) : Calls Tryd.prog 11 #[.int .i64 m0] w (NewTo m0 w) := by
  have hi := Lib.hid (infl_new m0 hm w)
  have hbl : Below w.heap.size w (w.alloc (.cells #[.int .i64 (most0 m0), .slice none 0 0, .slice none 0 0, .int .i64 0, .int .u8 0, .bool false, .int .i64 0, .slice none 0 0, .slice none 0 0, .int .i64 0] 40)) := (Below.refl _ _).alloc (Nat.le_refl _) _
  have HBL := Lib.hid hbl
  clear hbl
  unfold NewTo
  unfold most0 at hi HBL ⊢
  by_cases h : m0 < 0
  · rw [if_pos h] at hi HBL ⊢
    have d : decide (m0 < 0) = true := decide_eq_true h
    go_enter Tryd.func11, Tryd.ntmps11
    go_wp2_with fail
    go_ret
    exact ⟨rfl, hi.out, HBL.out, by simp⟩
  · rw [if_neg h] at hi HBL ⊢
    have d : decide (m0 < 0) = false := decide_eq_false h
    go_enter Tryd.func11, Tryd.ntmps11
    go_wp2_with fail
    go_ret
    exact ⟨rfl, hi.out, HBL.out, by simp⟩

section
variable {B x : Nat} {most : Int} {b : List Int} {s : St} {p : Nat} {e0 : Int} {vr vs vd : Value} {A : Option Addr} {c : Nat} {w w' : World}
theorem Infl.below (h : Infl w B x most b s p e0 vr vs vd A c) (hb : Below w.heap.size w w') : Infl w' B x most b s p e0 vr vs vd A c :=
  ⟨h.st, h.ia.far (TurnsIn.ofNew (S := fun _ => False) hb) (fun h => h) (fun _ _ h => h), h.or_.below hb, h.os.below hb, h.od.below hb, h.ap, h.cp, h.cr⟩
/-- What is no inflater's has turned. -/
theorem Infl.away {N : Nat} (h : Infl w B x most b s p e0 vr vs vd A c) (t : TurnsIn (fun g => N ≤ g) w w') (hx : x < N) (hA : ∀ g, (Value.slice A s.out.length c).ownBlock = some g → g < N) (hr : ∀ g, vr.ownBlock = some g → g < N) (hs : ∀ g, vs.ownBlock = some g → g < N) (hd : ∀ g, vd.ownBlock = some g → g < N) : Infl w' B x most b s p e0 vr vs vd A c :=
  ⟨h.st, h.ia.far t (by omega) (fun g hg he => by have := hA g hg; omega), h.or_.out t (fun g hg he => by have := hr g hg; omega), h.os.out t (fun g hg he => by have := hs g hg; omega), h.od.out t (fun g hg he => by have := hd g hg; omega), h.ap, h.cp, h.cr⟩
end

set_option maxHeartbeats 1600000 in
theorem out_any (B x : Nat) (most : Int) (b : List Int) (s : St) (p : Nat) (e0 : Int) (vr vs vd : Value) (A : Option Addr) (c : Nat) (w : World) (h : Infl w B x most b s p e0 vr vs vd A c) :
    Calls Tryd.prog 13 #[.pointer (some ⟨x, 0, none⟩)] w fun e w' => ∃ v, e = .returned v ∧ Own w' w.heap.size 5 .u8 v s.out ∧ Below w.heap.size w w' := by
  have x1 : w.cell? ⟨x, 1, none⟩ = some (.slice A s.out.length c) := h.ia.blk.cell 1
  obtain ⟨_, _, e, h1, h2, hr⟩ := own_open h.ia.own
  have hm := h.ia.most
  have hl := (h.st.le (by have := h.ia.most; have : (icE most s p e0 vr vs vd).most = most := rfl; omega)).1.len
  have hm2 : (icE most s p e0 vr vs vd).most = most := rfl
  have hlb : s.out.length ≤ 1000000 := by omega
  have HR := Lib.hid hr
  clear h e h1 h2 hr hm hl hm2
  go_enter Tryd.func13, Tryd.ntmps13
  go_wp2_with (at_builtin; refine wpList_append_ints (xs := []) (ys := s.out) _ rfl _ _ _ rfl elem8 (Own.nil w w.heap.size _ _) rfl rfl HR.out (by simp; omega) (Nat.le_refl _) ?_; intro v3 w3 own3 hg3 hb3 hv3; have F3 := Lib.hid (And.intro own3 hb3); clear own3 hg3 hb3 hv3)
  go_ret
  exact ⟨_, rfl, F3.out.1, F3.out.2⟩
theorem out_nil (w : World) : Calls Tryd.prog 13 #[.pointer none] w fun e w' => e = .returned (.slice none 0 0) ∧ w = w' := by
  go_enter Tryd.func13, Tryd.ntmps13
  go_wp2_with fail
  go_ret
  exact ⟨rfl, rfl⟩
def doneB (s : St) (e0 : Int) : Bool := (s.ph == 3) && (errI e0 == 0)
set_option maxHeartbeats 1600000 in
theorem done_any (B x : Nat) (most : Int) (b : List Int) (s : St) (p : Nat) (e0 : Int) (vr vs vd : Value) (A : Option Addr) (c : Nat) (w : World) (h : Infl w B x most b s p e0 vr vs vd A c) :
    Calls Tryd.prog 14 #[.pointer (some ⟨x, 0, none⟩)] w fun e w' => e = .returned (.bool (doneB s e0)) ∧ w = w' := by
  have x4 : w.cell? ⟨x, 4, none⟩ = some (.int .u8 s.ph) := h.ia.blk.cell 4
  have x9 : w.cell? ⟨x, 9, none⟩ = some (.int .i64 (errI e0)) := h.ia.blk.cell 9
  unfold doneB
  clear h
  generalize s.ph = a at *
  generalize errI e0 = q at *
  cases h1 : (a == 3) with
  | false =>
    go_enter Tryd.func14, Tryd.ntmps14
    go_wp2_with fail
    go_ret
    exact ⟨rfl, rfl⟩
  | true =>
    cases h2 : (q == 0) with
    | false =>
      go_enter Tryd.func14, Tryd.ntmps14
      go_wp2_with fail
      go_ret
      exact ⟨rfl, rfl⟩
    | true =>
      go_enter Tryd.func14, Tryd.ntmps14
      go_wp2_with fail
      go_ret
      exact ⟨rfl, rfl⟩
theorem done_nil (w : World) : Calls Tryd.prog 14 #[.pointer none] w fun e w' => e = .returned (.bool false) ∧ w = w' := by
  go_enter Tryd.func14, Tryd.ntmps14
  go_wp2_with fail
  go_ret
  exact ⟨rfl, rfl⟩
theorem write_nil (v : Value) (w : World) : Calls Tryd.prog 12 #[.pointer none, v] w fun e w' => e = .returned (.int .i64 1) ∧ w = w' := by
  go_enter Tryd.func12, Tryd.ntmps12
  go_wp2_with fail
  go_ret
  exact ⟨rfl, rfl⟩
/-- All at once. -/
def InflTo (m0 : Int) (b : List Int) (w : World) (e : Ending) (w' : World) : Prop :=
  ∃ s p e0 v, Stands (most0 m0) b s p e0 ∧ e = .returned (.tuple #[v, .int .i64 e0]) ∧ (e0 = 0 → Own w' w.heap.size 5 .u8 v s.out) ∧ (e0 ≠ 0 → v = .slice none 0 0) ∧ Below w.heap.size w w'
set_option maxRecDepth 100000 in
set_option maxHeartbeats 6400000 in
theorem inflate_any (m0 : Int) (b : List Int) (Az : Option Addr) (cz : Nat) (w : World) (hm : m0 ≤ 1000000) (hz : Holds w w.heap.size .u8 Az b) (hob : Octets b) (hbl : b.length ≤ 90000) (hL : Laid 0 turnsL w) :
    Calls Tryd.prog 6 #[.slice Az b.length cz, .int .i64 m0] w (InflTo m0 b w) := by
  have hgl : 0 < w.heap.size := World.block_lt_of_cell? _ _ (hL 0 (by decide))
  have hmb := most0_bd hm
  have GN := Lib.hid (new_any m0 hm w)
  unfold NewTo at GN
  have HZ := Lib.hid hz
  have HL := Lib.hid hL
  clear hz hL
  go_enter Tryd.func6, Tryd.ntmps6
  go_wp2_with fail
  refine GN.out.mono ?_
  rintro e w1 ⟨rfl, i1, b1, hs1⟩
  have GW := Lib.hid (write_any w.heap.size w.heap.size (most0 m0) [] b St.new 0 2 _ _ _ none 0 Az cz w1 i1 ((HZ.out.below b1).more b1.size) (fun _ h => absurd h (by simp)) hob (by simp) hbl b1.size hmb (fun k hk => (b1.cell (p := ⟨_, k, none⟩) hgl).trans (HL.out k hk)) hgl)
  unfold WriteTo at GW
  rw [List.nil_append] at GW
  have B1 := Lib.hid b1
  clear i1 b1 GN
  go_wp2_with fail
  refine GW.out.mono ?_
  rintro e w2 ⟨s, p, e0, vr, vs, vd, A, c, rfl, i2, t2, n2⟩
  have he12 := err_bd i2.st
  have hends := i2.st.ends
  have B2 := Lib.hid (B1.out.trans (t2.toBelow (B := w.heap.size) B1.out.size (fun g hg he => by
    rcases he with he | he
    · omega
    · simp [Value.ownBlock] at he)))
  have I2 := Lib.hid i2
  have GD := Lib.hid (done_any w.heap.size w.heap.size (most0 m0) b s p e0 vr vs vd A c w2 i2)
  have x1 : w2.cell? ⟨w.heap.size, 1, none⟩ = some (.slice A s.out.length c) := i2.ia.blk.cell 1
  clear i2 t2 n2 GW
  by_cases hok : e0 = 0 ∨ e0 = 2
  · have d1 : errI e0 = 0 := errI_ok hok
    rw [d1]
    rcases hok with rfl | rfl
    · have h3 : s.ph = 3 := by
        rcases hends with ⟨h, _⟩ | ⟨_, ⟨_, h⟩ | h⟩
        · exact h
        · omega
        · have := (fine_step (most0 m0) s).errs _ _ _ h
          omega
      have hd : doneB s 0 = true := by unfold doneB; rw [h3]; rfl
      rw [hd] at GD
      clear hends d1 h3 hd
      go_wp2_with fail
      refine GD.out.mono ?_
      rintro e w3 ⟨rfl, hw3⟩
      subst hw3
      go_wp2_with fail
      go_ret2
      exact ⟨s, p, 0, _, I2.out.st, rfl, fun _ => I2.out.ia.own, fun h => absurd rfl h, B2.out⟩
    · have h3 : ¬ s.ph = 3 := by
        rcases hends with ⟨_, h⟩ | ⟨h, _⟩
        · split at h <;> omega
        · exact h
      have hd : doneB s 2 = false := by unfold doneB; rw [beq_eq_false_iff_ne.2 h3]; rfl
      rw [hd] at GD
      clear hends d1 h3 hd
      go_wp2_with fail
      refine GD.out.mono ?_
      rintro e w3 ⟨rfl, hw3⟩
      subst hw3
      go_wp2_with fail
      go_ret2
      exact ⟨s, p, 2, _, I2.out.st, rfl, fun h => absurd h (by decide), fun _ => rfl, B2.out⟩
  · have hE := errI_no hok
    have d1 : (errI e0 == 0) = false := by rw [beq_eq_false_iff_ne]; exact hE.2
    rw [hE.1] at d1
    rw [hE.1]
    have hne : e0 ≠ 0 := fun h => hok (.inl h)
    have d2 : (e0 != 0) = true := by rw [bne, d1]; rfl
    have HNE := Lib.hid hne
    clear hE hok hne hends
    go_wp2_with fail
    go_ret2
    exact ⟨s, p, e0, _, I2.out.st, rfl, fun h => absurd h HNE.out, fun _ => rfl, B2.out⟩
end Go.Proofs.YthflefdchgpbdaaDoor.Inf
