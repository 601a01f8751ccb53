/-
  InflateEver: the walk: behind an error the same one is told for ever, and nothing more comes.
-/
import Derived.Test.YthmkeflkhocobaaDoorMInY
import Derived.Test.YthmkeflkhocobaaDoorMGIver2
namespace Go.Proofs.YthmkeflkhocobaaDoor.InflateEver
open Go.ChangeShapes Go.WideShapes Go.ChangeAt Go.RowKit Go.Proofs.YthmkeflkhocobaaDoor.Kit Go.Proofs.YthmkeflkhocobaaDoor.Bits Go.Proofs.YthmkeflkhocobaaDoor.Inf Go.Proofs.YthmkeflkhocobaaDoor.Df

/-- What is broken stays so: nothing is touched. -/
theorem write_err (B x : Nat) (most : Int) (b : List Int) (s : St) (p : Nat) (e0 : Int) (vr vs vd : Value) (A : Option Addr) (c : Nat) (v : Value) (w : World) (h : Infl w B x most b s p e0 vr vs vd A c) (he : ¬ (e0 = 0 ∨ e0 = 2)) :
    Calls Tryd.prog 25 #[.pointer (some ⟨x, 0, none⟩), v] w fun e w' => e = .returned (.int .i64 (errI e0)) ∧ w' = w := by
  have x9 : w.cell? ⟨x, 9, none⟩ = some (.int .i64 (errI e0)) := h.ia.blk.cell 9
  have d9 : (errI e0 == 0) = false := by rw [beq_eq_false_iff_ne]; exact (errI_no he).2
  have d92 : (errI e0 != 0) = true := by rw [bne, d9]; rfl
  clear h he
  generalize errI e0 = E at *
  go_enter Tryd.func25, Tryd.ntmps25
  go_wp2_with fail
  go_ret
  exact ⟨rfl, rfl⟩

set_option maxRecDepth 100000 in
set_option maxHeartbeats 12800000 in
theorem walk (A : Option Addr) (xs : List Int) (c : Nat) (A2 : Option Addr) (ys : List Int) (c2 : Nat) (m : Int) (w : World) (hc : xs.length ≤ c) (hm : c ≤ maxLen) (ho : Octets xs) (hr : Holds w w.heap.size .u8 A xs) (hc2 : ys.length ≤ c2) (hm2 : c2 ≤ maxLen) (ho2 : Octets ys) (hr2 : Holds w w.heap.size .u8 A2 ys) (hmw : (Lit.int .i64 m).wf = true) (hL : Laid 3 turnsL w) :
    Calls Tryd.prog 8 #[.slice A xs.length c, .slice A2 ys.length c2, .int .i64 m] w fun e w' => e = .returned (.bool true) ∧ Below w.heap.size w w' := by
  unfold maxLen at hm hm2
  have hgl : 3 < w.heap.size := World.block_lt_of_cell? _ _ (hL 0 (by decide))
  have GA := Lib.hid (fun (W : World) (hB : Below w.heap.size w W) => awake13 W (fun k hk => (hB.cell (p := ⟨_, k, none⟩) hgl).trans (hL k hk)))
  unfold AwakeTo at GA
  have HR := Lib.hid hr
  have HL := Lib.hid hL
  clear hr hr2 hL ho2 hmw
  by_cases h1 : 500 < xs.length
  · have d1 : decide ((500 : Int) < (xs.length : Int)) = true := decide_eq_true (by omega)
    have d2 : decide (500 < xs.length) = true := decide_eq_true h1
    go_enter Tryd.func8, Tryd.ntmps8
    go_wp2_with (go_at_call 18; refine (GA.out _ (Below.refl _ _)).mono ?_; rintro e w1 ⟨rfl, hb1⟩)
    go_ret
    exact ⟨rfl, hb1⟩
  have d1 : decide ((500 : Int) < (xs.length : Int)) = false := decide_eq_false (by omega)
  have d2 : decide (500 < xs.length) = false := decide_eq_false h1
  by_cases h2 : 500 < ys.length
  · have d3 : decide ((500 : Int) < (ys.length : Int)) = true := decide_eq_true (by omega)
    have d4 : decide (500 < ys.length) = true := decide_eq_true h2
    go_enter Tryd.func8, Tryd.ntmps8
    go_wp2_with (go_at_call 18; refine (GA.out _ (Below.refl _ _)).mono ?_; rintro e w1 ⟨rfl, hb1⟩)
    go_ret
    exact ⟨rfl, hb1⟩
  have d3 : decide ((500 : Int) < (ys.length : Int)) = false := decide_eq_false (by omega)
  have d4 : decide (500 < ys.length) = false := decide_eq_false h2
  by_cases h3 : 5000 < m
  · have d5 : decide ((5000 : Int) < m) = true := decide_eq_true h3
    go_enter Tryd.func8, Tryd.ntmps8
    go_wp2_with (go_at_call 18; refine (GA.out _ (Below.refl _ _)).mono ?_; rintro e w1 ⟨rfl, hb1⟩)
    go_ret
    exact ⟨rfl, hb1⟩
  have d5 : decide ((5000 : Int) < m) = false := decide_eq_false h3
  have hmb := most0_bd (show m ≤ 1000000 by omega)
  have GN := Lib.hid (new_any m (by omega) w)
  unfold NewTo at GN
  go_enter Tryd.func8, Tryd.ntmps8
  go_wp2_with fail
  refine GN.out.mono ?_
  rintro e w1 ⟨rfl, i1, b1, hs1⟩
  have GW := Lib.hid (write_any w.heap.size w.heap.size (most0 m) [] xs St.new 0 2 _ _ _ none 0 A c w1 i1 ((HR.out.below b1).more b1.size) (fun _ h => absurd h (by simp)) ho (by simp) (by omega) b1.size hmb (fun k hk => (b1.cell (p := ⟨_, k, none⟩) hgl).trans (HL.out k hk)) hgl)
  unfold WriteTo at GW
  rw [List.nil_append] at GW
  have B1 := Lib.hid b1
  clear i1 b1 GN
  go_wp2_with fail
  refine GW.out.mono ?_
  rintro e w2 ⟨s, p, e0, vr, vs, vd, A', c', rfl, i2, t2, n2⟩
  have B2 := Lib.hid (B1.out.trans (t2.toBelow (B := w.heap.size) B1.out.size (fun g hg he => by
    rcases he with he | he
    · omega
    · simp [Value.ownBlock] at he)))
  have I2 := Lib.hid i2
  have hEb := err_bd i2.st
  clear i2 t2 n2 GW
  by_cases hok : e0 = 0 ∨ e0 = 2
  · have dz : errI e0 = 0 := errI_ok hok
    rw [dz]
    clear hok dz
    go_wp2_with (go_at_call 18; refine (GA.out _ B2.out).mono ?_; rintro e w3 ⟨rfl, hb3⟩)
    go_ret
    exact ⟨rfl, B2.out.trans (hb3.mono B2.out.size)⟩
  have hE := errI_no hok
  have GE := Lib.hid (fun (W : World) (v : Value) (h : Infl W w.heap.size w.heap.size (most0 m) xs s p e0 vr vs vd A' c') => write_err _ _ _ _ _ _ _ _ _ _ _ _ v W h hok)
  have GO := Lib.hid (fun (W : World) (h : Infl W w.heap.size w.heap.size (most0 m) xs s p e0 vr vs vd A' c') => out_any _ _ _ _ _ _ _ _ _ _ _ _ W h)
  have GD := Lib.hid (fun (W : World) (h : Infl W w.heap.size w.heap.size (most0 m) xs s p e0 vr vs vd A' c') => done_any _ _ _ _ _ _ _ _ _ _ _ _ W h)
  have hdf : doneB s e0 = false := by unfold doneB; rw [beq_eq_false_iff_ne.2 hE.2]; exact Bool.and_false _
  rw [hdf] at GD
  have dE : (errI e0 == 0) = false := beq_eq_false_iff_ne.2 hE.2
  have hlo : s.out.length ≤ 1000000 := by have h1 := (I2.out.st.le hmb.1).1.len; omega
  clear hok hE hdf
  obtain ⟨E, hE⟩ : ∃ E, errI e0 = E := ⟨_, rfl⟩
  rw [hE] at GE dE
  rw [hE]
  clear hE
  go_wp2_with fail
  refine (GO.out _ I2.out).mono ?_
  rintro e w3 ⟨v3, rfl, o3, b3⟩
  obtain ⟨A3, c3, rfl, _, _, hr3⟩ := o3.opened
  have I3 := Lib.hid (I2.out.below b3)
  have B3 := Lib.hid (B2.out.trans (b3.mono B2.out.size))
  have hr3d : Holds w3.drew w3.heap.size .u8 A3 s.out := hr3
  have HR3 := Lib.hid hr3d
  have CV := Lib.hid (fun (W : World) (h : Holds W w3.heap.size .u8 A3 s.out) => conv_any W A3 s.out c3 _ h)
  have id3 : Infl w3.drew w.heap.size w.heap.size (most0 m) xs s p e0 vr vs vd A' c' := I3.out.away (N := w3.heap.size) (w' := w3.drew) ⟨rfl, rfl, rfl, Nat.le_refl _, fun _ _ _ => rfl⟩ (I3.out.ia.blk.lt) (fun g hg => (I3.out.ia.own.lt g hg).2) (fun g hg => (I3.out.or_.lt g hg).2) (fun g hg => (I3.out.os.lt g hg).2) (fun g hg => (I3.out.od.lt g hg).2)
  have ID3 := Lib.hid id3
  clear o3 b3 hr3 hr3d id3
  go_wp2_with fail
  refine wp_region_held_drew (S := (fun W' : World => Holds W' w3.heap.size .u8 A3 s.out)) (by kernel_rfl) HR3.out (fun hS => ?_)
  refine wpAnyH_take (i := 0) (oi := ⟨some 33, _, _, _, _, _⟩) (v := .pointer (some ⟨w.heap.size, 0, none⟩)) rfl (by kernel_rfl) (by kernel_rfl) (by kernel_rfl) (fun _ _ _ h => h) (Or.inl ⟨by rfl, fun W hW => by go_simp⟩) hS ?_
  try simp only [Act.put, List.setIfInBounds_toArray, List.set_cons_zero, List.set_cons_succ]
  refine wpAnyH_take (i := 1) (oi := ⟨some 34, _, _, _, _, _⟩) (v := .slice A2 ys.length c2) rfl (by kernel_rfl) (by kernel_rfl) (by kernel_rfl) (fun _ _ _ h => h) (Or.inl ⟨by rfl, fun W hW => by go_simp⟩) hS ?_
  try simp only [Act.put, List.setIfInBounds_toArray, List.set_cons_zero, List.set_cons_succ]
  refine wpAnyH_take (i := 3) (oi := ⟨some 36, _, _, _, _, _⟩) (v := .int .i64 E) rfl (by kernel_rfl) (by kernel_rfl) (by kernel_rfl) (fun _ _ _ h => h) (Or.inl ⟨by rfl, fun W hW => by go_simp⟩) hS ?_
  try simp only [Act.put, List.setIfInBounds_toArray, List.set_cons_zero, List.set_cons_succ]
  refine wpAnyH_ready (rs := [2]) (by kernel_rfl) (by simp) ?_
  refine AllReadyH.cons rfl (fun K hK => ?_) AllReadyH.nil
  go_simp
  go_at_call 25
  refine (GE.out _ _ ID3.out).mono ?_
  rintro e w4 ⟨rfl, hw4⟩
  subst hw4
  refine hK.out _ _ hS (fun hS => ?_)
  clear hK K
  try simp only [Act.put, List.setIfInBounds_toArray, List.set_cons_zero, List.set_cons_succ]
  refine wpAnyH_take (i := 4) (oi := ⟨some 37, _, _, _, _, _⟩) (v := .bool true) rfl (by kernel_rfl) (by kernel_rfl) (by kernel_rfl) (fun _ _ _ h => h) (Or.inl ⟨by rfl, fun W hW => by go_simp⟩) hS ?_
  try simp only [Act.put, List.setIfInBounds_toArray, List.set_cons_zero, List.set_cons_succ]
  refine wpAnyH_take (i := 5) (oi := ⟨some 38, _, _, _, _, _⟩) (v := .bool true) rfl (by kernel_rfl) (by kernel_rfl) (by kernel_rfl) (fun _ _ _ h => h) (Or.inl ⟨by rfl, fun W hW => by go_simp⟩) hS ?_
  try simp only [Act.put, List.setIfInBounds_toArray, List.set_cons_zero, List.set_cons_succ]
  refine wpAnyH_take (i := 6) (oi := ⟨some 39, _, _, _, _, _⟩) (v := .pointer (some ⟨w.heap.size, 0, none⟩)) rfl (by kernel_rfl) (by kernel_rfl) (by kernel_rfl) (fun _ _ _ h => h) (Or.inl ⟨by rfl, fun W hW => by go_simp⟩) hS ?_
  try simp only [Act.put, List.setIfInBounds_toArray, List.set_cons_zero, List.set_cons_succ]
  refine wpAnyH_take (i := 8) (oi := ⟨some 41, _, _, _, _, _⟩) (v := .int .i64 E) rfl (by kernel_rfl) (by kernel_rfl) (by kernel_rfl) (fun _ _ _ h => h) (Or.inl ⟨by rfl, fun W hW => by go_simp⟩) hS ?_
  try simp only [Act.put, List.setIfInBounds_toArray, List.set_cons_zero, List.set_cons_succ]
  refine wpAnyH_ready (rs := [7]) (by kernel_rfl) (by simp) ?_
  refine AllReadyH.cons rfl (fun K hK => ?_) AllReadyH.nil
  go_simp
  go_at_call 25
  refine (GE.out _ _ ID3.out).mono ?_
  rintro e w4 ⟨rfl, hw4⟩
  subst hw4
  refine hK.out _ _ hS (fun hS => ?_)
  clear hK K
  try simp only [Act.put, List.setIfInBounds_toArray, List.set_cons_zero, List.set_cons_succ]
  refine wpAnyH_take (i := 9) (oi := ⟨some 42, _, _, _, _, _⟩) (v := .bool true) rfl (by kernel_rfl) (by kernel_rfl) (by kernel_rfl) (fun _ _ _ h => h) (Or.inl ⟨by rfl, fun W hW => by go_simp⟩) hS ?_
  try simp only [Act.put, List.setIfInBounds_toArray, List.set_cons_zero, List.set_cons_succ]
  refine wpAnyH_take (i := 10) (oi := ⟨some 43, _, _, _, _, _⟩) (v := .bool true) rfl (by kernel_rfl) (by kernel_rfl) (by kernel_rfl) (fun _ _ _ h => h) (Or.inl ⟨by rfl, fun W hW => by go_simp⟩) hS ?_
  try simp only [Act.put, List.setIfInBounds_toArray, List.set_cons_zero, List.set_cons_succ]
  refine wpAnyH_take (i := 11) (oi := ⟨some 44, _, _, _, _, _⟩) (v := .bool true) rfl (by kernel_rfl) (by kernel_rfl) (by kernel_rfl) (fun _ _ _ h => h) (Or.inl ⟨by rfl, fun W hW => by go_simp⟩) hS ?_
  try simp only [Act.put, List.setIfInBounds_toArray, List.set_cons_zero, List.set_cons_succ]
  refine wpAnyH_take (i := 12) (oi := ⟨some 45, _, _, _, _, _⟩) (v := .pointer (some ⟨w.heap.size, 0, none⟩)) rfl (by kernel_rfl) (by kernel_rfl) (by kernel_rfl) (fun _ _ _ h => h) (Or.inl ⟨by rfl, fun W hW => by go_simp⟩) hS ?_
  try simp only [Act.put, List.setIfInBounds_toArray, List.set_cons_zero, List.set_cons_succ]
  refine wpAnyH_take (i := 15) (oi := ⟨some 48, _, _, _, _, _⟩) (v := .slice A3 s.out.length c3) rfl (by kernel_rfl) (by kernel_rfl) (by kernel_rfl) (fun _ _ _ h => h) (Or.inl ⟨by rfl, fun W hW => by go_simp⟩) hS ?_
  try simp only [Act.put, List.setIfInBounds_toArray, List.set_cons_zero, List.set_cons_succ]
  refine wpAnyH_take (i := 16) (oi := ⟨some 49, _, _, _, _, _⟩) (v := .string (strOfNums s.out)) rfl (by kernel_rfl) (by kernel_rfl) (by kernel_rfl) (fun _ _ _ h => h) (Or.inl ⟨by rfl, fun W hW => by have k1 := CV.out W hW; go_simp⟩) hS ?_
  try simp only [Act.put, List.setIfInBounds_toArray, List.set_cons_zero, List.set_cons_succ]
  refine wpAnyH_ready (rs := [13]) (by kernel_rfl) (by simp) ?_
  refine AllReadyH.cons rfl (fun K hK => ?_) AllReadyH.nil
  go_simp
  go_at_call 26
  refine (GO.out _ ID3.out).mono ?_
  rintro e w5 ⟨v5, rfl, o5, b5⟩
  obtain ⟨A5, c5, rfl, _, _, hr5⟩ := o5.opened
  have cv5 := conv_any w5 A5 s.out c5 _ hr5
  have HS5 : Holds w5 w3.heap.size .u8 A3 s.out := HR3.out.below b5
  have I5 := Lib.hid (ID3.out.below b5)
  have B5 := Lib.hid (B3.out.trans (show Below w.heap.size w3 w5 from (show Below w3.heap.size w3 w5 from ⟨b5.os, b5.tape, b5.output, b5.size, b5.block⟩).mono B3.out.size))
  have hz5 : w3.heap.size ≤ w5.heap.size := b5.size
  clear o5 b5 hr5
  refine hK.out _ _ HS5 (fun hS => ?_)
  clear hK K
  try simp only [Act.put, List.setIfInBounds_toArray, List.set_cons_zero, List.set_cons_succ]
  refine wpAnyH_ready (rs := [14]) (by kernel_rfl) (by simp) ?_
  refine AllReadyH.cons rfl (fun K hK => ?_) AllReadyH.nil
  go_simp
  refine hK.out _ _ HS5 (fun hS => ?_)
  clear hK K
  try simp only [Act.put, List.setIfInBounds_toArray, List.set_cons_zero, List.set_cons_succ]
  refine wpAnyH_take (i := 17) (oi := ⟨some 50, _, _, _, _, _⟩) (v := .bool true) rfl (by kernel_rfl) (by kernel_rfl) (by kernel_rfl) (fun _ _ _ h => h) (Or.inl ⟨by rfl, fun W hW => by go_simp⟩) hS ?_
  try simp only [Act.put, List.setIfInBounds_toArray, List.set_cons_zero, List.set_cons_succ]
  refine wpAnyH_take (i := 18) (oi := ⟨some 51, _, _, _, _, _⟩) (v := .bool true) rfl (by kernel_rfl) (by kernel_rfl) (by kernel_rfl) (fun _ _ _ h => h) (Or.inl ⟨by rfl, fun W hW => by go_simp⟩) hS ?_
  try simp only [Act.put, List.setIfInBounds_toArray, List.set_cons_zero, List.set_cons_succ]
  refine wpAnyH_take (i := 19) (oi := ⟨some 52, _, _, _, _, _⟩) (v := .bool true) rfl (by kernel_rfl) (by kernel_rfl) (by kernel_rfl) (fun _ _ _ h => h) (Or.inl ⟨by rfl, fun W hW => by go_simp⟩) hS ?_
  try simp only [Act.put, List.setIfInBounds_toArray, List.set_cons_zero, List.set_cons_succ]
  refine wpAnyH_take (i := 20) (oi := ⟨some 53, _, _, _, _, _⟩) (v := .pointer (some ⟨w.heap.size, 0, none⟩)) rfl (by kernel_rfl) (by kernel_rfl) (by kernel_rfl) (fun _ _ _ h => h) (Or.inl ⟨by rfl, fun W hW => by go_simp⟩) hS ?_
  try simp only [Act.put, List.setIfInBounds_toArray, List.set_cons_zero, List.set_cons_succ]
  refine wpAnyH_ready (rs := [21]) (by kernel_rfl) (by simp) ?_
  refine AllReadyH.cons rfl (fun K hK => ?_) AllReadyH.nil
  go_simp
  go_at_call 27
  refine (GD.out _ I5.out).mono ?_
  rintro e w6 ⟨rfl, hw6⟩
  subst hw6
  refine hK.out _ _ HS5 (fun hS => ?_)
  clear hK K
  try simp only [Act.put, List.setIfInBounds_toArray, List.set_cons_zero, List.set_cons_succ]
  refine wpAnyH_take (i := 22) (oi := ⟨some 55, _, _, _, _, _⟩) (v := .bool true) rfl (by kernel_rfl) (by kernel_rfl) (by kernel_rfl) (fun _ _ _ h => h) (Or.inl ⟨by rfl, fun W hW => by go_simp⟩) hS ?_
  try simp only [Act.put, List.setIfInBounds_toArray, List.set_cons_zero, List.set_cons_succ]
  refine wpAnyH_take (i := 23) (oi := ⟨some 56, _, _, _, _, _⟩) (v := .bool true) rfl (by kernel_rfl) (by kernel_rfl) (by kernel_rfl) (fun _ _ _ h => h) (Or.inl ⟨by rfl, fun W hW => by go_simp⟩) hS ?_
  try simp only [Act.put, List.setIfInBounds_toArray, List.set_cons_zero, List.set_cons_succ]
  refine wpAnyH_take (i := 24) (oi := ⟨some 57, _, _, _, _, _⟩) (v := .bool true) rfl (by kernel_rfl) (by kernel_rfl) (by kernel_rfl) (fun _ _ _ h => h) (Or.inl ⟨by rfl, fun W hW => by go_simp⟩) hS ?_
  try simp only [Act.put, List.setIfInBounds_toArray, List.set_cons_zero, List.set_cons_succ]
  refine wpAnyH_ready (rs := [25]) (by kernel_rfl) (by simp) ?_
  refine AllReadyH.cons rfl (fun K hK => ?_) AllReadyH.nil
  go_simp
  go_at_call 18
  refine (GA.out _ B5.out).mono ?_
  rintro e w6 ⟨rfl, hb6⟩
  have HS6 : Holds w6 w3.heap.size .u8 A3 s.out := HS5.below (hb6.mono hz5)
  have B6 := Lib.hid (B5.out.trans (hb6.mono B5.out.size))
  refine hK.out _ _ HS6 (fun hS => ?_)
  clear hK K
  try simp only [Act.put, List.setIfInBounds_toArray, List.set_cons_zero, List.set_cons_succ]
  refine wpAnyH_take (i := 26) (oi := ⟨some 59, _, _, _, _, _⟩) (v := .bool true) rfl (by kernel_rfl) (by kernel_rfl) (by kernel_rfl) (fun _ _ _ h => h) (Or.inl ⟨by rfl, fun W hW => by go_simp⟩) hS ?_
  try simp only [Act.put, List.setIfInBounds_toArray, List.set_cons_zero, List.set_cons_succ]
  refine wpAnyH_take (i := 27) (oi := ⟨some 6, _, _, _, _, _⟩) (v := .bool true) rfl (by kernel_rfl) (by kernel_rfl) (by kernel_rfl) (fun _ _ _ h => h) (Or.inl ⟨by rfl, fun W hW => by go_simp⟩) hS ?_
  try simp only [Act.put, List.setIfInBounds_toArray, List.set_cons_zero, List.set_cons_succ]
  refine wpAnyH_done (by kernel_rfl) ?_ _
  go_wp2_with fail
  go_ret
  exact ⟨rfl, B6.out⟩
end Go.Proofs.YthmkeflkhocobaaDoor.InflateEver
