/-
  Layer 3, ots: the sum of rows behind a name: contracts. Conditions: as each theorem names.
  Layer 3, ots: the document's sum of bytes behind an id and a number: contracts. Conditions: as each theorem names.
  Layer 3, ots: where a chain begins, in the document: contracts. Conditions: as each theorem names.
  Layer 3, ots: a chain from one place to another, in the document: contracts. Conditions: as each theorem names.
  Layer 3, ots: the name of a key: contracts. Conditions: as each theorem names.
  Layer 3, ots: rows that are summed behind a name; where a chain begins: contracts. Conditions: as each theorem names.
  Layer 3, ots: a chain from one place to another: contract. Conditions: as each theorem names.
-/
import Derived.Test.YtdfgdchmeikigaaDoorMkC
import Derived.Test.YtdfgdchmeikigaaDoorOct
import Derived.Test.YtdfgdchmeikigaaDoorStB
import Derived.Test.YtdfgdchmeikigaaDoorStA
namespace Go.Proofs.YtdfgdchmeikigaaDoor.Ot
open Go.ChangeShapes Go.WideShapes Go.ChangeAt Go.RowKit Go.Proofs.YtdfgdchmeikigaaDoor.Kit Go.Proofs.YtdfgdchmeikigaaDoor.Sha Go.Proofs.YtdfgdchmeikigaaDoor.Mk

theorem arr20 : Tryd.prog.underlying 78 = some (.array 20 5) := Tryd.underlying78

theorem new_two (w : World) (o p : Obj) :
    Calls Tryd.prog 83 #[] ((w.alloc o).alloc p) fun e w' => e = .returned (.pointer (some ⟨w.heap.size + 2, 0, none⟩)) ∧ HashIs w' (w.heap.size + 2) [] ∧ Below (w.heap.size + 2) ((w.alloc o).alloc p) w' := by
  have h : ((w.alloc o).alloc p).heap.size = w.heap.size + 2 := by simp
  have := new_any ((w.alloc o).alloc p)
  rwa [h] at this

set_option maxRecDepth 100000 in
set_option maxHeartbeats 3200000 in
theorem nsum_any (nm : List Int) (hnl : nm.length = 20) (hno : Octets nm) (A : Option Addr) (rs : List Rw) (c : Nat) (w : World) (hc : rs.length ≤ c) (hm : c ≤ maxLen) (hr : HoldsW w w.heap.size A rs) (h1 : rs.length ≤ 1000) (h2 : ∀ r ∈ rs, r.zs.length ≤ 100000) (hL : LaidS w) :
    Calls Tryd.prog 58 #[.agg (nm.map (Value.int .u8)).toArray, .slice A rs.length c] w (Sums (sumL (nm ++ joinL rs)) w) := by
  unfold maxLen at hm
  have hg0 : w.heap.size + 2 ≠ 0 := by have := hL.lt (by rw [cubes_length]; omega); omega
  have hoct := hr.octets
  have hb0 : Below w.heap.size w ((w.alloc (.cells (nm.map (Value.int .u8)).toArray 78)).alloc (.cells ((List.replicate 32 (0 : Int)).map (Value.int .u8)).toArray 26)) := below_two' _ _
  have n0 : Arr ((w.alloc (.cells (nm.map (Value.int .u8)).toArray 78)).alloc (.cells ((List.replicate 32 (0 : Int)).map (Value.int .u8)).toArray 26)) w.heap.size 78 .u8 nm := (Arr.new w _ _ nm).alloc _
  have r0 : Arr ((w.alloc (.cells (nm.map (Value.int .u8)).toArray 78)).alloc (.cells ((List.replicate 32 (0 : Int)).map (Value.int .u8)).toArray 26)) (w.heap.size + 1) 26 .u8 (List.replicate 32 0) := by
    have := Arr.new (w.alloc (.cells (nm.map (Value.int .u8)).toArray 78)) 26 .u8 (List.replicate 32 0)
    rwa [show (w.alloc (.cells (nm.map (Value.int .u8)).toArray 78)).heap.size = w.heap.size + 1 by simp] at this
  have GW := Lib.hid (fun W A2 (hb : Below w.heap.size w W) (h : HashIs W (w.heap.size + 2) []) (h4 : Holds W W.heap.size .u8 A2 nm) (h5 : Far (w.heap.size + 2) A2 nm) => write_any (w.heap.size + 2) [] A2 nm nm.length W h (by simp; omega) (fun _ h => absurd h (by simp)) (Nat.le_refl _) (by rw [hnl]; decide) hno h4 h5 (hL.below hb) hg0)
  go_enter Tryd.func58, Tryd.ntmps58
  go_wp2_with fail
  refine (new_two w _ _).mono ?_
  rintro e w1 ⟨rfl, hh1, hb1⟩
  have r1 := Block.below r0 hb1 (by omega)
  have n1 := Block.below n0 hb1 (by omega)
  have b1 := hb0.trans (hb1.mono (by omega))
  have hlt1 : w.heap.size + 2 < w1.heap.size := hh1.lt
  have far1 : Far (w.heap.size + 2) (some ⟨w.heap.size, 0, none⟩) nm := by
    intro _ a ha
    injection ha with ha
    subst ha
    show w.heap.size ≠ _
    omega
  have n2 := Arr.holds_all n1
  have HN := Lib.hid hnl
  clear hb1 hb0 n0 r0 n1
  rw [hnl] at GW
  go_wp2_with fail
  refine (GW.out _ _ b1 hh1 n2 far1).mono ?_
  rintro e w3 ⟨rfl, hh3, t3⟩
  have b3 := b1.trans (t3.toBelow b1.size fun b hb he => by omega)
  have r3 := Block.out r1 t3 (by omega)
  rw [List.nil_append] at hh3
  clear n2 r1 hh1 b1 far1 t3 hlt1
  go_wp2_with fail
  go_loopw [14] (fun s wr => ∃ i : Nat, i ≤ rs.length ∧ s = .int .i64 i ∧ HashIs wr (w.heap.size + 2) (nm ++ joinL (rs.take i)) ∧ Arr wr (w.heap.size + 1) 26 .u8 (List.replicate 32 0) ∧ Below w.heap.size w wr) (fun s _ => rs.length - (intOf s).toNat)
  case atStart => exact ⟨0, by omega, rfl, by simpa [joinL] using hh3, r3, b3⟩
  case round =>
    clear hh3 r3 b3
    obtain ⟨i, hi, rfl, hh, r, hb⟩ := hrel
    have hjb := joinL_le (rs := rs.take i) (m := 100000) (fun r hr => h2 r (List.mem_of_mem_take hr))
    rw [List.length_take] at hjb
    have hjo : Octets (nm ++ joinL (rs.take i)) := by
      intro x hx
      rcases List.mem_append.1 hx with hx | hx
      · exact hno x hx
      · exact joinL_octets (rs := rs.take i) (fun r hr => hoct r (List.mem_of_mem_take hr)) x hx
    by_cases hlt : i < rs.length
    · have hjn := joinL_next hlt
      have hz := h2 _ (List.getElem_mem hlt)
      obtain ⟨b, off, rfl, hbl, cw, k1, k2, hoz, hrz⟩ := rwAt hr hlt
      have GQ := Lib.hid (write_any (w.heap.size + 2) (nm ++ joinL (rs.take i)) rs[i].A rs[i].zs rs[i].cap wr hh (by simp; omega) hjo k1 k2 hoz ((hrz.below hb).more hb.size) (far_of hrz (by omega)) (hL.below hb) hg0)
      rw [List.append_assoc, ← hjn] at GQ
      have c0 : wr.cell? ⟨b, off + i, none⟩ = some (.slice rs[i].A rs[i].zs.length rs[i].cap) := (hb.cell (p := ⟨b, off + i, none⟩) hbl).trans cw
      generalize rs[i] = q at *
      clear hjn hjo hjb hh hrz cw
      go_wp2_with (go_at_call 84; refine GQ.out.mono ?_; rintro e w4 ⟨rfl, h4, t4⟩; have b4 := hb.trans (t4.toBelow hb.size fun b hb he => by omega); have r4 := Block.out r t4 (by omega))
      go_roundw
      case rel => exact ⟨i + 1, by omega, by go_num, h4, r4, b4⟩
      case measure => simp [intOf] <;> omega
    · obtain rfl : i = rs.length := by omega
      rw [List.take_of_length_le (Nat.le_refl _)] at hh hjo hjb
      have GS := Lib.hid (hsum_any (w.heap.size + 2) (nm ++ joinL rs) wr hh (by simp; omega) hjo (hL.below hb) hg0)
      have hsl := Lib.hid (sumL_length (nm ++ joinL rs))
      generalize sumL (nm ++ joinL rs) = ys at *
      clear hjo hjb
      go_wp2_with (first
        | (go_at_call 85; refine GS.out.mono ?_; rintro e w5 ⟨rfl, hb5⟩; have r5 : Arr w5 (w.heap.size + 1) 26 .u8 (List.replicate 32 0) := Block.below r hb5 (Block.lt r); have b5 := hb.trans (hb5.mono hb.size))
        | (have _t := r5; refine wpList_store_arr rfl _ _ _ rfl r5 rfl rfl (by rw [hsl.out]; rfl) (by rw [hsl.out]; kernel_rfl) ?_; intro w9 r9 g9))
      refine bodyPost_ret (v := arrV .u8 ys) (results_cell_row rfl _ _ (w.heap.size + 1) 26 _ (0, 0) _ rfl r9 arr32D rfl (by rw [show (ys.map (Value.int .u8)).toArray.size = 32 by simp [hsl.out]]; kernel_rfl)) rfl ⟨rfl, ?_⟩
      exact b5.trans (below_of_grown g9 b5.size fun b hb => by injection hb with hb; omega)
end Go.Proofs.YtdfgdchmeikigaaDoor.Ot

namespace Go.Proofs.YtdfgdchmeikigaaDoor.Ot
open Go.ChangeShapes Go.WideShapes Go.ChangeAt Go.RowKit Go.Proofs.YtdfgdchmeikigaaDoor.Kit Go.Proofs.YtdfgdchmeikigaaDoor.Sha Go.Proofs.YtdfgdchmeikigaaDoor.Mk Go.Proofs.YtdfgdchmeikigaaDoor.Oct

/-- A name: the id, and the number in four bytes. -/
def nmL (id : List Int) (q : Int) : List Int := id ++ be 4 q
theorem be_octets (n : Nat) (x : Int) : Octets (be n x) := by
  intro y hy
  obtain ⟨i, _, rfl⟩ := List.mem_map.1 hy
  exact byteAt_bd _ _
theorem nmL_length {id : List Int} {q : Int} (h : id.length = 16) : (nmL id q).length = 20 := by unfold nmL; rw [List.length_append, be_length, h]
theorem nmL_octets {id : List Int} {q : Int} (h : Octets id) : Octets (nmL id q) := by
  intro x hx
  rcases List.mem_append.1 hx with hx | hx
  · exact h x hx
  · exact be_octets _ _ x hx

theorem arr16 : Tryd.prog.underlying 23 = some (.array 16 5) := Tryd.underlying23

set_option maxRecDepth 100000 in
set_option maxHeartbeats 3200000 in
theorem around_any (id : List Int) (hid : id.length = 16) (hio : Octets id) (q : Int) (hq : 0 ≤ q ∧ q < 4294967296) (A : Option Addr) (bs : List Int) (c : Nat) (w : World) (hx : bs.length ≤ 90000) (hc : bs.length ≤ c) (hm : c ≤ maxLen) (ho : Octets bs) (hr : Holds w w.heap.size .u8 A bs) :
    Calls Tryd.prog 82 #[.agg (id.map (Value.int .u8)).toArray, .int .u32 q, .slice A bs.length c] w (Sums (sumL (nmL id q ++ bs)) w) := by
  have bb : ∀ o p z, Below w.heap.size w (((w.alloc o).alloc p).alloc z) := fun o p z => (below_two' o p).alloc (by simp; omega) z
  have i0 : ∀ p z, Arr (((w.alloc (.cells (id.map (Value.int .u8)).toArray 23)).alloc p).alloc z) w.heap.size 23 .u8 id := fun p z => ((Arr.new w _ _ id).alloc p).alloc z
  have r0 : ∀ o z, Arr (((w.alloc o).alloc (.cells ((List.replicate 32 (0 : Int)).map (Value.int .u8)).toArray 24)).alloc z) (w.heap.size + 1) 24 .u8 (List.replicate 32 0) := fun o z => by
    have := (Arr.new (w.alloc o) 24 .u8 (List.replicate 32 0)).alloc z
    rwa [show (w.alloc o).heap.size = w.heap.size + 1 by simp] at this
  have own0 : ∀ o p, Own (((w.alloc o).alloc p).alloc (.cells #[] 5)) (w.heap.size + 2) 5 .u8 (.slice (some ⟨w.heap.size + 2, 0, none⟩) 0 0) [] := fun o p => by
    have := Own.empty (B := w.heap.size + 2) ((w.alloc o).alloc p) 5 .u8 (by simp)
    rwa [show ((w.alloc o).alloc p).heap.size = w.heap.size + 2 by simp] at this
  have hsl := Lib.hid (sumL_length (nmL id q ++ bs))
  have hno := nmL_octets (q := q) hio
  have hnl := nmL_length (q := q) hid
  have GP := Lib.hid (fun W A1 c1 (h : Holds W W.heap.size .u8 A1 id) => rput_any A1 id c1 0 4 q W (by omega) h ⟨hq.1, by omega⟩)
  have GS := Lib.hid (fun W A1 c1 (h2 : (nmL id q ++ bs).length ≤ c1) (h3 : c1 ≤ maxLen) (h4 : Holds W W.heap.size .u8 A1 (nmL id q ++ bs)) => rsum_any A1 (nmL id q ++ bs) c1 W (by simp; omega) h2 h3 (by intro x hx; rcases List.mem_append.1 hx with hx | hx; exact hno x hx; exact ho x hx) h4)
  have HI := Lib.hid hid
  have HM := Lib.hid hm
  clear hm hio hid
  go_enter Tryd.func82, Tryd.ntmps82
  go_wp2_with (at_builtin; refine wpList_append_ints _ rfl (.tmp 9) (.tmp 10) 35 rfl Oct.elem8 (own0 _ _) rfl (by rw [HI.out]; rfl) (Arr.holds_all (i0 _ _)) (by rw [List.length_nil, HI.out]; decide) (by simp) ?_; intro v1 w1 own1 hg1 hb1 _; rw [List.nil_append] at own1)
  have r1 := Block.below (r0 _ _) hb1 (by omega)
  have b1 := (bb _ _ _).trans (hb1.mono (by omega))
  obtain ⟨A1, c1, rfl, k1, m1, h1⟩ := own1.opened
  clear own0 own1 hg1 hb1 bb r0 i0
  have GP := Lib.hid (GP.out w1 A1 c1 h1)
  rw [HI.out] at GP ⊢
  clear h1
  go_wp2_with fail
  refine GP.out.mono ?_
  rintro e w2 ⟨v2, rfl, own2, hb2⟩
  have own2 : Own w2 w1.heap.size 5 .u8 v2 (nmL id q) := own2
  have r2 := Block.below r1 hb2 (Block.lt r1)
  have b2 := b1.trans (hb2.mono b1.size)
  have h2 := hr.below b2
  have hs2 := hb2.size
  have hlt1 := Block.lt r1
  clear hb2 r1 GP
  go_wp2_with (have _t := own2; refine wpList_append_ints _ rfl (.tmp 16) (.tmp 17) 35 rfl Oct.elem8 own2 rfl rfl h2 (by rw [hnl]; omega) hs2 ?_; clear _t; intro v3 w3 own3 hg3 hb3 _)
  have r3 := Block.below r2 hb3 (by omega)
  have b3 := b2.trans (hb3.mono (by omega))
  obtain ⟨A3, c3, rfl, k3, m3, h3⟩ := own3.opened
  have GS := Lib.hid (GS.out w3 A3 c3 k3 m3 h3)
  clear own2 own3 hg3 hb3 h2 h3 r2 b2
  generalize sumL (nmL id q ++ bs) = ys at *
  go_wp2_with fail
  refine GS.out.mono ?_
  rintro e w5 ⟨rfl, hb5⟩
  have r5 : Arr w5 (w.heap.size + 1) 24 .u8 (List.replicate 32 0) := Block.below r3 hb5 (Block.lt r3)
  have b5 := b3.trans (hb5.mono b3.size)
  go_wp2_with (have _t := r5; refine wpList_store_arr rfl _ _ _ rfl r5 rfl rfl (by rw [hsl.out]; rfl) (by rw [hsl.out]; kernel_rfl) ?_; intro w9 r9 g9)
  refine bodyPost_ret (v := arrV .u8 ys) (results_cell_row rfl _ _ (w.heap.size + 1) 24 _ (0, 0) _ rfl r9 arr32A rfl (by rw [show (ys.map (Value.int .u8)).toArray.size = 32 by simp [hsl.out]]; kernel_rfl)) rfl ⟨rfl, ?_⟩
  exact b5.trans (below_of_grown g9 b5.size fun b hb => by injection hb with hb; omega)
end Go.Proofs.YtdfgdchmeikigaaDoor.Ot

namespace Go.Proofs.YtdfgdchmeikigaaDoor.Ot
open Go.ChangeShapes Go.WideShapes Go.ChangeAt Go.RowKit Go.Proofs.YtdfgdchmeikigaaDoor.Kit Go.Proofs.YtdfgdchmeikigaaDoor.Sha Go.Proofs.YtdfgdchmeikigaaDoor.Mk Go.Proofs.YtdfgdchmeikigaaDoor.Oct

/-- Where a chain begins. -/
def secL (nm : List Int) (i : Int) (seed : List Int) : List Int := sumL (nm ++ (be 2 i ++ [255] ++ seed))
/-- A chain's step from the place j. -/
def stepL (nm : List Int) (i j : Int) (d : List Int) : List Int := sumL (nm ++ (be 2 i ++ [j] ++ d))
theorem secL_d32 (nm : List Int) (i : Int) (seed : List Int) : D32 (secL nm i seed) := sumL_d32 _
theorem stepL_d32 (nm : List Int) (i j : Int) (d : List Int) : D32 (stepL nm i j d) := sumL_d32 _

theorem mid_octets {i j : Int} {d : List Int} (hj : 0 ≤ j ∧ j ≤ 255) (hd : Octets d) : Octets (be 2 i ++ [j] ++ d) := by
  intro x hx
  rcases List.mem_append.1 hx with hx | hx
  · rcases List.mem_append.1 hx with hx | hx
    · exact be_octets _ _ x hx
    · simp at hx; omega
  · exact hd x hx

set_option maxRecDepth 100000 in
set_option maxHeartbeats 3200000 in
theorem rsecret_any (id : List Int) (hid : id.length = 16) (hio : Octets id) (q : Int) (hq : 0 ≤ q ∧ q < 4294967296) (i : Int) (hi : 0 ≤ i ∧ i ≤ 65535) (seed : List Int) (hs : D32 seed) (w : World) :
    Calls Tryd.prog 56 #[.agg (id.map (Value.int .u8)).toArray, .int .u32 q, .int .i64 i, .agg (seed.map (Value.int .u8)).toArray] w (Sums (secL (nmL id q) i seed) w) := by
  have bb : ∀ o p y z, Below w.heap.size w ((((w.alloc o).alloc p).alloc y).alloc z) := fun o p y z => ((below_two' o p).alloc (by simp; omega) y).alloc (by simp; omega) z
  have i0 : ∀ p y z, Arr ((((w.alloc (.cells (id.map (Value.int .u8)).toArray 23)).alloc p).alloc y).alloc z) w.heap.size 23 .u8 id := fun p y z => (((Arr.new w _ _ id).alloc p).alloc y).alloc z
  have s0 : ∀ o y z, Arr ((((w.alloc o).alloc (.cells (seed.map (Value.int .u8)).toArray 24)).alloc y).alloc z) (w.heap.size + 1) 24 .u8 seed := fun o y z => by
    have := ((Arr.new (w.alloc o) 24 .u8 seed).alloc y).alloc z
    rwa [show (w.alloc o).heap.size = w.heap.size + 1 by simp] at this
  have r0 : ∀ o p z, Arr ((((w.alloc o).alloc p).alloc (.cells ((List.replicate 32 (0 : Int)).map (Value.int .u8)).toArray 24)).alloc z) (w.heap.size + 2) 24 .u8 (List.replicate 32 0) := fun o p z => by
    have := (Arr.new ((w.alloc o).alloc p) 24 .u8 (List.replicate 32 0)).alloc z
    rwa [show ((w.alloc o).alloc p).heap.size = w.heap.size + 2 by simp] at this
  have hsl := Lib.hid (secL_d32 (nmL id q) i seed).1
  have hls := Lib.hid hs.1
  have hos := hs.2
  have HI := Lib.hid hid
  have GP := Lib.hid (fun W A1 c1 (h : Holds W W.heap.size .u8 A1 []) => rput_any A1 [] c1 0 2 i W (by simp) h ⟨hi.1, by omega⟩)
  have GS := Lib.hid (fun W A1 c1 (h2 : (be 2 i ++ [255] ++ seed).length ≤ c1) (h3 : c1 ≤ maxLen) (h4 : Holds W W.heap.size .u8 A1 (be 2 i ++ [255] ++ seed)) => around_any id hid hio q hq A1 (be 2 i ++ [255] ++ seed) c1 W (by simp [be_length, hls.out]) h2 h3 (mid_octets (by omega) hos) h4)
  clear hid hs
  have hbl := Lib.hid (be_length 2 i)
  go_enter Tryd.func56, Tryd.ntmps56
  go_wp2_with fail
  refine (GP.out _ _ _ Holds.nil).mono ?_
  rintro e w2 ⟨v2, rfl, own2, hb2⟩
  have own2 : Own w2 (w.heap.size + 1 + 1 + 1 + 1) 5 .u8 v2 (be 2 i) := by simpa using (show Own w2 _ _ _ _ (be 2 i) from own2)
  have i2 : Arr w2 w.heap.size 23 .u8 id := Block.below (i0 _ _ _) hb2 (by simp <;> omega)
  have s2 : Arr w2 (w.heap.size + 1) 24 .u8 seed := Block.below (s0 _ _ _) hb2 (by simp <;> omega)
  have r2 : Arr w2 (w.heap.size + 2) 24 .u8 (List.replicate 32 0) := Block.below (r0 _ _ _) hb2 (by simp <;> omega)
  have b2 := (bb _ _ _ _).trans (hb2.mono (by simp <;> omega))
  have z2 := hb2.size
  simp only [World.size_alloc] at z2
  clear i0 s0 r0 bb hb2
  go_wp2_with (first
    | (have _t := own2; at_builtin; refine wpList_append_one _ rfl (.tmp 14) (.tmp 15) 35 rfl Oct.elem8 own2 rfl rfl (by rw [hbl.out]; decide) z2 ?_; clear _t own2; intro v3 w3 own3 hg3 hb3
       have i3 : Arr w3 w.heap.size 23 .u8 id := Block.below i2 hb3 (by omega)
       have s3 : Arr w3 (w.heap.size + 1) 24 .u8 seed := Block.below s2 hb3 (by omega)
       have r3 : Arr w3 (w.heap.size + 2) 24 .u8 (List.replicate 32 0) := Block.below r2 hb3 (by omega)
       have b3 := b2.trans (hb3.mono (by omega))
       have z3 := Nat.le_trans z2 hb3.size
       have hl3 := Lib.hid (show (be 2 i ++ [255]).length = 3 by rw [List.length_append, hbl.out]; rfl)
       clear i2 s2 r2 b2 hg3 hb3)
    | (have _t := own3; at_builtin; refine wpList_append_ints _ rfl (.tmp 17) (.tmp 18) 35 rfl Oct.elem8 own3 rfl (by rw [hls.out]; rfl) (Arr.holds_all s3) (by rw [hl3.out, hls.out]; decide) z3 ?_; clear _t own3; intro v4 w4 own4 hg4 hb4 _
       have i4 : Arr w4 w.heap.size 23 .u8 id := Block.below i3 hb4 (by omega)
       have r4 : Arr w4 (w.heap.size + 2) 24 .u8 (List.replicate 32 0) := Block.below r3 hb4 (by omega)
       have b4 := b3.trans (hb4.mono (by omega))
       obtain ⟨A4, c4, rfl, k4, m4, h4⟩ := own4.opened
       have GS := Lib.hid (GS.out w4 A4 c4 k4 m4 h4)
       change Hid (Calls _ _ #[arrV .u8 id, _, _] _ (Sums (secL (nmL id q) i seed) w4)) at GS
       clear own4 i3 s3 r3 b3 hg4 hb4 h4
       generalize secL (nmL id q) i seed = ys at *
       generalize be 2 i ++ [255] ++ seed = ms at *)
    | (have _t := i4; refine wpList_load_arr rfl _ _ rfl i4 rfl arr16 rfl (by rw [HI.out]; kernel_rfl) ?_)
    | (go_at_call 82; refine GS.out.mono ?_; rintro e w5 ⟨rfl, hb5⟩; have r5 : Arr w5 (w.heap.size + 2) 24 .u8 (List.replicate 32 0) := Block.below r4 hb5 (Block.lt r4); have b5 := b4.trans (hb5.mono b4.size))
    | (have _t := r5; refine wpList_store_arr rfl _ _ _ rfl r5 rfl rfl (by rw [hsl.out]; rfl) (by rw [hsl.out]; kernel_rfl) ?_; intro w9 r9 g9))
  refine bodyPost_ret (v := arrV .u8 ys) (results_cell_row rfl _ _ (w.heap.size + 2) 24 _ (0, 0) _ rfl r9 arr32A rfl (by rw [show (ys.map (Value.int .u8)).toArray.size = 32 by simp [hsl.out]]; kernel_rfl)) rfl ⟨rfl, ?_⟩
  exact b5.trans (below_of_grown g9 b5.size fun b hb => by injection hb with hb; omega)
end Go.Proofs.YtdfgdchmeikigaaDoor.Ot

namespace Go.Proofs.YtdfgdchmeikigaaDoor.Ot
open Go.ChangeShapes Go.WideShapes Go.ChangeAt Go.RowKit Go.Proofs.YtdfgdchmeikigaaDoor.Kit Go.Proofs.YtdfgdchmeikigaaDoor.Sha Go.Proofs.YtdfgdchmeikigaaDoor.Mk Go.Proofs.YtdfgdchmeikigaaDoor.Oct

/-- n steps of a chain, from the place f on. -/
def walkL (nm : List Int) (i : Int) (f : Nat) : Nat → List Int → List Int
  | 0, d => d
  | n + 1, d => stepL nm i ((f : Int) + (n : Int)) (walkL nm i f n d)
theorem walkL_d32 {nm : List Int} {i : Int} {f n : Nat} {d : List Int} (h : D32 d) : D32 (walkL nm i f n d) := by
  cases n with
  | zero => exact h
  | succ n => exact stepL_d32 _ _ _ _

set_option maxRecDepth 100000 in
set_option maxHeartbeats 3200000 in
theorem rwalk_any (id : List Int) (hid : id.length = 16) (hio : Octets id) (q : Int) (hq : 0 ≤ q ∧ q < 4294967296) (i : Int) (hi : 0 ≤ i ∧ i ≤ 65535) (f t : Nat) (hf : f ≤ t) (ht : t ≤ 255) (d : List Int) (hd : D32 d) (w : World) :
    Calls Tryd.prog 54 #[.agg (id.map (Value.int .u8)).toArray, .int .u32 q, .int .i64 i, .int .i64 f, .int .i64 t, .agg (d.map (Value.int .u8)).toArray] w (Sums (walkL (nmL id q) i f (t - f) d) w) := by
  have bb : ∀ o p y, Below w.heap.size w (((w.alloc o).alloc p).alloc y) := fun o p y => (below_two' o p).alloc (by simp; omega) y
  have i0 : ∀ p y, Arr (((w.alloc (.cells (id.map (Value.int .u8)).toArray 23)).alloc p).alloc y) w.heap.size 23 .u8 id := fun p y => ((Arr.new w _ _ id).alloc p).alloc y
  have s0 : ∀ o y, Arr (((w.alloc o).alloc (.cells (d.map (Value.int .u8)).toArray 24)).alloc y) (w.heap.size + 1) 24 .u8 d := fun o y => by
    have := (Arr.new (w.alloc o) 24 .u8 d).alloc y
    rwa [show (w.alloc o).heap.size = w.heap.size + 1 by simp] at this
  have r0 : ∀ o p, Arr (((w.alloc o).alloc p).alloc (.cells ((List.replicate 32 (0 : Int)).map (Value.int .u8)).toArray 24)) (w.heap.size + 2) 24 .u8 (List.replicate 32 0) := fun o p => by
    have := Arr.new ((w.alloc o).alloc p) 24 .u8 (List.replicate 32 0)
    rwa [show ((w.alloc o).alloc p).heap.size = w.heap.size + 2 by simp] at this
  have HI := Lib.hid hid
  have GP := Lib.hid (fun W A1 c1 (h : Holds W W.heap.size .u8 A1 []) => rput_any A1 [] c1 0 2 i W (by simp) h ⟨hi.1, by omega⟩)
  have GS := Lib.hid (fun (j : Int) (hj : 0 ≤ j ∧ j ≤ 255) (x : List Int) (hx : D32 x) W A1 c1 (h2 : (be 2 i ++ [j] ++ x).length ≤ c1) (h3 : c1 ≤ maxLen) (h4 : Holds W W.heap.size .u8 A1 (be 2 i ++ [j] ++ x)) => around_any id hid hio q hq A1 (be 2 i ++ [j] ++ x) c1 W (by simp [be_length, hx.1]) h2 h3 (mid_octets hj hx.2) h4)
  have HD := Lib.hid hd
  clear hid hd
  have hbl := Lib.hid (be_length 2 i)
  go_enter Tryd.func54, Tryd.ntmps54
  go_wp2_with fail
  go_loopw [13, 14] (fun s _ wr => ∃ k : Nat, f + k ≤ t ∧ s = .int .i64 ((f + k : Nat) : Int) ∧ Arr wr w.heap.size 23 .u8 id ∧ Arr wr (w.heap.size + 1) 24 .u8 (walkL (nmL id q) i f k d) ∧ Arr wr (w.heap.size + 2) 24 .u8 (List.replicate 32 0) ∧ Below w.heap.size w wr) (fun s _ _ => t - (intOf s).toNat)
  case atStart => exact ⟨0, by omega, rfl, i0 _ _, s0 _ _, r0 _ _, bb _ _ _⟩
  case round =>
    clear i0 s0 r0 bb
    obtain ⟨k, hk, rfl, ia, sa, ra, hb⟩ := hrel
    have hxd := walkL_d32 (nm := nmL id q) (i := i) (f := f) (n := k) HD.out
    by_cases hlt : f + k < t
    · have hls := Lib.hid hxd.1
      have hj : (0 : Int) ≤ ((f : Int) + (k : Int)) ∧ ((f : Int) + (k : Int)) ≤ 255 := by omega
      have GS := Lib.hid (GS.out _ hj _ hxd)
      have hne : walkL (nmL id q) i f (k + 1) d = sumL (nmL id q ++ (be 2 i ++ [((f : Int) + (k : Int))] ++ walkL (nmL id q) i f k d)) := rfl
      have hsl := Lib.hid (walkL_d32 (nm := nmL id q) (i := i) (f := f) (n := k + 1) HD.out).1
      rw [hne] at hsl
      have zb := hb.size
      have hlz := Block.lt ra
      generalize walkL (nmL id q) i f k d = x at *
      generalize sumL (nmL id q ++ (be 2 i ++ [((f : Int) + (k : Int))] ++ x)) = ys at *
      clear hxd
      have hne := Lib.hid hne
      go_wp2_with (first
        | (go_at_call 61; refine (GP.out _ _ _ Holds.nil).mono ?_; rintro e w2 ⟨v2, rfl, own2, hb2⟩
           have own2 : Own w2 (wr.heap.size + 1) 5 .u8 v2 (be 2 i) := by simpa using (show Own w2 _ _ _ _ (be 2 i) from own2)
           have i2 : Arr w2 w.heap.size 23 .u8 id := Block.below (ia.alloc _) hb2 (by simp <;> omega)
           have s2 : Arr w2 (w.heap.size + 1) 24 .u8 x := Block.below (sa.alloc _) hb2 (by simp <;> omega)
           have r2 : Arr w2 (w.heap.size + 2) 24 .u8 (List.replicate 32 0) := Block.below (ra.alloc _) hb2 (by simp <;> omega)
           have b2 := (hb.alloc zb (.cells #[] 5)).trans (hb2.mono (by simp <;> omega))
           have z2 := hb2.size
           simp only [World.size_alloc] at z2
           clear hb2)
        | (have _t := own2; at_builtin; refine wpList_append_one _ rfl (.tmp 25) (.tmp 28) 35 rfl Oct.elem8 own2 rfl rfl (by rw [hbl.out]; decide) z2 ?_; clear _t own2; intro v3 w3 own3 hg3 hb3
           have i3 : Arr w3 w.heap.size 23 .u8 id := Block.below i2 hb3 (by omega)
           have s3 : Arr w3 (w.heap.size + 1) 24 .u8 x := Block.below s2 hb3 (by omega)
           have r3 : Arr w3 (w.heap.size + 2) 24 .u8 (List.replicate 32 0) := Block.below r2 hb3 (by omega)
           have b3 := b2.trans (hb3.mono (by omega))
           have z3 := Nat.le_trans z2 hb3.size
           have hl3 := Lib.hid (show (be 2 i ++ [((f : Int) + (k : Int))]).length = 3 by rw [List.length_append, hbl.out]; rfl)
           clear i2 s2 r2 b2 hg3 hb3)
        | (have _t := own3; at_builtin; refine wpList_append_ints _ rfl (.tmp 30) (.tmp 31) 35 rfl Oct.elem8 own3 rfl (by rw [hls.out]; rfl) (Arr.holds_all s3) (by rw [hl3.out, hls.out]; decide) z3 ?_; clear _t own3; intro v4 w4 own4 hg4 hb4 _
           have i4 : Arr w4 w.heap.size 23 .u8 id := Block.below i3 hb4 (by omega)
           have s4 : Arr w4 (w.heap.size + 1) 24 .u8 x := Block.below s3 hb4 (by omega)
           have r4 : Arr w4 (w.heap.size + 2) 24 .u8 (List.replicate 32 0) := Block.below r3 hb4 (by omega)
           have b4 := b3.trans (hb4.mono (by omega))
           obtain ⟨A4, c4, rfl, k4, m4, h4⟩ := own4.opened
           have GS := Lib.hid (GS.out w4 A4 c4 k4 m4 h4)
           clear own4 i3 s3 r3 b3 hg4 hb4 h4
           generalize be 2 i ++ [((f : Int) + (k : Int))] ++ x = ms at *)
        | (have _t := i4; refine wpList_load_arr rfl _ _ rfl i4 rfl arr16 rfl (by rw [HI.out]; kernel_rfl) ?_)
        | (go_at_call 82; refine GS.out.mono ?_; rintro e w5 ⟨rfl, hb5⟩
           have i5 : Arr w5 w.heap.size 23 .u8 id := Block.below i4 hb5 (Block.lt i4)
           have s5 : Arr w5 (w.heap.size + 1) 24 .u8 x := Block.below s4 hb5 (Block.lt s4)
           have r5 : Arr w5 (w.heap.size + 2) 24 .u8 (List.replicate 32 0) := Block.below r4 hb5 (Block.lt r4)
           have b5 := b4.trans (hb5.mono b4.size)
           clear i4 s4 r4 b4)
        | (have _t := s5; refine wpList_store_arr rfl _ _ _ rfl s5 rfl rfl (by rw [hsl.out, hls.out]) (by rw [hsl.out]; kernel_rfl) ?_; intro w9 s9 g9))
      go_roundw
      case rel => exact ⟨k + 1, by omega, by go_num, Block.grown i5 g9 (by intro h; injection h with h; omega), (by rw [hne.out]; exact s9), Block.grown r5 g9 (by intro h; injection h with h; omega), b5.trans (below_of_grown g9 b5.size fun b hb => by injection hb with hb; omega)⟩
      case measure => simp [intOf] <;> omega
    · obtain rfl : k = t - f := by omega
      have hsl := Lib.hid hxd.1
      generalize walkL (nmL id q) i f (t - f) d = ys at *
      clear hxd
      go_wp2_with (first
        | (have _t := sa; refine wpList_load_arr rfl _ _ rfl sa rfl arr32A rfl (by rw [hsl.out]; kernel_rfl) ?_)
        | (have _t := ra; refine wpList_store_arr rfl _ _ _ rfl ra rfl rfl (by rw [hsl.out]; rfl) (by rw [hsl.out]; kernel_rfl) ?_; intro w9 r9 g9))
      refine bodyPost_ret (v := arrV .u8 ys) (results_cell_row rfl _ _ (w.heap.size + 2) 24 _ (0, 0) _ rfl r9 arr32A rfl (by rw [show (ys.map (Value.int .u8)).toArray.size = 32 by simp [hsl.out]]; kernel_rfl)) rfl ⟨rfl, ?_⟩
      exact hb.trans (below_of_grown g9 hb.size fun b hb => by injection hb with hb; omega)
end Go.Proofs.YtdfgdchmeikigaaDoor.Ot

namespace Go.Proofs.YtdfgdchmeikigaaDoor.Ot
open Go.ChangeShapes Go.WideShapes Go.ChangeAt Go.RowKit Go.Proofs.YtdfgdchmeikigaaDoor.Kit Go.Proofs.YtdfgdchmeikigaaDoor.Sha Go.Proofs.YtdfgdchmeikigaaDoor.Mk Go.Proofs.YtdfgdchmeikigaaDoor.Oct

set_option maxRecDepth 100000 in
set_option maxHeartbeats 3200000 in
theorem nameOf_any (id : List Int) (hid : id.length = 16) (hio : Octets id) (q : Int) (hq : 0 ≤ q ∧ q < 4294967296) (w : World) :
    Calls Tryd.prog 48 #[.agg (id.map (Value.int .u8)).toArray, .int .u32 q] w (Sums (nmL id q) w) := by
  have bb : ∀ o p y, Below w.heap.size w (((w.alloc o).alloc p).alloc y) := fun o p y => (below_two' o p).alloc (by simp; omega) y
  have i0 : ∀ p y, Arr (((w.alloc (.cells (id.map (Value.int .u8)).toArray 30)).alloc p).alloc y) w.heap.size 30 .u8 id := fun p y => ((Arr.new w _ _ id).alloc p).alloc y
  have r0 : ∀ o y, Arr (((w.alloc o).alloc (.cells ((List.replicate 20 (0 : Int)).map (Value.int .u8)).toArray 78)).alloc y) (w.heap.size + 1) 78 .u8 (List.replicate 20 0) := fun o y => by
    have := (Arr.new (w.alloc o) 78 .u8 (List.replicate 20 0)).alloc y
    rwa [show (w.alloc o).heap.size = w.heap.size + 1 by simp] at this
  have n0 : ∀ o p, Arr (((w.alloc o).alloc p).alloc (.cells ((List.replicate 20 (0 : Int)).map (Value.int .u8)).toArray 78)) (w.heap.size + 2) 78 .u8 (List.replicate 20 0) := fun o p => by
    have := Arr.new ((w.alloc o).alloc p) 78 .u8 (List.replicate 20 0)
    rwa [show ((w.alloc o).alloc p).heap.size = w.heap.size + 2 by simp] at this
  have hnl := Lib.hid (nmL_length (q := q) hid)
  have HI := Lib.hid hid
  have GP := Lib.hid (fun W A1 c1 (h : Holds W W.heap.size .u8 A1 id) => put_any A1 id c1 0 4 q W (by omega) h ⟨hq.1, by omega⟩)
  rw [hid] at GP
  clear hid
  have hcp : ∀ w' : World, Block w' (w.heap.size + 2) 78 (((List.replicate 20 (0 : Int)).map (Value.int .u8)).take 0 ++ (((nmL id q).take 20).map (Value.int .u8) ++ ((List.replicate 20 (0 : Int)).map (Value.int .u8)).drop (0 + ((nmL id q).take 20).length))).toArray → Arr w' (w.heap.size + 2) 78 .u8 (nmL id q) := fun w' h => by
    rw [show (nmL id q).take 20 = nmL id q from List.take_of_length_le (by rw [hnl.out]; decide), hnl.out] at h
    simpa [Arr] using h
  go_enter Tryd.func48, Tryd.ntmps48
  go_wp2_with fail
  refine wp_region_held_drew (S := (fun _ => True)) (by kernel_rfl) trivial (fun hS => ?_)
  refine wpAnyH_take (i := 0) (v := .slice (some ⟨w.heap.size + 1 + 1, 0, none⟩) 20 20) rfl (by kernel_rfl) (by kernel_rfl) (by kernel_rfl) (fun _ _ _ h => h) (Or.inl ⟨by rfl, fun W hW => by go_simp⟩) hS ?_
  try simp only [Act.put, List.setIfInBounds_toArray, List.set_cons_zero, List.set_cons_succ]
  refine wpAnyH_take (i := 1) (v := .slice (some ⟨w.heap.size, 0, none⟩) 16 16) rfl (by kernel_rfl) (by kernel_rfl) (by kernel_rfl) (fun _ _ _ h => h) (Or.inl ⟨by rfl, fun W hW => by go_simp⟩) hS ?_
  try simp only [Act.put, List.setIfInBounds_toArray, List.set_cons_zero, List.set_cons_succ]
  refine wpAnyH_take (i := 2) (v := .int .u32 q) rfl (by kernel_rfl) (by kernel_rfl) (by kernel_rfl) (fun _ _ _ h => h) (Or.inl ⟨by rfl, fun W hW => by go_simp⟩) hS ?_
  try simp only [Act.put, List.setIfInBounds_toArray, List.set_cons_zero, List.set_cons_succ]
  refine wpAnyH_take (i := 3) (v := .int .u64 q) rfl (by kernel_rfl) (by kernel_rfl) (by kernel_rfl) (fun _ _ _ h => h) (Or.inl ⟨by rfl, fun W hW => by go_simp; exact IntWalk.u64_in _ (by omega)⟩) hS ?_
  try simp only [Act.put, List.setIfInBounds_toArray, List.set_cons_zero, List.set_cons_succ]
  refine wpAnyH_ready (rs := [4]) (by kernel_rfl) (by simp) ?_
  refine AllReadyH.cons rfl (fun K hK => ?_) AllReadyH.nil
  go_simp
  go_at_call 59
  refine (GP.out _ _ _ (Arr.holds_all ((i0 _ _).drewN 1))).mono ?_
  rintro e w2 ⟨v2, rfl, own2, hb2⟩
  have own2 : Own w2 _ 5 .u8 v2 (nmL id q) := own2
  obtain ⟨A2, c2, rfl, k2, m2, h2⟩ := own2.opened
  have r2 : Arr w2 (w.heap.size + 1) 78 .u8 (List.replicate 20 0) := Block.below ((r0 _ _).drewN 1) hb2 (by simp <;> omega)
  have n2 : Arr w2 (w.heap.size + 2) 78 .u8 (List.replicate 20 0) := Block.below ((n0 _ _).drewN 1) hb2 (by simp <;> omega)
  have b2 := (below_draws (bb _ _ _) 1).trans (hb2.mono (by simp <;> omega))
  clear own2 hb2
  generalize nmL id q = ys at *
  refine hK.out _ _ trivial (fun hS => ?_)
  clear hK K
  try simp only [Act.put, List.setIfInBounds_toArray, List.set_cons_zero, List.set_cons_succ]
  refine wpAnyH_ready (rs := [5]) (by kernel_rfl) (by simp) ?_
  refine AllReadyH.cons rfl (fun K hK => ?_) AllReadyH.nil
  refine step_of_list (by rfl) (fun Q9 hn => ?_)
  refine wpList_copy_mid rfl (.tmp 6) (.tmp 10) 35 rfl Oct.elem8 rfl rfl h2 n2 (by simp) ?_
  intro w3 n3 g3
  refine hn _ _ ?_
  change K (Act.put _ (some 11) _) _
  clear hn
  have n3 := hcp w3 n3
  have r3 : Arr w3 (w.heap.size + 1) 78 .u8 (List.replicate 20 0) := Block.grown r2 g3 (by intro h; injection h with h; omega)
  have b3 := b2.trans (below_of_grown g3 b2.size fun b hb => by injection hb with hb; omega)
  clear n2 r2
  refine hK.out _ _ trivial (fun hS => ?_)
  clear hK K
  try simp only [Act.put, List.setIfInBounds_toArray, List.set_cons_zero, List.set_cons_succ]
  refine wpAnyH_done (by kernel_rfl) ?_ _
  go_wp2_with (first
    | (have _t := n3; refine wpList_load_arr rfl _ _ rfl n3 rfl arr20 rfl (by rw [hnl.out]; kernel_rfl) ?_)
    | (have _t := r3; refine wpList_store_arr rfl _ _ _ rfl r3 rfl rfl (by rw [hnl.out]; rfl) (by rw [hnl.out]; kernel_rfl) ?_; intro w9 r9 g9))
  refine bodyPost_ret (v := arrV .u8 ys) (results_cell_row rfl _ _ (w.heap.size + 1) 78 _ (0, 0) _ rfl r9 arr20 rfl (by rw [show (ys.map (Value.int .u8)).toArray.size = 20 by simp [hnl.out]]; kernel_rfl)) rfl ⟨rfl, ?_⟩
  exact b3.trans (below_of_grown g9 b3.size fun b hb => by injection hb with hb; omega)
end Go.Proofs.YtdfgdchmeikigaaDoor.Ot

namespace Go.Proofs.YtdfgdchmeikigaaDoor.Ot
open Go.ChangeShapes Go.WideShapes Go.ChangeAt Go.RowKit Go.Proofs.YtdfgdchmeikigaaDoor.Kit Go.Proofs.YtdfgdchmeikigaaDoor.Sha Go.Proofs.YtdfgdchmeikigaaDoor.Mk Go.Proofs.YtdfgdchmeikigaaDoor.Oct

theorem sum3_any (nm : List Int) (hnl : nm.length = 20) (hno : Octets nm) (A1 A2 A3 : Option Addr) (c1 c2 c3 n1 n2 n3 : Nat) (xs ys zs : List Int) (W : World) (e1 : xs.length = n1) (e2 : ys.length = n2) (e3 : zs.length = n3)
    (k1 : RwOk W W.heap.size ⟨A1, c1, xs⟩) (k2 : RwOk W W.heap.size ⟨A2, c2, ys⟩) (k3 : RwOk W W.heap.size ⟨A3, c3, zs⟩) (l1 : n1 ≤ 100000) (l2 : n2 ≤ 100000) (l3 : n3 ≤ 100000) (hL : LaidS W) :
    Calls Tryd.prog 58 #[.agg (nm.map (Value.int .u8)).toArray, .slice (some ⟨W.heap.size, 0, none⟩) 3 3] (W.alloc (.cells #[.slice A1 n1 c1, .slice A2 n2 c2, .slice A3 n3 c3] 35))
      (Sums (sumL (nm ++ (xs ++ ys ++ zs))) (W.alloc (.cells #[.slice A1 n1 c1, .slice A2 n2 c2, .slice A3 n3 c3] 35))) := by
  subst e1 e2 e3
  have hrows := rows_laid (w := W) (t := 35) [⟨A1, c1, xs⟩, ⟨A2, c2, ys⟩, ⟨A3, c3, zs⟩] (by
    intro r hr
    simp at hr
    rcases hr with rfl | rfl | rfl
    · exact k1
    · exact k2
    · exact k3)
  have := nsum_any nm hnl hno (some ⟨W.heap.size, 0, none⟩) [⟨A1, c1, xs⟩, ⟨A2, c2, ys⟩, ⟨A3, c3, zs⟩] 3 _ (Nat.le_refl _) (by decide) hrows (by simp) (by
    intro r hr
    simp at hr
    rcases hr with rfl | rfl | rfl
    · exact l1
    · exact l2
    · exact l3) (hL.below ((Below.refl _ _).alloc (Nat.le_refl _) _))
  rw [joinL_three, ← List.append_assoc xs] at this
  exact this

theorem sum2_any (nm : List Int) (hnl : nm.length = 20) (hno : Octets nm) (A1 A2 : Option Addr) (c1 c2 n1 n2 : Nat) (xs ys : List Int) (W : World) (e1 : xs.length = n1) (e2 : ys.length = n2)
    (k1 : RwOk W W.heap.size ⟨A1, c1, xs⟩) (k2 : RwOk W W.heap.size ⟨A2, c2, ys⟩) (l1 : n1 ≤ 100000) (l2 : n2 ≤ 100000) (hL : LaidS W) :
    Calls Tryd.prog 58 #[.agg (nm.map (Value.int .u8)).toArray, .slice (some ⟨W.heap.size, 0, none⟩) 2 2] (W.alloc (.cells #[.slice A1 n1 c1, .slice A2 n2 c2] 35))
      (Sums (sumL (nm ++ (xs ++ ys))) (W.alloc (.cells #[.slice A1 n1 c1, .slice A2 n2 c2] 35))) := by
  subst e1 e2
  have hrows := rows_laid (w := W) (t := 35) [⟨A1, c1, xs⟩, ⟨A2, c2, ys⟩] (by
    intro r hr
    simp at hr
    rcases hr with rfl | rfl
    · exact k1
    · exact k2)
  have := nsum_any nm hnl hno (some ⟨W.heap.size, 0, none⟩) [⟨A1, c1, xs⟩, ⟨A2, c2, ys⟩] 2 _ (Nat.le_refl _) (by decide) hrows (by simp) (by
    intro r hr
    simp at hr
    rcases hr with rfl | rfl
    · exact l1
    · exact l2) (hL.below ((Below.refl _ _).alloc (Nat.le_refl _) _))
  rw [joinL_two] at this
  exact this

theorem RwOk.own {w : World} {B : Nat} {e : TypeId} {A : Option Addr} {c : Nat} {xs : List Int} (h1 : xs.length ≤ c) (h2 : c ≤ maxLen) (h3 : Holds w w.heap.size .u8 A xs) (ho : Octets xs) : RwOk w w.heap.size ⟨A, c, xs⟩ := ⟨h1, h2, ho, h3⟩
theorem RwOk.one (w : World) (z : Int) (t : TypeId) (hz : 0 ≤ z ∧ z ≤ 255) : RwOk (w.alloc (.cells #[.int .u8 z] t)) (w.alloc (.cells #[.int .u8 z] t)).heap.size ⟨some ⟨w.heap.size, 0, none⟩, 1, [z]⟩ :=
  ⟨Nat.le_refl _, (by decide : 1 ≤ maxLen), by intro x hx; simp at hx; omega, by have := Holds.new w .u8 z t; rwa [show w.heap.size + 1 = (w.alloc (.cells #[.int .u8 z] t)).heap.size by simp] at this⟩
theorem below_one {B : Nat} {w0 w : World} (h : Below B w0 w) (hB : B ≤ w.heap.size) (o : Obj) : Below B w0 (w.alloc o) := h.alloc hB o
theorem below_last (w : World) (o : Obj) : Below w.heap.size w (w.alloc o) := (Below.refl _ _).alloc (Nat.le_refl _) _

set_option maxRecDepth 100000 in
set_option maxHeartbeats 6400000 in
theorem secret_any (nm : List Int) (hnl : nm.length = 20) (hno : Octets nm) (i : Int) (hi : 0 ≤ i ∧ i ≤ 65535) (seed : List Int) (hs : D32 seed) (w : World) (hL : LaidS w) :
    Calls Tryd.prog 53 #[.agg (nm.map (Value.int .u8)).toArray, .int .i64 i, .agg (seed.map (Value.int .u8)).toArray] w (Sums (secL nm i seed) w) := by
  have bb : ∀ o p y, Below w.heap.size w (((w.alloc o).alloc p).alloc y) := fun o p y => (below_two' o p).alloc (by simp; omega) y
  have i0 : ∀ p y, Arr (((w.alloc (.cells (nm.map (Value.int .u8)).toArray 78)).alloc p).alloc y) w.heap.size 78 .u8 nm := fun p y => ((Arr.new w _ _ nm).alloc p).alloc y
  have s0 : ∀ o y, Arr (((w.alloc o).alloc (.cells (seed.map (Value.int .u8)).toArray 26)).alloc y) (w.heap.size + 1) 26 .u8 seed := fun o y => by
    have := (Arr.new (w.alloc o) 26 .u8 seed).alloc y
    rwa [show (w.alloc o).heap.size = w.heap.size + 1 by simp] at this
  have r0 : ∀ o p, Arr (((w.alloc o).alloc p).alloc (.cells ((List.replicate 32 (0 : Int)).map (Value.int .u8)).toArray 26)) (w.heap.size + 2) 26 .u8 (List.replicate 32 0) := fun o p => by
    have := Arr.new ((w.alloc o).alloc p) 26 .u8 (List.replicate 32 0)
    rwa [show ((w.alloc o).alloc p).heap.size = w.heap.size + 2 by simp] at this
  have hsl := Lib.hid (secL_d32 nm i seed).1
  have hls := Lib.hid hs.1
  have hos := hs.2
  have HN := Lib.hid hnl
  have hbl := Lib.hid (be_length 2 i)
  have hbo := be_octets 2 i
  have GP : Hid (∀ W, Calls Tryd.prog 59 #[.slice none 0 0, .int .i64 2, .int .u64 i] W (Rowed (be 2 i) W)) := Lib.hid (fun W => put_any none [] 0 0 2 i W (by simp) Holds.nil ⟨hi.1, by omega⟩)
  have GS := Lib.hid (fun W (hb : Below w.heap.size w W) A1 c1 A2 A3 (k1 : RwOk W W.heap.size ⟨A1, c1, be 2 i⟩) (k2 : RwOk W W.heap.size ⟨A2, 1, [255]⟩) (k3 : RwOk W W.heap.size ⟨A3, 32, seed⟩) => sum3_any nm hnl hno A1 A2 A3 c1 1 32 (be 2 i).length 1 32 (be 2 i) [255] seed W rfl rfl hls.out k1 k2 k3 (by rw [hbl.out]; decide) (by decide) (by decide) (hL.below hb))
  change Hid (∀ (W : World), _ → ∀ (A1 : Option Addr) (c1 : Nat) (A2 A3 : Option Addr), _ → _ → _ → Calls _ _ _ _ (Sums (secL nm i seed) _)) at GS
  generalize secL nm i seed = ys at *
  generalize be 2 i = bi at *
  clear hs hnl
  go_enter Tryd.func53, Tryd.ntmps53
  go_wp2_with fail
  obtain ⟨W, hW⟩ : ∃ W, (((w.alloc (.cells (nm.map (Value.int .u8)).toArray 78)).alloc (.cells (seed.map (Value.int .u8)).toArray 26)).alloc (.cells ((List.replicate 32 (0 : Int)).map (Value.int .u8)).toArray 26)) = W := ⟨_, rfl⟩
  have hB := bb (.cells (nm.map (Value.int .u8)).toArray 78) (.cells (seed.map (Value.int .u8)).toArray 26) (.cells ((List.replicate 32 (0 : Int)).map (Value.int .u8)).toArray 26)
  have hn := i0 (.cells (seed.map (Value.int .u8)).toArray 26) (.cells ((List.replicate 32 (0 : Int)).map (Value.int .u8)).toArray 26)
  have hd := s0 (.cells (nm.map (Value.int .u8)).toArray 78) (.cells ((List.replicate 32 (0 : Int)).map (Value.int .u8)).toArray 26)
  have hr := r0 (.cells (nm.map (Value.int .u8)).toArray 78) (.cells (seed.map (Value.int .u8)).toArray 26)
  change Code.wp _ _ _ _ (World.alloc (World.alloc (World.alloc w _) _) (.cells ((List.replicate 32 (0 : Int)).map (Value.int .u8)).toArray 26))
  rw [hW] at hB hn hd hr ⊢
  clear bb i0 s0 r0 hW
  have hB := below_draws hB 1
  have hn := hn.drewN 1
  have hd := hd.drewN 1
  have hr := hr.drewN 1
  refine wp_region_held_drew (S := (fun W => Arr W w.heap.size 78 .u8 nm)) (by kernel_rfl) hn (fun hS => ?_)
  refine wpAnyH_take (i := 0) (v := .agg (nm.map (Value.int .u8)).toArray) rfl (by kernel_rfl) (by kernel_rfl) (by kernel_rfl) (fun _ _ _ h => h) (yieldsIf_load_mid (by rfl) _ _ rfl w.heap.size 0 rfl (nm.map (Value.int .u8)) _ (fun W hW => Arr.range hW) arr20 rfl (by rw [List.length_map, HN.out]; kernel_rfl)) hS ?_
  try simp only [Act.put, List.setIfInBounds_toArray, List.set_cons_zero, List.set_cons_succ]
  refine wpAnyH_take (i := 1) (v := .int .i64 i) rfl (by kernel_rfl) (by kernel_rfl) (by kernel_rfl) (fun _ _ _ h => h) (Or.inl ⟨by rfl, fun W hW => by go_simp⟩) hS ?_
  try simp only [Act.put, List.setIfInBounds_toArray, List.set_cons_zero, List.set_cons_succ]
  refine wpAnyH_take (i := 2) (v := .int .u64 i) rfl (by kernel_rfl) (by kernel_rfl) (by kernel_rfl) (fun _ _ _ h => h) (Or.inl ⟨by rfl, fun W hW => by go_simp; exact IntWalk.u64_in _ (by omega)⟩) hS ?_
  try simp only [Act.put, List.setIfInBounds_toArray, List.set_cons_zero, List.set_cons_succ]
  refine wpAnyH_take (i := 5) (v := .slice (some ⟨w.heap.size + 1, 0, none⟩) 32 32) rfl (by kernel_rfl) (by kernel_rfl) (by kernel_rfl) (fun _ _ _ h => h) (Or.inl ⟨by rfl, fun W hW => by go_simp⟩) hS ?_
  try simp only [Act.put, List.setIfInBounds_toArray, List.set_cons_zero, List.set_cons_succ]
  obtain ⟨w0, e0⟩ : ∃ w0, w0 = W.drew := ⟨_, rfl⟩
  have nw0 : Arr w0 w.heap.size 78 .u8 nm := by rw [e0]; exact hn
  have dw0 : Arr w0 (w.heap.size + 1) 26 .u8 seed := by rw [e0]; exact hd
  have rw0 : Arr w0 (w.heap.size + 2) 26 .u8 (List.replicate 32 0) := by rw [e0]; exact hr
  have Bw0 : Below w.heap.size w w0 := by rw [e0]; exact hB
  rw [← e0] at hS ⊢
  clear hn hd hr hB e0
  refine wpAnyH_ready (rs := [3, 4]) (by kernel_rfl) (by simp) ?_
  refine AllReadyH.cons rfl (fun K hK => ?_) (AllReadyH.cons rfl (fun K hK => ?_) AllReadyH.nil)
  · go_simp
    go_at_call 59
    refine (GP.out _).mono ?_
    rintro e x1 ⟨v, rfl, own, hb⟩
    obtain ⟨A1, c1, rfl, k1, m1, h1⟩ := own.opened
    have K1 : RwOk x1 x1.heap.size ⟨A1, c1, bi⟩ := ⟨k1, m1, hbo, h1⟩
    have nx1 : Arr x1 w.heap.size 78 .u8 nm := Block.below nw0 hb (Block.lt nw0)
    have dx1 : Arr x1 (w.heap.size + 1) 26 .u8 seed := Block.below dw0 hb (Block.lt dw0)
    have rx1 : Arr x1 (w.heap.size + 2) 26 .u8 (List.replicate 32 0) := Block.below rw0 hb (Block.lt rw0)
    have Bx1 := Bw0.trans (hb.mono Bw0.size)
    clear own h1
    refine hK.out _ _ nx1 (fun hS => ?_)
    clear hK K
    try simp only [Act.put, List.setIfInBounds_toArray, List.set_cons_zero, List.set_cons_succ]
    refine wpAnyH_ready (rs := [4]) (by kernel_rfl) (by simp) ?_
    refine AllReadyH.cons rfl (fun K hK => ?_) AllReadyH.nil
    go_simp
    have K2 := RwOk.one x1 255 5 (by omega)
    have hc := below_last x1 (.cells #[.int .u8 255] 5)
    generalize hx : x1.alloc (.cells #[.int .u8 255] 5) = x2 at *
    have nx2 : Arr x2 w.heap.size 78 .u8 nm := Block.below nx1 hc (Block.lt nx1)
    have dx2 : Arr x2 (w.heap.size + 1) 26 .u8 seed := Block.below dx1 hc (Block.lt dx1)
    have rx2 : Arr x2 (w.heap.size + 2) 26 .u8 (List.replicate 32 0) := Block.below rx1 hc (Block.lt rx1)
    have Bx2 := Bx1.trans (hc.mono Bx1.size)
    refine hK.out _ _ nx2 (fun hS => ?_)
    clear hK K
    try simp only [Act.put, List.setIfInBounds_toArray, List.set_cons_zero, List.set_cons_succ]
    refine wpAnyH_ready (rs := [6]) (by kernel_rfl) (by simp) ?_
    refine AllReadyH.cons rfl (fun K hK => ?_) AllReadyH.nil
    go_simp
    have K3 := RwOk.arr dx2 hos (by rw [hls.out]; decide)
    rw [hls.out] at K3
    have G := Lib.hid (GS.out x2 Bx2 A1 c1 _ _ (K1.on hc) K2 K3)
    clear K3
    have hc := below_last x2 (.cells #[.slice A1 bi.length c1, .slice (some ⟨x1.heap.size, 0, none⟩) 1 1, .slice (some ⟨w.heap.size + 1, 0, none⟩) 32 32] 35)
    generalize x2.alloc (.cells #[.slice A1 bi.length c1, .slice (some ⟨x1.heap.size, 0, none⟩) 1 1, .slice (some ⟨w.heap.size + 1, 0, none⟩) 32 32] 35) = x6 at *
    have nx6 : Arr x6 w.heap.size 78 .u8 nm := Block.below nx2 hc (Block.lt nx2)
    have rx6 : Arr x6 (w.heap.size + 2) 26 .u8 (List.replicate 32 0) := Block.below rx2 hc (Block.lt rx2)
    have Bx6 := Bx2.trans (hc.mono Bx2.size)
    refine hK.out _ _ nx6 (fun hS => ?_)
    clear hK K
    try simp only [Act.put, List.setIfInBounds_toArray, List.set_cons_zero, List.set_cons_succ]
    refine wpAnyH_ready (rs := [7]) (by kernel_rfl) (by simp) ?_
    refine AllReadyH.cons rfl (fun K hK => ?_) AllReadyH.nil
    go_simp
    go_at_call 58
    refine G.out.mono ?_
    rintro e x7 ⟨rfl, h7⟩
    have nx7 : Arr x7 w.heap.size 78 .u8 nm := Block.below nx6 h7 (Block.lt nx6)
    have rx7 : Arr x7 (w.heap.size + 2) 26 .u8 (List.replicate 32 0) := Block.below rx6 h7 (Block.lt rx6)
    have Bx7 := Bx6.trans (h7.mono Bx6.size)
    refine hK.out _ _ nx7 (fun hS => ?_)
    clear hK K
    try simp only [Act.put, List.setIfInBounds_toArray, List.set_cons_zero, List.set_cons_succ]
    refine wpAnyH_ready (rs := [8]) (by kernel_rfl) (by simp) ?_
    refine AllReadyH.cons rfl (fun K hK => ?_) AllReadyH.nil
    refine step_store_arr rfl _ _ _ rfl (ys := ys) rx7 rfl rfl (by rw [hsl.out]; rfl) (by rw [hsl.out]; kernel_rfl) ?_
    intro x8 rx8 g8
    have nx8 : Arr x8 w.heap.size 78 .u8 nm := Arr.grown nx7 g8 (by intro e; injection e with e; omega)
    refine hK.out _ _ nx8 (fun hS => ?_)
    clear hK K
    try simp only [Act.put, List.setIfInBounds_toArray, List.set_cons_zero, List.set_cons_succ]
    refine wpAnyH_done (by kernel_rfl) ?_ _
    go_wp2_with fail
    refine bodyPost_ret (v := arrV .u8 ys) (results_cell_row rfl _ _ (w.heap.size + 2) 26 _ (0, 0) _ rfl rx8 arr32D rfl (by rw [show (ys.map (Value.int .u8)).toArray.size = 32 by simp [hsl.out]]; kernel_rfl)) rfl ⟨rfl, ?_⟩
    exact Bx7.trans (below_of_grown g8 Bx7.size fun b hb => by injection hb with hb; omega)
  · go_simp
    have K2 := RwOk.one w0 255 5 (by omega)
    have hc := below_last w0 (.cells #[.int .u8 255] 5)
    generalize hx : w0.alloc (.cells #[.int .u8 255] 5) = x1 at *
    have nx1 : Arr x1 w.heap.size 78 .u8 nm := Block.below nw0 hc (Block.lt nw0)
    have dx1 : Arr x1 (w.heap.size + 1) 26 .u8 seed := Block.below dw0 hc (Block.lt dw0)
    have rx1 : Arr x1 (w.heap.size + 2) 26 .u8 (List.replicate 32 0) := Block.below rw0 hc (Block.lt rw0)
    have Bx1 := Bw0.trans (hc.mono Bw0.size)
    refine hK.out _ _ nx1 (fun hS => ?_)
    clear hK K
    try simp only [Act.put, List.setIfInBounds_toArray, List.set_cons_zero, List.set_cons_succ]
    refine wpAnyH_ready (rs := [3]) (by kernel_rfl) (by simp) ?_
    refine AllReadyH.cons rfl (fun K hK => ?_) AllReadyH.nil
    go_simp
    go_at_call 59
    refine (GP.out _).mono ?_
    rintro e x2 ⟨v, rfl, own, hb⟩
    obtain ⟨A1, c1, rfl, k1, m1, h1⟩ := own.opened
    have K1 : RwOk x2 x2.heap.size ⟨A1, c1, bi⟩ := ⟨k1, m1, hbo, h1⟩
    have nx2 : Arr x2 w.heap.size 78 .u8 nm := Block.below nx1 hb (Block.lt nx1)
    have dx2 : Arr x2 (w.heap.size + 1) 26 .u8 seed := Block.below dx1 hb (Block.lt dx1)
    have rx2 : Arr x2 (w.heap.size + 2) 26 .u8 (List.replicate 32 0) := Block.below rx1 hb (Block.lt rx1)
    have Bx2 := Bx1.trans (hb.mono Bx1.size)
    clear own h1
    refine hK.out _ _ nx2 (fun hS => ?_)
    clear hK K
    try simp only [Act.put, List.setIfInBounds_toArray, List.set_cons_zero, List.set_cons_succ]
    refine wpAnyH_ready (rs := [6]) (by kernel_rfl) (by simp) ?_
    refine AllReadyH.cons rfl (fun K hK => ?_) AllReadyH.nil
    go_simp
    have K3 := RwOk.arr dx2 hos (by rw [hls.out]; decide)
    rw [hls.out] at K3
    have G := Lib.hid (GS.out x2 Bx2 A1 c1 _ _ K1 (K2.on hb) K3)
    clear K3
    have hc := below_last x2 (.cells #[.slice A1 bi.length c1, .slice (some ⟨w0.heap.size, 0, none⟩) 1 1, .slice (some ⟨w.heap.size + 1, 0, none⟩) 32 32] 35)
    generalize x2.alloc (.cells #[.slice A1 bi.length c1, .slice (some ⟨w0.heap.size, 0, none⟩) 1 1, .slice (some ⟨w.heap.size + 1, 0, none⟩) 32 32] 35) = x6 at *
    have nx6 : Arr x6 w.heap.size 78 .u8 nm := Block.below nx2 hc (Block.lt nx2)
    have rx6 : Arr x6 (w.heap.size + 2) 26 .u8 (List.replicate 32 0) := Block.below rx2 hc (Block.lt rx2)
    have Bx6 := Bx2.trans (hc.mono Bx2.size)
    refine hK.out _ _ nx6 (fun hS => ?_)
    clear hK K
    try simp only [Act.put, List.setIfInBounds_toArray, List.set_cons_zero, List.set_cons_succ]
    refine wpAnyH_ready (rs := [7]) (by kernel_rfl) (by simp) ?_
    refine AllReadyH.cons rfl (fun K hK => ?_) AllReadyH.nil
    go_simp
    go_at_call 58
    refine G.out.mono ?_
    rintro e x7 ⟨rfl, h7⟩
    have nx7 : Arr x7 w.heap.size 78 .u8 nm := Block.below nx6 h7 (Block.lt nx6)
    have rx7 : Arr x7 (w.heap.size + 2) 26 .u8 (List.replicate 32 0) := Block.below rx6 h7 (Block.lt rx6)
    have Bx7 := Bx6.trans (h7.mono Bx6.size)
    refine hK.out _ _ nx7 (fun hS => ?_)
    clear hK K
    try simp only [Act.put, List.setIfInBounds_toArray, List.set_cons_zero, List.set_cons_succ]
    refine wpAnyH_ready (rs := [8]) (by kernel_rfl) (by simp) ?_
    refine AllReadyH.cons rfl (fun K hK => ?_) AllReadyH.nil
    refine step_store_arr rfl _ _ _ rfl (ys := ys) rx7 rfl rfl (by rw [hsl.out]; rfl) (by rw [hsl.out]; kernel_rfl) ?_
    intro x8 rx8 g8
    have nx8 : Arr x8 w.heap.size 78 .u8 nm := Arr.grown nx7 g8 (by intro e; injection e with e; omega)
    refine hK.out _ _ nx8 (fun hS => ?_)
    clear hK K
    try simp only [Act.put, List.setIfInBounds_toArray, List.set_cons_zero, List.set_cons_succ]
    refine wpAnyH_done (by kernel_rfl) ?_ _
    go_wp2_with fail
    refine bodyPost_ret (v := arrV .u8 ys) (results_cell_row rfl _ _ (w.heap.size + 2) 26 _ (0, 0) _ rfl rx8 arr32D rfl (by rw [show (ys.map (Value.int .u8)).toArray.size = 32 by simp [hsl.out]]; kernel_rfl)) rfl ⟨rfl, ?_⟩
    exact Bx7.trans (below_of_grown g8 Bx7.size fun b hb => by injection hb with hb; omega)
end Go.Proofs.YtdfgdchmeikigaaDoor.Ot

namespace Go.Proofs.YtdfgdchmeikigaaDoor.Ot
open Go.ChangeShapes Go.WideShapes Go.ChangeAt Go.RowKit Go.Proofs.YtdfgdchmeikigaaDoor.Kit Go.Proofs.YtdfgdchmeikigaaDoor.Sha Go.Proofs.YtdfgdchmeikigaaDoor.Mk Go.Proofs.YtdfgdchmeikigaaDoor.Oct

theorem Holds.grown {w w' : World} {B : Nat} {k : IntKind} {A : Option Addr} {xs : List Int} {row : Option Nat} (h : Holds w B k A xs) (g : w.grownBy w' row) (hne : ∀ a, A = some a → some a.block ≠ row) : Holds w' B k A xs := by
  intro hx
  obtain ⟨b, off, e, hb, hc⟩ := h hx
  exact ⟨b, off, e, hb, fun j hj => g.cell (hc j hj) (show some b ≠ row from hne _ e)⟩
theorem RwOk.grown {w w' : World} {r : Rw} {row : Option Nat} (h : RwOk w w.heap.size r) (g : w.grownBy w' row) (hne : ∀ a, r.A = some a → some a.block ≠ row) : RwOk w' w'.heap.size r :=
  ⟨h.1, h.2.1, h.2.2.1, (Holds.grown h.2.2.2 g hne).more g.size⟩
theorem own_addr {w : World} {B n c : Nat} {e : TypeId} {k : IntKind} {A : Option Addr} {xs : List Int} (h : Own w B e k (.slice A n c) xs) : ∀ a, A = some a → B ≤ a.block := by
  intro a ha
  subst ha
  rcases h.2 with ⟨h1, _⟩ | ⟨g, cap, cur, h1, hb, _⟩
  · cases h1
  · injection h1 with h1 _ _
    injection h1 with h1
    rw [h1]
    exact hb

set_option maxRecDepth 100000 in
set_option maxHeartbeats 6400000 in
theorem walk_any (nm : List Int) (hnl : nm.length = 20) (hno : Octets nm) (i : Int) (hi : 0 ≤ i ∧ i ≤ 65535) (f t : Nat) (hf : f ≤ t) (ht : t ≤ 255) (d : List Int) (hd : D32 d) (w : World) (hL : LaidS w) :
    Calls Tryd.prog 51 #[.agg (nm.map (Value.int .u8)).toArray, .int .i64 i, .int .i64 f, .int .i64 t, .agg (d.map (Value.int .u8)).toArray] w (Sums (walkL nm i f (t - f) d) w) := by
  have bb : ∀ o p y, Below w.heap.size w (((w.alloc o).alloc p).alloc y) := fun o p y => (below_two' o p).alloc (by simp; omega) y
  have i0 : ∀ p y, Arr (((w.alloc (.cells (nm.map (Value.int .u8)).toArray 78)).alloc p).alloc y) w.heap.size 78 .u8 nm := fun p y => ((Arr.new w _ _ nm).alloc p).alloc y
  have s0 : ∀ o y, Arr (((w.alloc o).alloc (.cells (d.map (Value.int .u8)).toArray 26)).alloc y) (w.heap.size + 1) 26 .u8 d := fun o y => by
    have := (Arr.new (w.alloc o) 26 .u8 d).alloc y
    rwa [show (w.alloc o).heap.size = w.heap.size + 1 by simp] at this
  have r0 : ∀ o p, Arr (((w.alloc o).alloc p).alloc (.cells ((List.replicate 32 (0 : Int)).map (Value.int .u8)).toArray 26)) (w.heap.size + 2) 26 .u8 (List.replicate 32 0) := fun o p => by
    have := Arr.new ((w.alloc o).alloc p) 26 .u8 (List.replicate 32 0)
    rwa [show ((w.alloc o).alloc p).heap.size = w.heap.size + 2 by simp] at this
  have HN := Lib.hid hnl
  have HD := Lib.hid hd
  have hbl := Lib.hid (be_length 2 i)
  have hbo := be_octets 2 i
  have GP : Hid (∀ W, Calls Tryd.prog 59 #[.slice none 0 0, .int .i64 2, .int .u64 i] W (Rowed (be 2 i) W)) := Lib.hid (fun W => put_any none [] 0 0 2 i W (by simp) Holds.nil ⟨hi.1, by omega⟩)
  have GS := Lib.hid (fun (j : Int) (hj : 0 ≤ j ∧ j ≤ 255) (x : List Int) (hx : D32 x) W (hb : Below w.heap.size w W) A1 c1 A2 A3 (k1 : RwOk W W.heap.size ⟨A1, c1, be 2 i⟩) (k2 : RwOk W W.heap.size ⟨A2, 1, [j]⟩) (k3 : RwOk W W.heap.size ⟨A3, 32, x⟩) => sum3_any nm hnl hno A1 A2 A3 c1 1 32 (be 2 i).length 1 32 (be 2 i) [j] x W rfl rfl hx.1 k1 k2 k3 (by rw [hbl.out]; decide) (by decide) (by decide) (hL.below hb))
  have hstep : ∀ j x, sumL (nm ++ (be 2 i ++ [j] ++ x)) = stepL nm i j x := fun _ _ => rfl
  simp only [hstep] at GS
  clear hstep
  generalize be 2 i = bi at *
  clear hd hnl
  go_enter Tryd.func51, Tryd.ntmps51
  go_wp2_with fail
  refine (GP.out _).mono ?_
  rintro e w2 ⟨v2, rfl, own2, hb2⟩
  have i2 : Arr w2 w.heap.size 78 .u8 nm := Block.below (i0 _ _) hb2 (by simp <;> omega)
  have s2 : Arr w2 (w.heap.size + 1) 26 .u8 d := Block.below (s0 _ _) hb2 (by simp <;> omega)
  have r2 : Arr w2 (w.heap.size + 2) 26 .u8 (List.replicate 32 0) := Block.below (r0 _ _) hb2 (by simp <;> omega)
  have b2 := (bb _ _ _).trans (hb2.mono (by simp <;> omega))
  obtain ⟨A1, c1, rfl, k1, m1, h1⟩ := own2.opened
  have K2 : RwOk w2 w2.heap.size ⟨A1, c1, bi⟩ := ⟨k1, m1, hbo, h1⟩
  have hA : ∀ a, A1 = some a → w.heap.size + 2 < a.block := fun a ha => by have := own_addr own2 a ha; simp at this; omega
  clear i0 s0 r0 bb hb2 own2 k1 m1 h1
  go_wp2_with fail
  go_loopw [12] (fun s wr => ∃ j : Nat, f ≤ j ∧ j ≤ t ∧ s = .int .i64 (j : Int) ∧ Arr wr w.heap.size 78 .u8 nm ∧ Arr wr (w.heap.size + 1) 26 .u8 (walkL nm i f (j - f) d) ∧ Arr wr (w.heap.size + 2) 26 .u8 (List.replicate 32 0) ∧ Below w.heap.size w wr ∧ RwOk wr wr.heap.size ⟨A1, c1, bi⟩) (fun s _ => t - (intOf s).toNat)
  case atStart => exact ⟨f, Nat.le_refl _, hf, rfl, i2, (by rw [Nat.sub_self]; exact s2), r2, b2, K2⟩
  case round =>
    clear i2 s2 r2 b2 K2
    obtain ⟨j, hfj, hk, rfl, nw, dw, rw', Bw, K1⟩ := hrel
    have hxd := walkL_d32 (nm := nm) (i := i) (f := f) (n := j - f) HD.out
    by_cases hlt : j < t
    · have hls := Lib.hid hxd.1
      have hos := hxd.2
      have hj : (0 : Int) ≤ (j : Int) ∧ (j : Int) ≤ 255 := by omega
      have GS := Lib.hid (GS.out _ hj _ hxd)
      have hne : walkL nm i f (j + 1 - f) d = stepL nm i (j : Int) (walkL nm i f (j - f) d) := by rw [show j + 1 - f = (j - f) + 1 by omega]; show stepL nm i ((f : Int) + ((j - f : Nat) : Int)) _ = _; rw [show (f : Int) + ((j - f : Nat) : Int) = (j : Int) by omega]
      have hsl := Lib.hid (stepL_d32 nm i (j : Int) (walkL nm i f (j - f) d)).1
      have hj8 : IntKind.u8.wrap (j : Int) = (j : Int) := IntWalk.u8_in _ (by omega)
      generalize walkL nm i f (j - f) d = x at *
      generalize stepL nm i (j : Int) x = ys at *
      clear hxd
      have hne := Lib.hid hne
      have hd1 : decide ((j : Int) < (t : Int)) = true := decide_eq_true (by omega)
      have hd2 : decide (j < t) = true := decide_eq_true hlt
      go_wp2_with fail
      have nw := Arr.drewN nw 1
      have dw := Arr.drewN dw 1
      have rw' := Arr.drewN rw' 1
      have Bw := below_draws Bw 1
      have K1 : RwOk (wr.drewN 1) (wr.drewN 1).heap.size ⟨A1, c1, bi⟩ := K1
      refine wp_region_held_drew (S := (fun W => Arr W w.heap.size 78 .u8 nm)) (by kernel_rfl) nw (fun hS => ?_)
      refine wpAnyH_take (i := 0) (v := .agg (nm.map (Value.int .u8)).toArray) rfl (by kernel_rfl) (by kernel_rfl) (by kernel_rfl) (fun _ _ _ h => h) (yieldsIf_load_mid (by rfl) _ _ rfl w.heap.size 0 rfl (nm.map (Value.int .u8)) _ (fun W hW => Arr.range hW) arr20 rfl (by rw [List.length_map, HN.out]; kernel_rfl)) hS ?_
      try simp only [Act.put, List.setIfInBounds_toArray, List.set_cons_zero, List.set_cons_succ]
      refine wpAnyH_take (i := 1) (v := .slice A1 bi.length c1) rfl (by kernel_rfl) (by kernel_rfl) (by kernel_rfl) (fun _ _ _ h => h) (Or.inl ⟨by rfl, fun W hW => by go_simp⟩) hS ?_
      try simp only [Act.put, List.setIfInBounds_toArray, List.set_cons_zero, List.set_cons_succ]
      refine wpAnyH_take (i := 2) (v := .int .i64 (j : Int)) rfl (by kernel_rfl) (by kernel_rfl) (by kernel_rfl) (fun _ _ _ h => h) (Or.inl ⟨by rfl, fun W hW => by go_simp⟩) hS ?_
      try simp only [Act.put, List.setIfInBounds_toArray, List.set_cons_zero, List.set_cons_succ]
      refine wpAnyH_take (i := 3) (v := .int .u8 (j : Int)) rfl (by kernel_rfl) (by kernel_rfl) (by kernel_rfl) (fun _ _ _ h => h) (Or.inl ⟨by rfl, fun W hW => by go_simp⟩) hS ?_
      try simp only [Act.put, List.setIfInBounds_toArray, List.set_cons_zero, List.set_cons_succ]
      refine wpAnyH_take (i := 5) (v := .slice (some ⟨w.heap.size + 1, 0, none⟩) 32 32) rfl (by kernel_rfl) (by kernel_rfl) (by kernel_rfl) (fun _ _ _ h => h) (Or.inl ⟨by rfl, fun W hW => by go_simp⟩) hS ?_
      try simp only [Act.put, List.setIfInBounds_toArray, List.set_cons_zero, List.set_cons_succ]
      obtain ⟨w0, e0⟩ : ∃ w0, w0 = wr.drew := ⟨_, rfl⟩
      have nw0 : Arr w0 w.heap.size 78 .u8 nm := by rw [e0]; exact nw
      have dw0 : Arr w0 (w.heap.size + 1) 26 .u8 x := by rw [e0]; exact dw
      have rw0 : Arr w0 (w.heap.size + 2) 26 .u8 (List.replicate 32 0) := by rw [e0]; exact rw'
      have Bw0 : Below w.heap.size w w0 := by rw [e0]; exact Bw
      have Kw0 : RwOk w0 w0.heap.size ⟨A1, c1, bi⟩ := by rw [e0]; exact K1
      rw [← e0] at hS ⊢
      clear nw dw rw' Bw K1 e0
      refine wpAnyH_ready (rs := [4]) (by kernel_rfl) (by simp) ?_
      refine AllReadyH.cons rfl (fun K hK => ?_) AllReadyH.nil
      go_simp
      have K2 := RwOk.one w0 (j : Int) 5 hj
      have hc := below_last w0 (.cells #[.int .u8 (j : Int)] 5)
      generalize hx : w0.alloc (.cells #[.int .u8 (j : Int)] 5) = x1 at *
      have nx1 : Arr x1 w.heap.size 78 .u8 nm := Block.below nw0 hc (Block.lt nw0)
      have dx1 : Arr x1 (w.heap.size + 1) 26 .u8 x := Block.below dw0 hc (Block.lt dw0)
      have rx1 : Arr x1 (w.heap.size + 2) 26 .u8 (List.replicate 32 0) := Block.below rw0 hc (Block.lt rw0)
      have Bx1 := Bw0.trans (hc.mono Bw0.size)
      have Kx1 := RwOk.on Kw0 hc
      refine hK.out _ _ nx1 (fun hS => ?_)
      clear hK K
      try simp only [Act.put, List.setIfInBounds_toArray, List.set_cons_zero, List.set_cons_succ]
      refine wpAnyH_ready (rs := [6]) (by kernel_rfl) (by simp) ?_
      refine AllReadyH.cons rfl (fun K hK => ?_) AllReadyH.nil
      go_simp
      have K3 := RwOk.arr dx1 hos (by rw [hls.out]; decide)
      rw [hls.out] at K3
      have G := Lib.hid (GS.out x1 Bx1 A1 c1 _ _ Kx1 K2 K3)
      clear K3
      have hc := below_last x1 (.cells #[.slice A1 bi.length c1, .slice (some ⟨w0.heap.size, 0, none⟩) 1 1, .slice (some ⟨w.heap.size + 1, 0, none⟩) 32 32] 35)
      generalize x1.alloc (.cells #[.slice A1 bi.length c1, .slice (some ⟨w0.heap.size, 0, none⟩) 1 1, .slice (some ⟨w.heap.size + 1, 0, none⟩) 32 32] 35) = x6 at *
      have nx6 : Arr x6 w.heap.size 78 .u8 nm := Block.below nx1 hc (Block.lt nx1)
      have dx6 : Arr x6 (w.heap.size + 1) 26 .u8 x := Block.below dx1 hc (Block.lt dx1)
      have rx6 : Arr x6 (w.heap.size + 2) 26 .u8 (List.replicate 32 0) := Block.below rx1 hc (Block.lt rx1)
      have Bx6 := Bx1.trans (hc.mono Bx1.size)
      have Kx6 := RwOk.on Kx1 hc
      refine hK.out _ _ nx6 (fun hS => ?_)
      clear hK K
      try simp only [Act.put, List.setIfInBounds_toArray, List.set_cons_zero, List.set_cons_succ]
      refine wpAnyH_ready (rs := [7]) (by kernel_rfl) (by simp) ?_
      refine AllReadyH.cons rfl (fun K hK => ?_) AllReadyH.nil
      go_simp
      go_at_call 58
      refine G.out.mono ?_
      rintro e x7 ⟨rfl, h7⟩
      have nx7 : Arr x7 w.heap.size 78 .u8 nm := Block.below nx6 h7 (Block.lt nx6)
      have dx7 : Arr x7 (w.heap.size + 1) 26 .u8 x := Block.below dx6 h7 (Block.lt dx6)
      have rx7 : Arr x7 (w.heap.size + 2) 26 .u8 (List.replicate 32 0) := Block.below rx6 h7 (Block.lt rx6)
      have Bx7 := Bx6.trans (h7.mono Bx6.size)
      have Kx7 := RwOk.on Kx6 h7
      refine hK.out _ _ nx7 (fun hS => ?_)
      clear hK K
      try simp only [Act.put, List.setIfInBounds_toArray, List.set_cons_zero, List.set_cons_succ]
      refine wpAnyH_ready (rs := [8]) (by kernel_rfl) (by simp) ?_
      refine AllReadyH.cons rfl (fun K hK => ?_) AllReadyH.nil
      refine step_store_arr rfl _ _ _ rfl (ys := ys) dx7 rfl rfl (by rw [hsl.out, hls.out]) (by rw [hsl.out]; kernel_rfl) ?_
      intro x8 dx8 g8
      have nx8 : Arr x8 w.heap.size 78 .u8 nm := Arr.grown nx7 g8 (by intro e; injection e with e; omega)
      have rx8 : Arr x8 (w.heap.size + 2) 26 .u8 (List.replicate 32 0) := Arr.grown rx7 g8 (by intro e; injection e with e; omega)
      have Bx8 := Bx7.trans (below_of_grown g8 Bx7.size fun b hb => by injection hb with hb; omega)
      have Kx8 := RwOk.grown Kx7 g8 (fun a ha => by have := hA a ha; intro e; injection e with e; omega)
      refine hK.out _ _ nx8 (fun hS => ?_)
      clear hK K
      try simp only [Act.put, List.setIfInBounds_toArray, List.set_cons_zero, List.set_cons_succ]
      refine wpAnyH_done (by kernel_rfl) ?_ _
      go_wp2_with fail
      go_roundw
      case rel => exact ⟨j + 1, by omega, by omega, by go_num, nx8, (by rw [hne.out]; exact dx8), rx8, Bx8, Kx8⟩
      case measure => simp [intOf] <;> omega
    · obtain rfl : j = t := by omega
      have hsl := Lib.hid hxd.1
      generalize walkL nm i f (j - f) d = ys at *
      clear hxd
      have hd1 : decide ((j : Int) < (j : Int)) = false := decide_eq_false (by omega)
      have hd2 : decide (j < j) = false := decide_eq_false hlt
      go_wp2_with (first
        | (have _t := dw; refine wpList_load_arr rfl _ _ rfl dw rfl arr32D rfl (by rw [hsl.out]; kernel_rfl) ?_)
        | (have _t := rw'; refine wpList_store_arr rfl _ _ _ rfl rw' rfl rfl (by rw [hsl.out]; rfl) (by rw [hsl.out]; kernel_rfl) ?_; intro w9 r9 g9))
      refine bodyPost_ret (v := arrV .u8 ys) (results_cell_row rfl _ _ (w.heap.size + 2) 26 _ (0, 0) _ rfl r9 arr32D rfl (by rw [show (ys.map (Value.int .u8)).toArray.size = 32 by simp [hsl.out]]; kernel_rfl)) rfl ⟨rfl, ?_⟩
      exact Bw.trans (below_of_grown g9 Bw.size fun b hb => by injection hb with hb; omega)
end Go.Proofs.YtdfgdchmeikigaaDoor.Ot
