/-
  Layer 14: bytes.Compare, suffix.common, sort.Search: contracts. Conditions: as each theorem names.
  Layer 14: the index of a text: New, Longest: contracts. Conditions: as each theorem names.
  Layer 15, match: how far one gets; a piece with what is around it: contracts. Conditions: as each theorem names.
  Layer 15, match.widened: a contract. Conditions: as each theorem names.
  Layer 15, match: what is found of any images: plain. Conditions: as each theorem names.
  Layer 15, match.Find of any images: a contract. Conditions: as each theorem names.
  Layer 15, match.Find: what is found of any two images: a contract. Conditions: as each theorem names.
  Layer 15: whether a row stands in an image, the document's: a contract. Conditions: as each theorem names.
-/
import Derived.Test.YtlojimhllbicjaaMSxC
import Derived.Test.YtlojimhllbicjaaMGMows3
import Derived.Lib.BytesEntry
import Derived.Lib.Bytealg
import Derived.Test.YtlojimhllbicjaaMMtC
import Derived.Deep.DeepCutAuto
import Derived.Deep.AppendLies
import Derived.Deep.RegionLaw
import Derived.Deep.RegionWith
import Derived.Deep.QuietTactic
import Derived.BigQuiet
import Derived.Lib.QuietBelow
namespace Go.Proofs.Ytlojimhllbicjaa.Sx
open Go.ChangeShapes Go.WideShapes Go.ChangeAt Go.RowKit Go.Proofs.Ytlojimhllbicjaa.Kit

theorem run_bytesOf_slice {P : Program} {w : World} {B : Nat} (A : Option Addr) (xs : List Int) (c : Nat) (hr : Holds w B .u8 A xs) : (Extern.Bytes.bytesOf (.slice A xs.length c)).run P w = .ok ⟨(Lib.bytesOf xs).toArray⟩ w := by
  rcases Nat.eq_zero_or_pos xs.length with h0 | h0
  · obtain rfl : xs = [] := List.eq_nil_of_length_eq_zero h0
    cases A with
    | none => rfl
    | some a => rfl
  · obtain ⟨b, off, rfl, _, hc⟩ := hr h0
    have hl := Lib.run_loadBytesX (P := P) w xs ⟨b, off, none⟩ .empty (fun j x hj => by
      have hjl : j < xs.length := (List.getElem?_eq_some_iff.1 hj).1
      have e : (⟨b, off, none⟩ : Addr).add j = ⟨b, off + j, none⟩ := by unfold Addr.add; split <;> simp_all
      rw [e, hc j (by omega), List.getD_eq_getElem?_getD, hj]
      rfl)
    have he : (⟨ByteArray.empty.data ++ (Lib.bytesOf xs).toArray⟩ : ByteArray) = ⟨(Lib.bytesOf xs).toArray⟩ := by
      apply ByteArray.ext
      show (#[] : Array UInt8) ++ (Lib.bytesOf xs).toArray = (Lib.bytesOf xs).toArray
      simp
    rw [he] at hl
    exact hl
theorem run_compare {P : Program} {w : World} {B C : Nat} (A1 A2 : Option Addr) (xs ys : List Int) (c1 c2 : Nat) (h1 : Holds w B .u8 A1 xs) (h2 : Holds w C .u8 A2 ys) :
    (Extern.BytealgCompare.compare #[.slice A1 xs.length c1, .slice A2 ys.length c2]).run P w = .ok (.int .i64 (Lib.compareBytes (Lib.bytesOf xs) (Lib.bytesOf ys))) w := by
  change Sem.run P (do pure (goInt (Extern.BytealgCompare.cmp (← Extern.Bytes.bytesOf (.slice A1 xs.length c1)) (← Extern.Bytes.bytesOf (.slice A2 ys.length c2))))) w = _
  simp only [Sem.run_bind, Sem.run_pure, run_bytesOf_slice A1 xs c1 h1, run_bytesOf_slice A2 ys c2 h2, Result.andThen]
  rw [Lib.cmp_eq]
  rfl
theorem compare_any {w : World} {B C : Nat} (A1 A2 : Option Addr) (xs ys : List Int) (c1 c2 : Nat) (h1 : Holds w B .u8 A1 xs) (h2 : Holds w C .u8 A2 ys) :
    Calls Try.prog 23 #[.slice A1 xs.length c1, .slice A2 ys.length c2] w fun e w' => e = .returned (.int .i64 (Lib.compareBytes (Lib.bytesOf xs) (Lib.bytesOf ys))) ∧ w = w' := by
  have hc := run_compare (P := Try.prog) A1 A2 xs ys c1 c2 h1 h2
  go_enter Try.func23, Try.ntmps23
  go_wp2_with fail
  rw [run_callFunc_extern Try.func32 (by kernel_rfl) (by kernel_rfl) (by kernel_rfl) (e := Extern.BytealgCompare.compare) (by kernel_rfl)]
  rw [hc]
  simp only [Result.andThen]
  rw [Oper.upon_value]
  go_wp2
  go_ret
  exact ⟨rfl, rfl⟩

set_option maxRecDepth 100000 in
set_option maxHeartbeats 6400000 in
theorem common_any {w : World} {B C : Nat} (A1 A2 : Option Addr) (xs ys : List Int) (c1 c2 : Nat) (h1 : Holds w B .u8 A1 xs) (h2 : Holds w C .u8 A2 ys) (l1 : xs.length ≤ 1000000) (l2 : ys.length ≤ 1000000) :
    Calls Try.prog 24 #[.slice A1 xs.length c1, .slice A2 ys.length c2] w fun e w' => e = .returned (.int .i64 (comL xs ys)) ∧ ∃ m, w' = w.drewN m := by
  have HS := Lib.hid (fun k => comL_spec k xs ys)
  generalize comL xs ys = R at *
  have H1 := Lib.hid h1
  have H2 := Lib.hid h2
  clear h1 h2
  go_enter Try.func24, Try.ntmps24
  go_wp2_with fail
  go_loopw [5] (fun s wr => ∃ k : Nat, k ≤ xs.length ∧ k ≤ ys.length ∧ s = .int .i64 k ∧ (∀ j, j < k → xs.getD j 0 = ys.getD j 0) ∧ ∃ m, wr = w.drewN m) (fun s _ => xs.length - (intOf s).toNat)
  case atStart => exact ⟨0, Nat.zero_le _, Nat.zero_le _, rfl, fun j hj => absurd hj (by omega), 0, rfl⟩
  case round =>
    obtain ⟨k, k1, k2, rfl, hall, m, hm⟩ := hrel
    have HALL := Lib.hid hall
    have HM := Lib.hid hm
    have HR0 := Lib.hid (HS.out k k1 k2 hall)
    clear hall
    by_cases a1 : k < xs.length
    · have d1 : decide ((k : Int) < (xs.length : Int)) = true := decide_eq_true (by omega)
      obtain ⟨b1, o1, rfl, -, hc1⟩ := H1.out (by omega)
      have q1 : wr.cell? ⟨b1, o1 + k, none⟩ = some (.int .u8 (xs.getD k 0)) := by rw [hm]; exact hc1 k a1
      by_cases a2 : k < ys.length
      · have d2 : decide ((k : Int) < (ys.length : Int)) = true := decide_eq_true (by omega)
        obtain ⟨b2, o2, rfl, -, hc2⟩ := H2.out (by omega)
        have q2 : wr.cell? ⟨b2, o2 + k, none⟩ = some (.int .u8 (ys.getD k 0)) := by rw [hm]; exact hc2 k a2
        have i1 : (k : Int) < (xs.length : Int) := by omega
        have i2 : (k : Int) < (ys.length : Int) := by omega
        by_cases a3 : xs.getD k 0 = ys.getD k 0
        · have HN : Hid (∀ j, j < k + 1 → xs.getD j 0 = ys.getD j 0) := Lib.hid (fun j hj => by
            by_cases e : j = k
            · subst e; exact a3
            · exact HALL.out j (by omega))
          rw [a3] at q1
          have d3 : (ys.getD k 0 == ys.getD k 0) = true := by simp
          generalize ys.getD k 0 = y at *
          clear hc1 hc2 a3 hm
          go_wp2_with fail
          go_quiet (fail)
          go_wp2_with fail
          go_roundw
          case rel => exact ⟨k + 1, a1, a2, by go_num, HN.out, m + nq, by rw [HM.out, World.drewN_drewN]⟩
          case measure => simp [intOf] <;> omega
        · have d3 : (xs.getD k 0 == ys.getD k 0) = false := by rw [beq_eq_false_iff_ne]; exact a3
          have HR := Lib.hid (HR0.out (fun _ _ => a3))
          generalize xs.getD k 0 = x at *
          generalize ys.getD k 0 = y at *
          clear hc1 hc2 a3 hm
          go_wp2_with fail
          go_quiet (fail)
          go_wp2_with fail
          go_ret
          exact ⟨by have e := HR.out; subst e; rfl, m + nq, by rw [HM.out, World.drewN_drewN]⟩
      · have d2 : decide ((k : Int) < (ys.length : Int)) = false := decide_eq_false (by omega)
        have HR := Lib.hid (HR0.out (fun _ h => absurd h a2))
        clear hc1 q1 hm
        go_wp2_with fail
        go_quiet (fail)
        go_wp2_with fail
        go_ret
        exact ⟨by have e := HR.out; subst e; rfl, m + nq, by rw [HM.out, World.drewN_drewN]⟩
    · have d1 : decide ((k : Int) < (xs.length : Int)) = false := decide_eq_false (by omega)
      have HR := Lib.hid (HR0.out (fun h => absurd h a1))
      clear hm
      go_wp2_with fail
      go_quiet (fail)
      go_wp2_with fail
      go_ret
      exact ⟨by have e := HR.out; subst e; rfl, m + nq, by rw [HM.out, World.drewN_drewN]⟩

set_option maxRecDepth 100000 in
set_option maxHeartbeats 6400000 in
theorem search_any {w : World} {n : Nat} {p : Nat → Bool} {c1 c2 : Value} (hn : n ≤ 1000000) (hm : ∀ u v, u ≤ v → v < n → p u = true → p v = true)
    (hf : ∀ (u : Nat), u < n → ∀ m : Nat, Calls Try.prog 22 #[.int .i64 u, c1, c2] (w.drewN m) fun e w' => e = .returned (.bool (p u)) ∧ ∃ m, w' = w.drewN m) :
    Calls Try.prog 21 #[.int .i64 n, .func (.func 22) #[] #[c1, c2]] w fun e w' => (∃ k, e = .returned (.int .i64 (k : Nat)) ∧ LeastAt n p k) ∧ ∃ m, w' = w.drewN m := by
  have HF := Lib.hid hf
  have HM := Lib.hid hm
  clear hf hm
  go_enter Try.func21, Try.ntmps21
  go_wp2_with fail
  go_loopw [5, 6] (fun si sj wr => ∃ i j : Nat, i ≤ j ∧ j ≤ n ∧ si = .int .i64 i ∧ sj = .int .i64 j ∧ (∀ u, u < i → p u = false) ∧ (∀ u, j ≤ u → u < n → p u = true) ∧ ∃ m, wr = w.drewN m) (fun si sj _ => (intOf sj).toNat - (intOf si).toNat)
  case atStart => exact ⟨0, n, Nat.zero_le _, Nat.le_refl _, rfl, rfl, fun u hu => absurd hu (by omega), fun u h1 h2 => absurd h1 (by omega), 0, rfl⟩
  case round =>
    obtain ⟨i, j, hij, hjn, rfl, rfl, hlo, hhi, m, hm⟩ := hrel
    have HLO := Lib.hid hlo
    have HHI := Lib.hid hhi
    by_cases hlt : i < j
    · have d1 : decide ((i : Int) < (j : Int)) = true := decide_eq_true (by omega)
      have d2 : decide (i < j) = true := decide_eq_true hlt
      obtain ⟨h, hh⟩ : ∃ h, (i + j) / 2 = h := ⟨_, rfl⟩
      have hh1 : i ≤ h := by omega
      have hh2 : h < j := by omega
      have G := Lib.hid (HF.out h (by omega) m)
      rw [← hm] at G
      have HX := Lib.hid (fun (hp : p h = true) u (h1 : h ≤ u) (h2 : u < n) => HM.out h u h1 h2 hp)
      have HY := Lib.hid (fun (hp : p h = false) u (h1 : u < h + 1) => show p u = false by
        cases e : p u with
        | false => rfl
        | true => have := HM.out u h (by omega) (by omega) e; rw [hp] at this; exact absurd this (by simp))
      have HW := Lib.hid hm
      have HE := Lib.hid (show ((i : Int) + (j : Int)) / 2 = (h : Int) by omega)
      clear hlo hhi hm
      go_upto_region 4 with fail
      rw [HE.out]
      cases hp : p h with
      | true =>
        rw [hp] at G
        have HX2 := Lib.hid (HX.out hp)
        go_wp2_with (go_at_call 22; refine G.out.mono ?_; rintro e w1 ⟨rfl, m1, rfl⟩)
        go_roundw
        case rel => exact ⟨i, h, hh1, by omega, rfl, by go_num, HLO.out, HX2.out, m1, rfl⟩
        case measure => simp [intOf] <;> omega
      | false =>
        rw [hp] at G
        have HY2 := Lib.hid (HY.out hp)
        go_wp2_with (go_at_call 22; refine G.out.mono ?_; rintro e w1 ⟨rfl, m1, rfl⟩)
        go_roundw
        case rel => exact ⟨h + 1, j, by omega, hjn, by go_num, rfl, HY2.out, HHI.out, m1, rfl⟩
        case measure => simp [intOf] <;> omega
    · have d1 : decide ((i : Int) < (j : Int)) = false := decide_eq_false (by omega)
      have d2 : decide (i < j) = false := decide_eq_false hlt
      obtain rfl : i = j := by omega
      have HW := Lib.hid hm
      clear hlo hhi hm
      go_wp2_with fail
      go_ret
      exact ⟨⟨i, rfl, hjn, HLO.out, HHI.out⟩, m, HW.out⟩
end Go.Proofs.Ytlojimhllbicjaa.Sx

namespace Go.Proofs.Ytlojimhllbicjaa.Sx
open Go.ChangeShapes Go.WideShapes Go.ChangeAt Go.RowKit Go.Proofs.Ytlojimhllbicjaa.Kit

/-- An index: its struct at g; it holds the text b, and its suffixes in the order T. -/
structure IdxAt (w : World) (g : Nat) (b : List Int) (T : Nat → Nat) : Prop where
  s : ∃ (At : Option Addr) (ct go B : Nat), Block w g 46 #[.slice At b.length ct, .slice (some ⟨go, 0, none⟩) b.length b.length] ∧ b.length ≤ ct ∧ Holds w w.heap.size .u8 At b ∧ OwnF w B go b.length b.length (fun p => (T p : Int))
  ok : SaOk b T
theorem IdxAt.below {w w' : World} {g : Nat} {b : List Int} {T : Nat → Nat} (h : IdxAt w g b T) (hb : Below w.heap.size w w') : IdxAt w' g b T := by
  obtain ⟨At, ct, go, B, h1, h2, h3, h4⟩ := h.s
  exact ⟨⟨At, ct, go, B, h1.below hb h1.lt, h2, (h3.below hb).more hb.size, Own.below h4 hb⟩, h.ok⟩
theorem IdxAt.drewN {w : World} {g : Nat} {b : List Int} {T : Nat → Nat} (h : IdxAt w g b T) (m : Nat) : IdxAt (w.drewN m) g b T := h.below ⟨rfl, rfl, rfl, Nat.le_refl _, fun _ _ => rfl⟩
theorem holds_tail {w : World} {B : Nat} {k : IntKind} {b off : Nat} {xs : List Int} (h : Holds w B k (some ⟨b, off, none⟩) xs) (p : Nat) : Holds w B k (some ⟨b, off + p, none⟩) (xs.drop p) := by
  intro hx
  rw [List.length_drop] at hx
  obtain ⟨b2, o2, hA, hb, hc⟩ := h (by omega)
  injection hA with hA
  injection hA with e1 e2
  subst e1 e2
  refine ⟨b, off + p, rfl, hb, fun j hj => ?_⟩
  rw [List.length_drop] at hj
  rw [Nat.add_assoc, hc (p + j) (by omega)]
  simp [List.getD, List.getElem?_drop]

set_option maxRecDepth 100000 in
set_option maxHeartbeats 6400000 in
theorem test_any {w : World} {g p1 p2 : Nat} {b q : List Int} {T : Nat → Nat} {Aq : Option Addr} {cq : Nat} (h : IdxAt w g b T) (h1 : w.cell? ⟨p1, 0, none⟩ = some (.pointer (some ⟨g, 0, none⟩))) (h2 : w.cell? ⟨p2, 0, none⟩ = some (.slice Aq q.length cq))
    (hq : Holds w w.heap.size .u8 Aq q) (hn : b.length ≤ 1000000) {u : Nat} (hu : u < b.length) :
    Calls Try.prog 22 #[.int .i64 u, .pointer (some ⟨p1, 0, none⟩), .pointer (some ⟨p2, 0, none⟩)] w fun e w' => e = .returned (.bool (geS b T q u)) ∧ ∃ m, w' = w.drewN m := by
  obtain ⟨At, ct, go, B, k1, k2, k3, k4⟩ := h.s
  obtain ⟨bt, ot, rfl, -, -⟩ := k3 (by omega)
  have hT := h.ok.pm.lt u hu
  have c0 := k1.cell 0
  have c1 := k1.cell 1
  have c2 := k4.cell hu
  have HC := Lib.hid (fun m : Nat => compare_any (w := w.drewN m) (some ⟨bt, ot + T u, none⟩) Aq (b.drop (T u)) q (ct - T u) cq (holds_tail k3 (T u)) hq)
  obtain ⟨D, hD⟩ : ∃ D, geS b T q u = D := ⟨_, rfl⟩
  have HD := Lib.hid hD
  rw [hD]
  unfold geS at HD
  obtain ⟨n, hnn⟩ : ∃ n, b.length = n := ⟨_, rfl⟩
  have hdl : (b.drop (T u)).length = n - T u := by rw [List.length_drop, hnn]
  rw [hdl] at HC
  generalize Lib.compareBytes (Lib.bytesOf (b.drop (T u))) (Lib.bytesOf q) = z at *
  rw [hnn] at hn hu c0 c1 hT k2
  generalize T u = t at *
  have i1 : (u : Int) < (n : Int) := by omega
  have i2 : (t : Int) ≤ (n : Int) := by omega
  have i3 : ¬ ct = t := by omega
  clear h k1 k3 k4 hD hdl hq hnn
  go_enter Try.func22, Try.ntmps22
  go_wp2_with fail
  go_quiet ((go_at_call 23; exact Calls.quiet_of_same ((HC.out _).mono fun _ _ h => ⟨h.1, h.2.symm⟩)))
  go_wp2_with fail
  go_ret
  have e := HD.out
  subst e
  exact ⟨rfl, _, rfl⟩

theorem elem8 : IntElem Try.prog 23 5 .u8 1 := ⟨by kernel_rfl, by kernel_rfl, by decide⟩
set_option maxRecDepth 100000 in
set_option maxHeartbeats 6400000 in
theorem new_any (A : Option Addr) (b : List Int) (c : Nat) (w : World) (hn : b.length ≤ 1000000) (ho : Octets b) (hr : Holds w w.heap.size .u8 A b) :
    Calls Try.prog 17 #[.slice A b.length c] w fun e w' => ∃ (g : Nat) (T : Nat → Nat), e = .returned (.tuple #[.pointer (some ⟨g, 0, none⟩), .int .i64 0]) ∧ IdxAt w' g b T ∧ Below w.heap.size w w' := by
  have d1 : decide ((2147483647 : Int) < (b.length : Int)) = false := decide_eq_false (by omega)
  have HR := Lib.hid hr
  have HS := Lib.hid (fun W (hb : Below w.heap.size w W) => sorted_any A b c W hn ho ((hr.below hb).more hb.size))
  clear hr ho
  go_enter Try.func17, Try.ntmps17
  go_wp2_with (first
    | (at_builtin; refine wpList_append_ints _ rfl _ _ _ rfl elem8 (xs := []) (ys := b) (B := w.heap.size) (Own.nil _ _ _ _) rfl rfl HR.out (by simp; omega) (Nat.le_refl _) ?_; intro v1 w1 o1 g1 b1 _; rw [List.nil_append] at o1; obtain ⟨A1, cc, rfl, hcc, _, hh⟩ := o1.opened; have HO := Lib.hid o1; have HB := Lib.hid b1; have HS2 := Lib.hid (HS.out _ b1); clear o1 g1 b1)
    | (go_at_call 20; have _t := HS2; clear _t; refine HS2.out.mono ?_; rintro e w2 ⟨go, T, rfl, hok, oT, b2⟩; have HOK := Lib.hid hok; have HOT := Lib.hid oT; have HB2 := Lib.hid b2; clear hok oT b2))
  go_ret2
  have bb := HB.out.trans (HB2.out.mono HB.out.size)
  have b3 := Below.refl w2.heap.size w2 |>.alloc (Nat.le_refl _) (.cells #[.slice A1 b.length cc, .slice (some ⟨go, 0, none⟩) b.length b.length] 46)
  refine ⟨w2.heap.size, T, rfl, ⟨⟨A1, cc, go, w1.heap.size, Block.new w2 _ _, hcc, ?_, Own.alloc HOT.out _⟩, HOK.out⟩, bb.alloc bb.size _⟩
  exact (((hh.below HB2.out).more HB2.out.size).below b3).more b3.size

set_option maxRecDepth 100000 in
set_option maxHeartbeats 12800000 in
theorem longest_any {w : World} {g : Nat} {b q : List Int} {T : Nat → Nat} (Aq : Option Addr) (cq : Nat) (h : IdxAt w g b T) (hq : Holds w w.heap.size .u8 Aq q) (hn : b.length ≤ 1000000) (hl : q.length ≤ 1000000) (hb : Bytes8 b) (hq8 : Bytes8 q) :
    Calls Try.prog 18 #[.pointer (some ⟨g, 0, none⟩), .slice Aq q.length cq] w fun e w' => ∃ at_ most : Nat, e = .returned (.tuple #[.int .i64 at_, .int .i64 most]) ∧ FoundB b q at_ most ∧ Below w.heap.size w w' := by
  have N1 := Block.new w 36 #[.pointer (some ⟨g, 0, none⟩)]
  have N2 := Block.new (w.alloc (.cells #[.pointer (some ⟨g, 0, none⟩)] 36)) 23 #[.slice Aq q.length cq]
  have hsz : (w.alloc (.cells #[.pointer (some ⟨g, 0, none⟩)] 36)).heap.size = w.heap.size + 1 := by simp
  rw [hsz] at N2
  have BW : Below w.heap.size w ((w.alloc (.cells #[.pointer (some ⟨g, 0, none⟩)] 36)).alloc (.cells #[.slice Aq q.length cq] 23)) := ((Below.refl w.heap.size w).alloc (Nat.le_refl _) _).alloc (by simp) _
  have q1 := (N1.alloc (.cells #[.slice Aq q.length cq] 23)).cell 0
  have q2 := N2.cell 0
  go_enter Try.func18, Try.ntmps18
  go_upto_region 1 with fail
  obtain ⟨W, hW⟩ : ∃ W, W = ((w.alloc (.cells #[.pointer (some ⟨g, 0, none⟩)] 36)).alloc (.cells #[.slice Aq q.length cq] 23)) := ⟨_, rfl⟩
  rw [← hW] at BW q1 q2 ⊢
  have hx := h.below BW
  have hqW := (hq.below BW).more BW.size
  have q1' : W.cell? ⟨w.heap.size, 0, none⟩ = some (.pointer (some ⟨g, 0, none⟩)) := q1
  have q2' : W.cell? ⟨w.heap.size + 1, 0, none⟩ = some (.slice Aq q.length cq) := q2
  obtain ⟨At, ct, go, B, k1, k2, k3, k4⟩ := hx.s
  have c0 := k1.cell 0
  have c1 := k1.cell 1
  have HSE := Lib.hid (search_any (w := W) (n := b.length) (p := geS b T q) (c1 := .pointer (some ⟨w.heap.size, 0, none⟩)) (c2 := .pointer (some ⟨w.heap.size + 1, 0, none⟩)) hn (fun u v huv hv hu => geS_mono hb hq8 h.ok huv hv hu)
    (fun u hu m => (test_any (w := W.drewN m) (hx.drewN m) q1' q2' hqW hn hu).mono (fun e w' hh => ⟨hh.1, by obtain ⟨m2, rfl⟩ := hh.2; exact ⟨m + m2, World.drewN_drewN _ _ _⟩⟩)))
  have HNM := Lib.hid (fun k m (hk : LeastAt b.length (geS b T q) k) => near_most (m := m) hb hq8 h.ok hk)
  have HT : Hid (∀ u, u < b.length → T u < b.length) := Lib.hid h.ok.pm.lt
  have HBW := Lib.hid BW
  have HCM : Hid (∀ u, u < b.length → ∃ bt ot : Nat, At = some ⟨bt, ot, none⟩ ∧ ∀ m : Nat, Calls Try.prog 24 #[.slice (some ⟨bt, ot + T u, none⟩) (b.length - T u) (ct - T u), .slice Aq q.length cq] (W.drewN m) fun e w' => e = .returned (.int .i64 (comL (b.drop (T u)) q)) ∧ ∃ m2, w' = (W.drewN m).drewN m2) := Lib.hid (fun u hu => by
    obtain ⟨bt, ot, rfl, -, -⟩ := k3 (by omega)
    refine ⟨bt, ot, rfl, fun m => ?_⟩
    have hh := common_any (w := W.drewN m) (some ⟨bt, ot + T u, none⟩) Aq (b.drop (T u)) q (ct - T u) cq (holds_tail k3 (T u)) hqW (by simp; omega) hl
    rw [List.length_drop] at hh
    exact hh)
  have HO := Lib.hid (fun u (hu : u < b.length) => k4.cell hu)
  have HZ : Hid (∀ u, u < b.length → comL (b.drop (T u)) q ≤ 1000000) := Lib.hid (fun u _ => by have := (comL_le (b.drop (T u)) q).2; omega)
  obtain ⟨com, hcom⟩ : ∃ com : Nat → Nat, (fun u => comL (b.drop (T u)) q) = com := ⟨_, rfl⟩
  have HCO : Hid (∀ u, comL (b.drop (T u)) q = com u) := Lib.hid (fun u => by rw [← hcom])
  obtain ⟨n, hnn⟩ : ∃ n, b.length = n := ⟨_, rfl⟩
  have HN := Lib.hid hnn
  rw [hnn] at c0 c1 HSE hn HT HCM HO HZ k2 HNM
  have HFO : Hid (∀ at_ most : Nat, (0 < most → ∃ u, u < n ∧ at_ = T u ∧ com u = most) → (most = 0 → at_ = 0) → (∀ i, i < n → comL (b.drop i) q ≤ most) → FoundB b q at_ most) := Lib.hid (fun at_ most h1 h2 h3 => ⟨fun h => by
    obtain ⟨u, hu, rfl, e⟩ := h1 h
    exact ⟨by rw [HN.out]; exact HT.out u hu, (HCO.out u).trans e⟩, h2, fun i hi => h3 i (by rw [← HN.out]; exact hi)⟩)
  have HCM2 : Hid (∀ u, u < n → com u ≤ 1000000) := Lib.hid (fun u hu => by rw [← HCO.out u]; exact HZ.out u hu)
  clear h hq hqW hx k1 k3 k4 N1 N2 hsz BW hW hb hq8 q1 q2 hcom hnn
  go_upto_region 5 with (go_at_call 21; refine HSE.out.mono ?_; rintro e w1 ⟨⟨k, rfl, hk⟩, m, rfl⟩; have HK := Lib.hid hk; have hkn := hk.le; have HNB := Lib.hid (fun mm => HNM.out k mm hk); clear hk)
  go_cut [9] (fun v wx => v = .int .i64 ((k - 1 : Nat) : Int) ∧ wx = W.drewN m)
  case first =>
    by_cases h0 : k = 0
    · subst h0
      go_wp2_with fail
      go_meet
      exact ⟨rfl, rfl⟩
    · have e0 : (k : Int) - 1 = ((k - 1 : Nat) : Int) := by omega
      go_wp2_with fail
      go_meet
      exact ⟨rfl, rfl⟩
  case rest =>
  obtain ⟨rfl, rfl⟩ := hcut
  go_wp2_with fail
  go_loopw [7, 8, 9] (fun sa sm si wr => ∃ at_ most i : Nat, sa = .int .i64 at_ ∧ sm = .int .i64 most ∧ si = .int .i64 i ∧ k - 1 ≤ i ∧ i ≤ k + 1 ∧ (∀ u, k - 1 ≤ u → u < i → u < n → com u ≤ most) ∧ (0 < most → ∃ u, u < n ∧ at_ = T u ∧ com u = most) ∧ (most = 0 → at_ = 0) ∧
    most ≤ 1000000 ∧ ∃ m, wr = W.drewN m) (fun _ _ si _ => k + 2 - (intOf si).toNat)
  case atStart => exact ⟨0, 0, k - 1, rfl, rfl, rfl, Nat.le_refl _, by omega, fun u h1 h2 => absurd h1 (by omega), fun h => absurd h (by omega), fun _ => rfl, by omega, m, rfl⟩
  case round =>
    clear HSE HK HNM
    obtain ⟨at_, most, i, rfl, rfl, rfl, hi1, hi2, hall, hat, hz, hm6, m3, hm⟩ := hrel
    have HALL := Lib.hid hall
    have HAT := Lib.hid hat
    have HZ0 := Lib.hid hz
    have HM := Lib.hid hm
    have r1 : wr.cell? ⟨w.heap.size, 0, none⟩ = some (.pointer (some ⟨g, 0, none⟩)) := by rw [hm]; exact q1'
    have r2 : wr.cell? ⟨w.heap.size + 1, 0, none⟩ = some (.slice Aq q.length cq) := by rw [hm]; exact q2'
    have r3 : wr.cell? ⟨g, 0, none⟩ = some (.slice At n ct) := by rw [hm]; exact c0
    have r4 : wr.cell? ⟨g, 1, none⟩ = some (.slice (some ⟨go, 0, none⟩) n n) := by rw [hm]; exact c1
    clear hall hat hz q1' q2' c0 c1
    by_cases hik : i ≤ k
    · have d1 : decide ((i : Int) ≤ (k : Int)) = true := decide_eq_true (by omega)
      by_cases hin : i < n
      · have d2 : decide ((i : Int) < (n : Int)) = true := decide_eq_true (by omega)
        obtain ⟨bt, ot, rfl, hc⟩ := HCM.out i hin
        have r5 : wr.cell? ⟨go, i, none⟩ = some (.int .i32 (T i)) := by rw [hm]; exact HO.out i hin
        have hTi := HT.out i hin
        have HC := Lib.hid (fun x : Nat => hc (m3 + x))
        simp only [HCO.out i, ← World.drewN_drewN, ← hm] at HC
        have hcb := HCM2.out i hin
        have i1 : (i : Int) < (n : Int) := by omega
        have i2 : ((T i : Nat) : Int) ≤ (n : Int) := by omega
        have i3 : ¬ ct = T i := by omega
        have HNX : Hid (∀ x, com i ≤ x → most ≤ x → ∀ u, k - 1 ≤ u → u < i + 1 → u < n → com u ≤ x) := Lib.hid (fun x h1 h2 u a1 a2 a3 => by
          by_cases e : u = i
          · subst e; exact h1
          · exact Nat.le_trans (HALL.out u a1 (by omega) a3) h2)
        have HTI : Hid (∃ u, u < n ∧ T i = T u ∧ com u = com i) := Lib.hid ⟨i, hin, rfl, rfl⟩
        generalize com i = cc at *
        generalize T i = t at *
        clear hc hm
        by_cases hgt : most < cc
        · have d3 : decide ((most : Int) < (cc : Int)) = true := decide_eq_true (by omega)
          have d4 : decide (most < cc) = true := decide_eq_true hgt
          have HNX2 := Lib.hid (HNX.out cc (Nat.le_refl _) (by omega))
          go_wp2_with fail
          go_quiet ((go_at_call 24; exact Calls.quiet_of (HC.out _)))
          go_wp2_with fail
          go_roundw
          case rel => exact ⟨t, cc, i + 1, rfl, rfl, by go_num, by omega, by omega, HNX2.out, fun _ => HTI.out, fun h => absurd h (by omega), hcb, m3 + nq, by rw [HM.out, World.drewN_drewN]⟩
          case measure => simp [intOf] <;> omega
        · have d3 : decide ((most : Int) < (cc : Int)) = false := decide_eq_false (by omega)
          have d4 : decide (most < cc) = false := decide_eq_false hgt
          have HNX2 := Lib.hid (HNX.out most (by omega) (Nat.le_refl _))
          go_wp2_with fail
          go_quiet ((go_at_call 24; exact Calls.quiet_of (HC.out _)))
          go_wp2_with fail
          go_roundw
          case rel => exact ⟨at_, most, i + 1, rfl, rfl, by go_num, by omega, by omega, HNX2.out, HAT.out, HZ0.out, hm6, m3 + nq, by rw [HM.out, World.drewN_drewN]⟩
          case measure => simp [intOf] <;> omega
      · have d2 : decide ((i : Int) < (n : Int)) = false := decide_eq_false (by omega)
        have HEND : Hid (∀ j, j < n → comL (b.drop j) q ≤ most) := Lib.hid (HNB.out most (fun h => by rw [HCO.out]; exact HALL.out (k - 1) (Nat.le_refl _) (by omega) (by omega)) (fun h => by rw [HCO.out]; exact HALL.out k (by omega) (by omega) h))
        have HF := Lib.hid (HFO.out at_ most HAT.out HZ0.out HEND.out)
        clear hm
        go_wp2_with fail
        go_ret2
        exact ⟨at_, most, rfl, HF.out, by rw [HM.out]; exact below_draws HBW.out m3⟩
    · have d1 : decide ((i : Int) ≤ (k : Int)) = false := decide_eq_false (by omega)
      have HEND : Hid (∀ j, j < n → comL (b.drop j) q ≤ most) := Lib.hid (HNB.out most (fun h => by rw [HCO.out]; exact HALL.out (k - 1) (Nat.le_refl _) (by omega) (by omega)) (fun h => by rw [HCO.out]; exact HALL.out k (by omega) (by omega) h))
      have HF := Lib.hid (HFO.out at_ most HAT.out HZ0.out HEND.out)
      clear hm
      go_wp2_with fail
      go_ret2
      exact ⟨at_, most, rfl, HF.out, by rw [HM.out]; exact below_draws HBW.out m3⟩
end Go.Proofs.Ytlojimhllbicjaa.Sx

namespace Go.Proofs.Ytlojimhllbicjaa.Mx
open Go.ChangeShapes Go.WideShapes Go.ChangeAt Go.RowKit Go.Proofs.Ytlojimhllbicjaa.Kit Go.Proofs.Ytlojimhllbicjaa.Sx


set_option maxRecDepth 100000 in
set_option maxHeartbeats 6400000 in
theorem reach_back {w : World} {most : Int} {p : Nat → Bool} {c1 c2 c3 : Value} (hm : most ≤ 1000000) (h0 : -1000000 ≤ most)
    (hf : ∀ (k : Nat), (k : Int) < most → ∀ m : Nat, Calls Try.prog 26 #[.int .i64 k, c1, c2, c3] (w.drewN m) fun e w' => e = .returned (.bool (p k)) ∧ ∃ m, w' = w.drewN m) :
    Calls Try.prog 25 #[.int .i64 most, .func (.func 26) #[] #[c1, c2, c3]] w fun e w' => (∃ far : Nat, e = .returned (.int .i64 far) ∧ ReachOk most p far) ∧ ∃ m, w' = w.drewN m := by
  have HF := Lib.hid hf
  have HC0 : Hid ((0 : Int) = 2 * (cnt p 0 : Int) - ((0 : Nat) : Int)) := Lib.hid rfl
  clear hf
  go_enter Try.func25, Try.ntmps25
  go_wp2_with fail
  go_loopw [5, 6, 7, 8] (fun sf sb sc sk wr => ∃ (far k : Nat) (best score : Int), sf = .int .i64 far ∧ sb = .int .i64 best ∧ sc = .int .i64 score ∧ sk = .int .i64 k ∧ far ≤ k ∧ ((k : Int) ≤ most ∨ k = 0) ∧ 0 ≤ best ∧ best = 2 * (cnt p far : Int) - (far : Int) ∧ score = 2 * (cnt p k : Int) - (k : Int) ∧ ∃ m, wr = w.drewN m) (fun _ _ _ sk _ => (most - intOf sk).toNat)
  case atStart => exact ⟨0, 0, 0, 0, rfl, rfl, rfl, rfl, Nat.le_refl _, .inr rfl, Int.le_refl _, HC0.out, HC0.out, 0, rfl⟩
  case round =>
    obtain ⟨far, k, best, score, rfl, rfl, rfl, rfl, hfk, hk, hb0, hb, hs, m, hm3⟩ := hrel
    have HB := Lib.hid hb
    have HS := Lib.hid hs
    have HM := Lib.hid hm3
    have hcl := cnt_le p k
    have hcf := cnt_le p far
    have hk6 : k ≤ 1000000 := by omega
    have hs6 : -1000000 ≤ score ∧ score ≤ 1000000 := by omega
    have hb6 : best ≤ 1000000 := by omega
    have HFIN : Hid (ReachOk most p far) := Lib.hid ⟨by omega, by omega⟩
    by_cases hlt : (k : Int) < most
    · have d1 : decide ((k : Int) < most) = true := decide_eq_true hlt
      by_cases hgt : best - 32 < score
      · have d2 : decide (best - 32 < score) = true := decide_eq_true hgt
        have G := Lib.hid (HF.out k hlt m)
        rw [← hm3] at G
        have HST : Hid (cnt p (k + 1) = cnt p k + if p k = true then 1 else 0) := Lib.hid rfl
        clear hb hs hm3 hcl hcf
        cases hp : p k with
        | true =>
          rw [hp] at G HST
          by_cases hbet : best < score + 1
          · have d3 : decide (best < score + 1) = true := decide_eq_true hbet
            have HN : Hid (score + 1 = 2 * (cnt p (k + 1) : Int) - ((k + 1 : Nat) : Int)) := Lib.hid (by have h1 := HST.out; have h2 := HS.out; rw [if_pos rfl] at h1; omega)
            go_wp2_with (go_at_call 26; refine G.out.mono ?_; rintro e w1 ⟨rfl, m1, rfl⟩)
            go_roundw
            case rel => exact ⟨k + 1, k + 1, score + 1, score + 1, by go_num, rfl, rfl, by go_num, Nat.le_refl _, .inl (by omega), by omega, HN.out, HN.out, m1, rfl⟩
            case measure => simp [intOf] <;> omega
          · have d3 : decide (best < score + 1) = false := decide_eq_false hbet
            have HN : Hid (score + 1 = 2 * (cnt p (k + 1) : Int) - ((k + 1 : Nat) : Int)) := Lib.hid (by have h1 := HST.out; have h2 := HS.out; rw [if_pos rfl] at h1; omega)
            go_wp2_with (go_at_call 26; refine G.out.mono ?_; rintro e w1 ⟨rfl, m1, rfl⟩)
            go_roundw
            case rel => exact ⟨far, k + 1, best, score + 1, rfl, rfl, rfl, by go_num, by omega, .inl (by omega), hb0, HB.out, HN.out, m1, rfl⟩
            case measure => simp [intOf] <;> omega
        | false =>
          rw [hp] at G HST
          have HN : Hid (score - 1 = 2 * (cnt p (k + 1) : Int) - ((k + 1 : Nat) : Int)) := Lib.hid (by have h1 := HST.out; have h2 := HS.out; rw [if_neg (by simp)] at h1; omega)
          by_cases hbet : best < score - 1
          · have d3 : decide (best < score - 1) = true := decide_eq_true hbet
            go_wp2_with (go_at_call 26; refine G.out.mono ?_; rintro e w1 ⟨rfl, m1, rfl⟩)
            go_roundw
            case rel => exact ⟨k + 1, k + 1, score - 1, score - 1, by go_num, rfl, rfl, by go_num, Nat.le_refl _, .inl (by omega), by omega, HN.out, HN.out, m1, rfl⟩
            case measure => simp [intOf] <;> omega
          · have d3 : decide (best < score - 1) = false := decide_eq_false hbet
            go_wp2_with (go_at_call 26; refine G.out.mono ?_; rintro e w1 ⟨rfl, m1, rfl⟩)
            go_roundw
            case rel => exact ⟨far, k + 1, best, score - 1, rfl, rfl, rfl, by go_num, by omega, .inl (by omega), hb0, HB.out, HN.out, m1, rfl⟩
            case measure => simp [intOf] <;> omega
      · have d2 : decide (best - 32 < score) = false := decide_eq_false hgt
        clear hb hs hm3
        go_wp2_with fail
        go_ret
        exact ⟨⟨far, rfl, HFIN.out⟩, m, HM.out⟩
    · have d1 : decide ((k : Int) < most) = false := decide_eq_false hlt
      clear hb hs hm3
      go_wp2_with fail
      go_ret
      exact ⟨⟨far, rfl, HFIN.out⟩, m, HM.out⟩

set_option maxRecDepth 100000 in
set_option maxHeartbeats 6400000 in
theorem reach_more {w : World} {most : Int} {p : Nat → Bool} {c1 c2 c3 : Value} (hm : most ≤ 1000000) (h0 : -1000000 ≤ most)
    (hf : ∀ (k : Nat), (k : Int) < most → ∀ m : Nat, Calls Try.prog 27 #[.int .i64 k, c1, c2, c3] (w.drewN m) fun e w' => e = .returned (.bool (p k)) ∧ ∃ m, w' = w.drewN m) :
    Calls Try.prog 25 #[.int .i64 most, .func (.func 27) #[] #[c1, c2, c3]] w fun e w' => (∃ far : Nat, e = .returned (.int .i64 far) ∧ ReachOk most p far) ∧ ∃ m, w' = w.drewN m := by
  have HF := Lib.hid hf
  have HC0 : Hid ((0 : Int) = 2 * (cnt p 0 : Int) - ((0 : Nat) : Int)) := Lib.hid rfl
  clear hf
  go_enter Try.func25, Try.ntmps25
  go_wp2_with fail
  go_loopw [5, 6, 7, 8] (fun sf sb sc sk wr => ∃ (far k : Nat) (best score : Int), sf = .int .i64 far ∧ sb = .int .i64 best ∧ sc = .int .i64 score ∧ sk = .int .i64 k ∧ far ≤ k ∧ ((k : Int) ≤ most ∨ k = 0) ∧ 0 ≤ best ∧ best = 2 * (cnt p far : Int) - (far : Int) ∧ score = 2 * (cnt p k : Int) - (k : Int) ∧ ∃ m, wr = w.drewN m) (fun _ _ _ sk _ => (most - intOf sk).toNat)
  case atStart => exact ⟨0, 0, 0, 0, rfl, rfl, rfl, rfl, Nat.le_refl _, .inr rfl, Int.le_refl _, HC0.out, HC0.out, 0, rfl⟩
  case round =>
    obtain ⟨far, k, best, score, rfl, rfl, rfl, rfl, hfk, hk, hb0, hb, hs, m, hm3⟩ := hrel
    have HB := Lib.hid hb
    have HS := Lib.hid hs
    have HM := Lib.hid hm3
    have hcl := cnt_le p k
    have hcf := cnt_le p far
    have hk6 : k ≤ 1000000 := by omega
    have hs6 : -1000000 ≤ score ∧ score ≤ 1000000 := by omega
    have hb6 : best ≤ 1000000 := by omega
    have HFIN : Hid (ReachOk most p far) := Lib.hid ⟨by omega, by omega⟩
    by_cases hlt : (k : Int) < most
    · have d1 : decide ((k : Int) < most) = true := decide_eq_true hlt
      by_cases hgt : best - 32 < score
      · have d2 : decide (best - 32 < score) = true := decide_eq_true hgt
        have G := Lib.hid (HF.out k hlt m)
        rw [← hm3] at G
        have HST : Hid (cnt p (k + 1) = cnt p k + if p k = true then 1 else 0) := Lib.hid rfl
        clear hb hs hm3 hcl hcf
        cases hp : p k with
        | true =>
          rw [hp] at G HST
          by_cases hbet : best < score + 1
          · have d3 : decide (best < score + 1) = true := decide_eq_true hbet
            have HN : Hid (score + 1 = 2 * (cnt p (k + 1) : Int) - ((k + 1 : Nat) : Int)) := Lib.hid (by have h1 := HST.out; have h2 := HS.out; rw [if_pos rfl] at h1; omega)
            go_wp2_with (go_at_call 27; refine G.out.mono ?_; rintro e w1 ⟨rfl, m1, rfl⟩)
            go_roundw
            case rel => exact ⟨k + 1, k + 1, score + 1, score + 1, by go_num, rfl, rfl, by go_num, Nat.le_refl _, .inl (by omega), by omega, HN.out, HN.out, m1, rfl⟩
            case measure => simp [intOf] <;> omega
          · have d3 : decide (best < score + 1) = false := decide_eq_false hbet
            have HN : Hid (score + 1 = 2 * (cnt p (k + 1) : Int) - ((k + 1 : Nat) : Int)) := Lib.hid (by have h1 := HST.out; have h2 := HS.out; rw [if_pos rfl] at h1; omega)
            go_wp2_with (go_at_call 27; refine G.out.mono ?_; rintro e w1 ⟨rfl, m1, rfl⟩)
            go_roundw
            case rel => exact ⟨far, k + 1, best, score + 1, rfl, rfl, rfl, by go_num, by omega, .inl (by omega), hb0, HB.out, HN.out, m1, rfl⟩
            case measure => simp [intOf] <;> omega
        | false =>
          rw [hp] at G HST
          have HN : Hid (score - 1 = 2 * (cnt p (k + 1) : Int) - ((k + 1 : Nat) : Int)) := Lib.hid (by have h1 := HST.out; have h2 := HS.out; rw [if_neg (by simp)] at h1; omega)
          by_cases hbet : best < score - 1
          · have d3 : decide (best < score - 1) = true := decide_eq_true hbet
            go_wp2_with (go_at_call 27; refine G.out.mono ?_; rintro e w1 ⟨rfl, m1, rfl⟩)
            go_roundw
            case rel => exact ⟨k + 1, k + 1, score - 1, score - 1, by go_num, rfl, rfl, by go_num, Nat.le_refl _, .inl (by omega), by omega, HN.out, HN.out, m1, rfl⟩
            case measure => simp [intOf] <;> omega
          · have d3 : decide (best < score - 1) = false := decide_eq_false hbet
            go_wp2_with (go_at_call 27; refine G.out.mono ?_; rintro e w1 ⟨rfl, m1, rfl⟩)
            go_roundw
            case rel => exact ⟨far, k + 1, best, score - 1, rfl, rfl, rfl, by go_num, by omega, .inl (by omega), hb0, HB.out, HN.out, m1, rfl⟩
            case measure => simp [intOf] <;> omega
      · have d2 : decide (best - 32 < score) = false := decide_eq_false hgt
        clear hb hs hm3
        go_wp2_with fail
        go_ret
        exact ⟨⟨far, rfl, HFIN.out⟩, m, HM.out⟩
    · have d1 : decide ((k : Int) < most) = false := decide_eq_false hlt
      clear hb hs hm3
      go_wp2_with fail
      go_ret
      exact ⟨⟨far, rfl, HFIN.out⟩, m, HM.out⟩

set_option maxRecDepth 100000 in
set_option maxHeartbeats 6400000 in
theorem back_one {w : World} {p1 p2 p3 : Nat} {xs ys : List Int} {A1 A2 : Option Addr} {ca cb n o l k : Nat} (h1 : w.cell? ⟨p1, 0, none⟩ = some (.slice A2 ys.length cb)) (h3 : w.cell? ⟨p3, 0, none⟩ = some (.slice A1 xs.length ca))
    (g0 : w.cell? ⟨p2, 0, none⟩ = some (.int .i64 n)) (g1 : w.cell? ⟨p2, 1, none⟩ = some (.int .i64 o)) (g2 : w.cell? ⟨p2, 2, none⟩ = some (.int .i64 l)) {B C : Nat} (hx : Holds w B .u8 A1 xs) (hy : Holds w C .u8 A2 ys) (hxl : xs.length ≤ 1000000) (hyl : ys.length ≤ 1000000)
    (hk1 : k < n) (hk2 : k < o) (hn : n ≤ ys.length) (ho : o ≤ xs.length) :
    Calls Try.prog 26 #[.int .i64 k, .pointer (some ⟨p1, 0, none⟩), .pointer (some ⟨p2, 0, none⟩), .pointer (some ⟨p3, 0, none⟩)] w fun e w' => e = .returned (.bool (decide (ys.getD (n - 1 - k) 0 = xs.getD (o - 1 - k) 0))) ∧ ∃ m, w' = w.drewN m := by
  obtain ⟨b1, o1, rfl, -, hc1⟩ := hx (by omega)
  obtain ⟨b2, o2, rfl, -, hc2⟩ := hy (by omega)
  have c1 := hc1 (o - 1 - k) (by omega)
  have c2 := hc2 (n - 1 - k) (by omega)
  obtain ⟨D, hD⟩ : ∃ D, decide (ys.getD (n - 1 - k) 0 = xs.getD (o - 1 - k) 0) = D := ⟨_, rfl⟩
  rw [hD]
  have hD2 : (ys.getD (n - 1 - k) 0 == xs.getD (o - 1 - k) 0) = D := by rw [← hD]; rfl
  obtain ⟨i, hi⟩ : ∃ i, n - 1 - k = i := ⟨_, rfl⟩
  obtain ⟨j, hj⟩ : ∃ j, o - 1 - k = j := ⟨_, rfl⟩
  rw [hi, hj] at hD2
  rw [hi] at c2
  rw [hj] at c1
  have e1 : (n : Int) - 1 - (k : Int) = (i : Int) := by omega
  have e2 : (o : Int) - 1 - (k : Int) = (j : Int) := by omega
  have i1 : (i : Int) < (ys.length : Int) := by omega
  have i2 : (j : Int) < (xs.length : Int) := by omega
  generalize xs.getD j 0 = x at *
  generalize ys.getD i 0 = y at *
  clear hx hy hc1 hc2 hD hi hj
  go_enter Try.func26, Try.ntmps26
  go_wp2_with fail
  go_quiet (fail)
  go_wp2_with fail
  go_ret
  subst hD2
  exact ⟨rfl, _, rfl⟩

set_option maxRecDepth 100000 in
set_option maxHeartbeats 6400000 in
theorem more_one {w : World} {p1 p2 p3 : Nat} {xs ys : List Int} {A1 A2 : Option Addr} {ca cb n o l k : Nat} (h1 : w.cell? ⟨p1, 0, none⟩ = some (.slice A2 ys.length cb)) (h3 : w.cell? ⟨p3, 0, none⟩ = some (.slice A1 xs.length ca))
    (g0 : w.cell? ⟨p2, 0, none⟩ = some (.int .i64 n)) (g1 : w.cell? ⟨p2, 1, none⟩ = some (.int .i64 o)) (g2 : w.cell? ⟨p2, 2, none⟩ = some (.int .i64 l)) {B C : Nat} (hx : Holds w B .u8 A1 xs) (hy : Holds w C .u8 A2 ys) (hxl : xs.length ≤ 1000000) (hyl : ys.length ≤ 1000000)
    (hk1 : n + l + k < ys.length) (hk2 : o + l + k < xs.length) :
    Calls Try.prog 27 #[.int .i64 k, .pointer (some ⟨p1, 0, none⟩), .pointer (some ⟨p2, 0, none⟩), .pointer (some ⟨p3, 0, none⟩)] w fun e w' => e = .returned (.bool (decide (ys.getD (n + l + k) 0 = xs.getD (o + l + k) 0))) ∧ ∃ m, w' = w.drewN m := by
  obtain ⟨b1, o1, rfl, -, hc1⟩ := hx (by omega)
  obtain ⟨b2, o2, rfl, -, hc2⟩ := hy (by omega)
  have c1 := hc1 (o + l + k) (by omega)
  have c2 := hc2 (n + l + k) (by omega)
  obtain ⟨D, hD⟩ : ∃ D, decide (ys.getD (n + l + k) 0 = xs.getD (o + l + k) 0) = D := ⟨_, rfl⟩
  rw [hD]
  have hD2 : (ys.getD (n + l + k) 0 == xs.getD (o + l + k) 0) = D := by rw [← hD]; rfl
  obtain ⟨i, hi⟩ : ∃ i, n + l + k = i := ⟨_, rfl⟩
  obtain ⟨j, hj⟩ : ∃ j, o + l + k = j := ⟨_, rfl⟩
  rw [hi, hj] at hD2
  rw [hi] at c2
  rw [hj] at c1
  have e1 : (n : Int) + (l : Int) + (k : Int) = (i : Int) := by omega
  have e2 : (o : Int) + (l : Int) + (k : Int) = (j : Int) := by omega
  have i1 : (i : Int) < (ys.length : Int) := by omega
  have i2 : (j : Int) < (xs.length : Int) := by omega
  generalize xs.getD j 0 = x at *
  generalize ys.getD i 0 = y at *
  clear hx hy hc1 hc2 hD hi hj
  go_enter Try.func27, Try.ntmps27
  go_wp2_with fail
  go_quiet (fail)
  go_wp2_with fail
  go_ret
  subst hD2
  exact ⟨rfl, _, rfl⟩
end Go.Proofs.Ytlojimhllbicjaa.Mx

namespace Go.Proofs.Ytlojimhllbicjaa.Mx
open Go.ChangeShapes Go.WideShapes Go.ChangeAt Go.RowKit Go.Proofs.Ytlojimhllbicjaa.Kit Go.Proofs.Ytlojimhllbicjaa.Sx

def backP (xs ys : List Int) (n o k : Nat) : Bool := decide (ys.getD (n - 1 - k) 0 = xs.getD (o - 1 - k) 0)
def moreP (xs ys : List Int) (n o l k : Nat) : Bool := decide (ys.getD (n + l + k) 0 = xs.getD (o + l + k) 0)
/-- What is put to a piece on both sides. -/
structure WideOk (xs ys : List Int) (n o l free back more : Nat) : Prop where
  b1 : back + free ≤ n
  b2 : back ≤ o
  b3 : back ≤ 2 * cnt (backP xs ys n o) back
  m1 : n + l + more ≤ ys.length
  m2 : o + l + more ≤ xs.length
  m3 : more ≤ 2 * cnt (moreP xs ys n o l) more

theorem back_reach {W : World} {p1 p2 p3 : Nat} {xs ys : List Int} {A1 A2 : Option Addr} {ca cb n o l free B C : Nat} (c1 : W.cell? ⟨p1, 0, none⟩ = some (.slice A2 ys.length cb)) (c0 : W.cell? ⟨p3, 0, none⟩ = some (.slice A1 xs.length ca))
    (c2 : W.cell? ⟨p2, 0, none⟩ = some (.int .i64 n)) (c3 : W.cell? ⟨p2, 1, none⟩ = some (.int .i64 o)) (c4 : W.cell? ⟨p2, 2, none⟩ = some (.int .i64 l)) (hx : Holds W B .u8 A1 xs) (hy : Holds W C .u8 A2 ys) (hxl : xs.length ≤ 100000) (hyl : ys.length ≤ 100000)
    (hn : n ≤ ys.length) (ho : o ≤ xs.length) (most : Int) (m1 : most ≤ (n : Int) - free) (m2 : most ≤ o) (m3 : -1000000 ≤ most) :
    Calls Try.prog 25 #[.int .i64 most, .func (.func 26) #[] #[.pointer (some ⟨p1, 0, none⟩), .pointer (some ⟨p2, 0, none⟩), .pointer (some ⟨p3, 0, none⟩)]] W fun e w' =>
      ∃ far : Nat, e = .returned (.int .i64 far) ∧ (far + free ≤ n ∨ far = 0) ∧ far ≤ o ∧ far ≤ 2 * cnt (backP xs ys n o) far ∧ ∃ m, w' = W.drewN m := by
  refine (reach_back (w := W) (most := most) (p := backP xs ys n o) (by omega) m3 (fun k hk m => (back_one (w := W.drewN m) c1 c0 c2 c3 c4 hx hy (by omega) (by omega) (by omega) (by omega) hn ho).mono (fun e w' hh => ⟨hh.1, by obtain ⟨q, rfl⟩ := hh.2; exact ⟨m + q, World.drewN_drewN _ _ _⟩⟩))).mono ?_
  rintro e w' ⟨⟨far, rfl, h⟩, m, rfl⟩
  have := h.le
  exact ⟨far, rfl, by omega, by omega, h.half, m, rfl⟩
theorem more_reach {W : World} {p1 p2 p3 : Nat} {xs ys : List Int} {A1 A2 : Option Addr} {ca cb n o l B C : Nat} (c1 : W.cell? ⟨p1, 0, none⟩ = some (.slice A2 ys.length cb)) (c0 : W.cell? ⟨p3, 0, none⟩ = some (.slice A1 xs.length ca))
    (c2 : W.cell? ⟨p2, 0, none⟩ = some (.int .i64 n)) (c3 : W.cell? ⟨p2, 1, none⟩ = some (.int .i64 o)) (c4 : W.cell? ⟨p2, 2, none⟩ = some (.int .i64 l)) (hx : Holds W B .u8 A1 xs) (hy : Holds W C .u8 A2 ys) (hxl : xs.length ≤ 100000) (hyl : ys.length ≤ 100000)
    (hn : n + l ≤ ys.length) (ho : o + l ≤ xs.length) (most : Int) (m1 : most ≤ (ys.length : Int) - n - l) (m2 : most ≤ (xs.length : Int) - o - l) (m3 : -1000000 ≤ most) :
    Calls Try.prog 25 #[.int .i64 most, .func (.func 27) #[] #[.pointer (some ⟨p1, 0, none⟩), .pointer (some ⟨p2, 0, none⟩), .pointer (some ⟨p3, 0, none⟩)]] W fun e w' =>
      ∃ far : Nat, e = .returned (.int .i64 far) ∧ n + l + far ≤ ys.length ∧ o + l + far ≤ xs.length ∧ far ≤ 2 * cnt (moreP xs ys n o l) far ∧ ∃ m, w' = W.drewN m := by
  refine (reach_more (w := W) (most := most) (p := moreP xs ys n o l) (by omega) m3 (fun k hk m => (more_one (w := W.drewN m) c1 c0 c2 c3 c4 hx hy (by omega) (by omega) (by omega) (by omega)).mono (fun e w' hh => ⟨hh.1, by obtain ⟨q, rfl⟩ := hh.2; exact ⟨m + q, World.drewN_drewN _ _ _⟩⟩))).mono ?_
  rintro e w' ⟨⟨far, rfl, h⟩, m, rfl⟩
  have := h.le
  exact ⟨far, rfl, by omega, by omega, h.half, m, rfl⟩
def BackR (xs ys : List Int) (n o free : Nat) (W : World) (v : Value) (wx : World) : Prop := ∃ back : Nat, v = .int .i64 back ∧ (back + free ≤ n ∧ back ≤ o ∧ back ≤ 2 * cnt (backP xs ys n o) back) ∧ ∃ m, wx = W.drewN m
def MoreR (xs ys : List Int) (n o l : Nat) (W : World) (v : Value) (wx : World) : Prop := ∃ more : Nat, v = .int .i64 more ∧ (n + l + more ≤ ys.length ∧ o + l + more ≤ xs.length ∧ more ≤ 2 * cnt (moreP xs ys n o l) more) ∧ ∃ m, wx = W.drewN m

set_option maxRecDepth 100000 in
set_option maxHeartbeats 12800000 in
theorem widened_any {w : World} {xs ys : List Int} (A1 A2 : Option Addr) (ca cb : Nat) {n o l free : Nat} (hx : Holds w w.heap.size .u8 A1 xs) (hy : Holds w w.heap.size .u8 A2 ys) (hxl : xs.length ≤ 100000) (hyl : ys.length ≤ 100000) (hf : free ≤ n) (hn : n + l ≤ ys.length) (ho : o + l ≤ xs.length) :
    Calls Try.prog 19 #[.slice A1 xs.length ca, .slice A2 ys.length cb, .agg #[.int .i64 n, .int .i64 o, .int .i64 l], .int .i64 free] w fun e w' => ∃ back more : Nat, e = .returned (.agg #[.int .i64 ((n - back : Nat) : Int), .int .i64 ((o - back : Nat) : Int), .int .i64 ((back + l + more : Nat) : Int)]) ∧
      WideOk xs ys n o l free back more ∧ Below w.heap.size w w' := by
  have s1 : (w.alloc (.cells #[.slice A1 xs.length ca] 23)).heap.size = w.heap.size + 1 := by simp
  have s2 : ((w.alloc (.cells #[.slice A1 xs.length ca] 23)).alloc (.cells #[.slice A2 ys.length cb] 23)).heap.size = w.heap.size + 1 + 1 := by simp
  have s3 : (((w.alloc (.cells #[.slice A1 xs.length ca] 23)).alloc (.cells #[.slice A2 ys.length cb] 23)).alloc (.cells #[.int .i64 n, .int .i64 o, .int .i64 l] 25)).heap.size = w.heap.size + 1 + 1 + 1 := by simp
  have N0 := ((Block.new w 23 #[.slice A1 xs.length ca]).alloc (.cells #[.slice A2 ys.length cb] 23)).alloc (.cells #[.int .i64 n, .int .i64 o, .int .i64 l] 25) |>.alloc (.cells #[.int .i64 0, .int .i64 0, .int .i64 0] 25)
  have N1 := ((Block.new (w.alloc (.cells #[.slice A1 xs.length ca] 23)) 23 #[.slice A2 ys.length cb]).alloc (.cells #[.int .i64 n, .int .i64 o, .int .i64 l] 25)).alloc (.cells #[.int .i64 0, .int .i64 0, .int .i64 0] 25)
  have N2 := (Block.new ((w.alloc (.cells #[.slice A1 xs.length ca] 23)).alloc (.cells #[.slice A2 ys.length cb] 23)) 25 #[.int .i64 n, .int .i64 o, .int .i64 l]).alloc (.cells #[.int .i64 0, .int .i64 0, .int .i64 0] 25)
  have N3 := Block.new (((w.alloc (.cells #[.slice A1 xs.length ca] 23)).alloc (.cells #[.slice A2 ys.length cb] 23)).alloc (.cells #[.int .i64 n, .int .i64 o, .int .i64 l] 25)) 25 #[.int .i64 0, .int .i64 0, .int .i64 0]
  rw [s1] at N1
  rw [s2] at N2
  rw [s3] at N3
  have BW : Below w.heap.size w ((((w.alloc (.cells #[.slice A1 xs.length ca] 23)).alloc (.cells #[.slice A2 ys.length cb] 23)).alloc (.cells #[.int .i64 n, .int .i64 o, .int .i64 l] 25)).alloc (.cells #[.int .i64 0, .int .i64 0, .int .i64 0] 25)) :=
    (((Below.refl w.heap.size w).alloc (Nat.le_refl _) _).alloc (by omega) _).alloc (by omega) _ |>.alloc (by omega) _
  clear s1 s2 s3
  go_enter Try.func19, Try.ntmps19
  go_upto_region 1 with fail
  obtain ⟨W, hW⟩ : ∃ W, W = ((((w.alloc (.cells #[.slice A1 xs.length ca] 23)).alloc (.cells #[.slice A2 ys.length cb] 23)).alloc (.cells #[.int .i64 n, .int .i64 o, .int .i64 l] 25)).alloc (.cells #[.int .i64 0, .int .i64 0, .int .i64 0] 25)) := ⟨_, rfl⟩
  rw [← hW] at N0 N1 N2 N3 BW ⊢
  clear hW
  have hxW := hx.below BW
  have hyW := hy.below BW
  have c0 : W.cell? ⟨w.heap.size, 0, none⟩ = some (.slice A1 xs.length ca) := by rw [N0.cell 0]; rfl
  have c1 : W.cell? ⟨w.heap.size + 1, 0, none⟩ = some (.slice A2 ys.length cb) := by rw [N1.cell 0]; rfl
  have c2 : W.cell? ⟨w.heap.size + 1 + 1, 0, none⟩ = some (.int .i64 n) := by rw [N2.cell 0]; rfl
  have c3 : W.cell? ⟨w.heap.size + 1 + 1, 1, none⟩ = some (.int .i64 o) := by rw [N2.cell 1]; rfl
  have c4 : W.cell? ⟨w.heap.size + 1 + 1, 2, none⟩ = some (.int .i64 l) := by rw [N2.cell 2]; rfl
  have HRB := Lib.hid (fun most => back_reach (W := W) (free := free) c1 c0 c2 c3 c4 hxW hyW hxl hyl (by omega) (by omega) most)
  have HRM := Lib.hid (fun (m0 : Nat) most => more_reach (W := W.drewN m0) (ca := ca) (cb := cb) c1 c0 c2 c3 c4 hxW hyW hxl hyl hn ho most)
  have HBW := Lib.hid BW
  have HN3 := Lib.hid N3
  clear hx hy hxW hyW N0 N1 N2 N3 BW
  obtain ⟨M, hM⟩ : ∃ M : Int, (if (o : Int) < (n : Int) - (free : Int) then (o : Int) else (n : Int) - (free : Int)) = M := ⟨_, rfl⟩
  obtain ⟨M2, hM2⟩ : ∃ M2 : Int, (if (xs.length : Int) - (o : Int) < (ys.length : Int) - (n : Int) then (xs.length : Int) - (o : Int) else (ys.length : Int) - (n : Int)) = M2 := ⟨_, rfl⟩
  have b1 : M ≤ (n : Int) - free ∧ M ≤ o ∧ 0 ≤ M := by split at hM <;> omega
  have b2 : M2 ≤ (ys.length : Int) - n ∧ M2 ≤ (xs.length : Int) - o ∧ (l : Int) ≤ M2 := by split at hM2 <;> omega
  have G1 := Lib.hid (HRB.out M b1.1 b1.2.1 (by omega))
  have G2 := Lib.hid (fun m0 => HRM.out m0 (M2 - l) (by omega) (by omega) (by omega))
  have HC := Lib.hid (fun m : Nat => (And.intro (show (W.drewN m).cell? ⟨w.heap.size, 0, none⟩ = some (.slice A1 xs.length ca) from c0) (And.intro (show (W.drewN m).cell? ⟨w.heap.size + 1, 0, none⟩ = some (.slice A2 ys.length cb) from c1)
    (And.intro (show (W.drewN m).cell? ⟨w.heap.size + 1 + 1, 0, none⟩ = some (.int .i64 n) from c2) (And.intro (show (W.drewN m).cell? ⟨w.heap.size + 1 + 1, 1, none⟩ = some (.int .i64 o) from c3) (show (W.drewN m).cell? ⟨w.heap.size + 1 + 1, 2, none⟩ = some (.int .i64 l) from c4))))))
  have hM26 : M2 ≤ 100000 := by omega
  clear HRB HRM
  go_wp2_with (first
    | (go_at_call 25; have _t := G1; clear _t; go_loud (with_reducible refine G1.out.mono ?_; rintro e w1 ⟨back, rfl, f1, f2, f3, m, rfl⟩; have HF3 := Lib.hid f3; obtain ⟨r0, r1, r2, r3, r4⟩ := HC.out m; have G3 := Lib.hid (G2.out m); clear f3 G1 c0 c1 c2 c3 c4))
    | (go_at_call 25; have _t := G3; clear _t; go_loud (with_reducible refine G3.out.mono ?_; rintro e w2 ⟨more, rfl, g1, g2, g3, m2, rfl⟩; have HG3 := Lib.hid g3; rw [World.drewN_drewN]; obtain ⟨t0, t1, t2, t3, t4⟩ := HC.out (m + m2); have NN := (HN3.out).drewN (m + m2); have z0 := NN.cell 0; have z1 := NN.cell 1; have z2 := NN.cell 2; have ff := fun i => NN.frozen i; have HNN := Lib.hid NN; clear g3 G3 NN r0 r1 r2 r3 r4; simp only [List.getElem?_toArray, List.getElem?_cons_zero, List.getElem?_cons_succ] at z0 z1 z2)))
  have BB := (((below_draws HBW.out (m + m2)).setCell (p := ⟨w.heap.size + 1 + 1 + 1, 0, none⟩) (by simp; omega) (.int .i64 ((n : Int) - back))).setCell (p := ⟨w.heap.size + 1 + 1 + 1, 1, none⟩) (by simp; omega) (.int .i64 ((o : Int) - back))).setCell (p := ⟨w.heap.size + 1 + 1 + 1, 2, none⟩) (by simp; omega) (.int .i64 ((back : Int) + l + more))
  have b9 := (((HNN.out.set_ 0 (.int .i64 ((n : Int) - back))).set_ 1 (.int .i64 ((o : Int) - back))).set_ 2 (.int .i64 ((back : Int) + l + more)))
  generalize (((W.drewN (m + m2)).setCell ⟨w.heap.size + 1 + 1 + 1, 0, none⟩ (.int .i64 ((n : Int) - back))).setCell ⟨w.heap.size + 1 + 1 + 1, 1, none⟩ (.int .i64 ((o : Int) - back))).setCell ⟨w.heap.size + 1 + 1 + 1, 2, none⟩ (.int .i64 ((back : Int) + l + more)) = w9 at *
  have e0 : w9.cell? ⟨w.heap.size + 1 + 1 + 1, 0, none⟩ = some (.int .i64 ((n : Int) - back)) := b9.cell 0
  have e1 : w9.cell? ⟨w.heap.size + 1 + 1 + 1, 1, none⟩ = some (.int .i64 ((o : Int) - back)) := b9.cell 1
  have e2 : w9.cell? ⟨w.heap.size + 1 + 1 + 1, 2, none⟩ = some (.int .i64 ((back : Int) + l + more)) := b9.cell 2
  have q0 : ((n - back : Nat) : Int) = (n : Int) - back := by omega
  have q1 : ((o - back : Nat) : Int) = (o : Int) - back := by omega
  have q2 : ((back + l + more : Nat) : Int) = (back : Int) + l + more := by omega
  have fin := (⟨by omega, f2, HF3.out, g1, g2, HG3.out⟩ : WideOk xs ys n o l free back more)
  refine bodyPost_ret (v := .agg #[.int .i64 ((n : Int) - back), .int .i64 ((o : Int) - back), .int .i64 ((back : Int) + l + more)]) ?_ rfl ⟨back, more, by rw [q0, q1, q2], fin, BB⟩
  simp [results, Try.results19, go_sem, e0, e1, e2]
end Go.Proofs.Ytlojimhllbicjaa.Mx

namespace Go.Proofs.Ytlojimhllbicjaa.Mx
open Go.Proofs.Ytlojimhllbicjaa.Sx Go.Proofs.Ytlojimhllbicjaa.Mt

def agreeP (xs ys : List Int) (o n j : Nat) : Bool := decide (xs.getD (o + j) 0 = ys.getD (n + j) 0)
theorem sameN_cnt (xs ys : List Int) (o n : Nat) : ∀ k, sameN xs ys o n k = cnt (agreeP xs ys o n) k
  | 0 => rfl
  | k + 1 => by
    have ih := sameN_cnt xs ys o n k
    show sameN xs ys o n k + (if xs[o + k]?.getD 0 = ys[n + k]?.getD 0 then 1 else 0) = cnt (agreeP xs ys o n) k + (if agreeP xs ys o n k = true then 1 else 0)
    rw [ih]
    congr 1
    by_cases h : xs[o + k]?.getD 0 = ys[n + k]?.getD 0
    · rw [if_pos h, if_pos (show agreeP xs ys o n k = true from decide_eq_true (by simpa [List.getD] using h))]
    · rw [if_neg h, if_neg (show ¬ agreeP xs ys o n k = true from fun e => h (by have e2 := of_decide_eq_true e; simpa [List.getD] using e2))]
theorem cnt_all {p : Nat → Bool} : ∀ k, (∀ j, j < k → p j = true) → cnt p k = k
  | 0, _ => rfl
  | k + 1, h => by
    show cnt p k + (if p k = true then 1 else 0) = k + 1
    rw [cnt_all k (fun j hj => h j (by omega)), if_pos (h k (by omega))]
theorem wide_half {xs ys : List Int} {n o l free back more : Nat} (h : WideOk xs ys n o l free back more) (hm : ∀ j, j < l → xs.getD (o + j) 0 = ys.getD (n + j) 0) :
    back + l + more ≤ 2 * sameN xs ys (o - back) (n - back) (back + l + more) := by
  rw [sameN_cnt, cnt_add, cnt_add]
  have e1 : cnt (agreeP xs ys (o - back) (n - back)) back = cnt (backP xs ys n o) back := by
    rw [← cnt_rev]
    refine cnt_congr _ fun j hj => ?_
    have := h.b1
    have := h.b2
    unfold agreeP backP
    rw [show o - back + (back - 1 - j) = o - 1 - j by omega, show n - back + (back - 1 - j) = n - 1 - j by omega]
    exact decide_eq_decide.2 eq_comm
  have e2 : cnt (fun j => agreeP xs ys (o - back) (n - back) (back + j)) l = l := by
    refine cnt_all _ fun j hj => ?_
    have := h.b1
    have := h.b2
    unfold agreeP
    rw [show o - back + (back + j) = o + j by omega, show n - back + (back + j) = n + j by omega]
    exact decide_eq_true (hm j hj)
  have e3 : cnt (fun j => agreeP xs ys (o - back) (n - back) (back + l + j)) more = cnt (moreP xs ys n o l) more := by
    refine cnt_congr _ fun j hj => ?_
    have := h.b1
    have := h.b2
    unfold agreeP moreP
    rw [show o - back + (back + l + j) = o + l + j by omega, show n - back + (back + l + j) = n + l + j by omega]
    exact decide_eq_decide.2 eq_comm
  rw [e1, e2, e3]
  have := h.b3
  have := h.m3
  omega

/-! ### Pieces one behind another -/
def runL (old new : Int) : Int → List Pc → Int → Prop
  | e, [], f => e ≤ f
  | e, p :: ps, f => oneB old new p = true ∧ e ≤ p.n ∧ runL old new (p.n + p.l) ps f
theorem runL_snoc {old new : Int} {p : Pc} {g : Int} (h1 : oneB old new p = true) (h3 : p.n + p.l ≤ g) : ∀ {ps : List Pc} {e f : Int}, runL old new e ps f → f ≤ p.n → runL old new e (ps ++ [p]) g
  | [], e, f, h, h2 => ⟨h1, by unfold runL at h; omega, h3⟩
  | q :: qs, e, f, h, h2 => ⟨h.1, h.2.1, runL_snoc h1 h3 h.2.2 h2⟩
theorem runL_may {old new : Int} : ∀ {ps : List Pc} {e f : Int}, runL old new e ps f → mayL old new e ps = true
  | [], _, _, _ => rfl
  | p :: ps, _, _, h => by rw [mayL_good h.1 h.2.1]; exact runL_may h.2.2
/-- What stands in the list when all before place i has been looked at. -/
structure FoundL (xs ys : List Int) (ps : List Pc) (e i : Nat) : Prop where
  run : runL xs.length ys.length 0 ps e
  half : ∀ p ∈ ps, p.l ≤ 2 * (sameN xs ys p.o.toNat p.n.toNat p.l.toNat : Int)
  cover : ∀ j, j < i → (∃ p ∈ ps, p.n ≤ (j : Int) ∧ (j : Int) < p.n + p.l) ∨ ∀ k, k < xs.length → comL (xs.drop k) (ys.drop j) < 16
  ei : e ≤ i
  iy : i ≤ ys.length
  few : ps.length ≤ i
theorem FoundL.nil (xs ys : List Int) : FoundL xs ys [] 0 0 := ⟨Int.le_refl _, by simp, fun j hj => absurd hj (by omega), Nat.le_refl _, Nat.zero_le _, Nat.zero_le _⟩
theorem FoundL.skip {xs ys : List Int} {ps : List Pc} {e i at_ most : Nat} (h : FoundL xs ys ps e i) (hi : i < ys.length) (hf : FoundB xs (ys.drop i) at_ most) (hs : most < 16) : FoundL xs ys ps e (i + 1) := by
  refine ⟨h.run, h.half, fun j hj => ?_, by have := h.ei; omega, hi, by have := h.few; omega⟩
  by_cases hji : j < i
  · exact h.cover j hji
  · obtain rfl : j = i := by omega
    exact .inr fun k hk => by have := hf.mx k hk; omega
theorem getD_drop' (xs : List Int) (o j : Nat) : (xs.drop o).getD j 0 = xs.getD (o + j) 0 := by simp [List.getD]
theorem FoundL.take {xs ys : List Int} {ps : List Pc} {e i o l back more : Nat} (h : FoundL xs ys ps e i) (hi : i < ys.length) (hf : FoundB xs (ys.drop i) o l) (hl : 16 ≤ l) (hw : WideOk xs ys i o l e back more) :
    FoundL xs ys (ps ++ [⟨((i - back : Nat) : Int), ((o - back : Nat) : Int), ((back + l + more : Nat) : Int)⟩]) (i + l + more) (i + l + more) := by
  have hc := hf.lt (by omega)
  have hm : ∀ j, j < l → xs.getD (o + j) 0 = ys.getD (i + j) 0 := fun j hj => by
    have := comL_get (xs.drop o) (ys.drop i) j (by omega)
    rwa [getD_drop', getD_drop'] at this
  have hhalf := wide_half hw hm
  have b1 := hw.b1
  have b2 := hw.b2
  have m1 := hw.m1
  have m2 := hw.m2
  have hone : oneB xs.length ys.length ⟨((i - back : Nat) : Int), ((o - back : Nat) : Int), ((back + l + more : Nat) : Int)⟩ = true := by
    unfold oneB
    refine decide_eq_true ?_
    simp only
    omega
  refine ⟨runL_snoc hone (by simp only; omega) h.run (by simp only; omega), fun p hp => ?_, fun j hj => ?_, Nat.le_refl _, by omega, ?_⟩
  · rcases List.mem_append.1 hp with hp | hp
    · exact h.half p hp
    · obtain rfl : p = _ := by simpa using hp
      show ((back + l + more : Nat) : Int) ≤ 2 * (sameN xs ys ((o - back : Nat) : Int).toNat ((i - back : Nat) : Int).toNat ((back + l + more : Nat) : Int).toNat : Int)
      rw [Int.toNat_natCast, Int.toNat_natCast, Int.toNat_natCast]
      omega
  · by_cases hji : j < i
    · rcases h.cover j hji with ⟨p, hp, h1⟩ | h1
      · exact .inl ⟨p, List.mem_append_left _ hp, h1⟩
      · exact .inr h1
    · exact .inl ⟨_, List.mem_append_right _ (List.mem_singleton.2 rfl), by simp only; omega, by simp only; omega⟩
  · have := h.few
    simp
    omega
/-- A row of 32 that the old image has too is met by a piece. -/
theorem FoundL.met {xs ys : List Int} {ps : List Pc} {e t k : Nat} (h : FoundL xs ys ps e ys.length) (ht : t + 32 ≤ ys.length) (hk : k + 32 ≤ xs.length) (hq : ∀ j, j < 32 → xs.getD (k + j) 0 = ys.getD (t + j) 0) :
    ∃ p ∈ ps, p.n < (t : Int) + 32 ∧ (t : Int) < p.n + p.l := by
  rcases h.cover t (by omega) with ⟨p, hp, h1, h2⟩ | h1
  · exact ⟨p, hp, by omega, h2⟩
  · have h2 := h1 k (by omega)
    have h3 := comL_ge 32 (xs.drop k) (ys.drop t) (by simp; omega) (by simp; omega) (fun j hj => by rw [getD_drop', getD_drop']; exact hq j hj)
    omega
/-- An image and the same one: one piece. -/
theorem found_one {xs ys : List Int} (he : xs = ys) (h0 : 0 < ys.length) : FoundL xs ys [⟨0, 0, ys.length⟩] ys.length ys.length := by
  subst he
  have hone : oneB xs.length xs.length ⟨0, 0, xs.length⟩ = true := by
    unfold oneB
    exact decide_eq_true (by simp only; omega)
  have hs : sameN xs xs 0 0 xs.length = xs.length := by
    rw [sameN_cnt]
    exact cnt_all _ fun j _ => by unfold agreeP; exact decide_eq_true rfl
  refine ⟨⟨hone, Int.le_refl _, by simp only [runL]; omega⟩, fun p hp => ?_, fun j hj => .inl ⟨_, List.mem_singleton.2 rfl, by simp only; omega, by simp only; omega⟩, Nat.le_refl _, Nat.le_refl _, h0⟩
  obtain rfl : p = _ := by simpa using hp
  simp only [Int.toNat_natCast, Int.toNat_zero, hs]
  omega
end Go.Proofs.Ytlojimhllbicjaa.Mx

namespace Go.Proofs.Ytlojimhllbicjaa.Mx
open Go.ChangeShapes Go.WideShapes Go.ChangeAt Go.RowKit Go.Proofs.Ytlojimhllbicjaa.Kit Go.Proofs.Ytlojimhllbicjaa.Sx Go.Proofs.Ytlojimhllbicjaa.Mt

def cellsP (t : Pc) : List Value := [.int .i64 t.n, .int .i64 t.o, .int .i64 t.l]
/-- v is a row of pieces of the call's own. -/
def OwnP (w : World) (B : Nat) (v : Value) (ts : List Pc) : Prop := w.ownsRow B 25 3 v ts.length (ts.flatMap cellsP)
theorem flatP_get : ∀ (ts : List Pc) (i j : Nat) (t : Pc) (u : Value), ts[i]? = some t → (cellsP t)[j]? = some u → (ts.flatMap cellsP)[i * 3 + j]? = some u
  | [], i, j, s, u, h, _ => by simp at h
  | a :: ss, 0, j, s, u, h, hu => by
    simp at h
    subst h
    have hj : j < (cellsP a).length := (List.getElem?_eq_some_iff.1 hu).1
    rw [List.flatMap_cons, Nat.zero_mul, Nat.zero_add, List.getElem?_append_left hj]
    exact hu
  | a :: ss, i + 1, j, s, u, h, hu => by
    have ih := flatP_get ss i j s u (by simpa using h) hu
    rw [List.flatMap_cons, List.getElem?_append_right (by simp [cellsP]; omega)]
    have e : (i + 1) * 3 + j - (cellsP a).length = i * 3 + j := by simp [cellsP]; omega
    rw [e]
    exact ih
section
variable {w w' : World} {B : Nat} {v : Value} {ts : List Pc}
theorem OwnP.nil (w : World) (B : Nat) : OwnP w B (.slice none 0 0) [] := World.ownsRow_nil w B _ 3
theorem OwnP.lt (h : OwnP w B v ts) : ∀ g, v.ownBlock = some g → B ≤ g ∧ g < w.heap.size := World.ownsRow.lt h
theorem OwnP.alloc (h : OwnP w B v ts) (o : Obj) : OwnP (w.alloc o) B v ts := World.ownsRow.alloc h o
theorem OwnP.drewN (h : OwnP w B v ts) (n : Nat) : OwnP (w.drewN n) B v ts := h
theorem OwnP.holds {A : Option Addr} {n c : Nat} (h : OwnP w B (.slice A n c) ts) : n = ts.length ∧ n ≤ c ∧ c ≤ maxLen ∧ HoldsP w w.heap.size A ts := by
  rcases h.2 with ⟨he, h0⟩ | ⟨g, cap, cur, he, hb, hg2, hnc, hcm, hcs, htake⟩
  · injection he with e1 e2 e3
    subst e1 e2 e3
    exact ⟨h0.symm, Nat.le_refl _, Nat.zero_le _, fun hx => by omega⟩
  · injection he with e1 e2 e3
    subst e1 e2 e3
    refine ⟨rfl, hnc, hcm, fun hx => ⟨g, 0, rfl, (Array.getElem?_eq_some_iff.1 hg2).1, fun i t hi => ?_⟩⟩
    have hcell : ∀ (j : Nat) (u : Value), (cellsP t)[j]? = some u → w.cell? ⟨g, 0 + i * 3 + j, none⟩ = some u := fun j u hu => by
      have := World.ownsRow.cells h (g := g) rfl (i * 3 + j) u (flatP_get ts i j t u hi hu)
      rw [add_plain] at this
      rw [Nat.zero_add] at this ⊢
      exact this
    exact ⟨by simpa using hcell 0 _ rfl, hcell 1 _ rfl, hcell 2 _ rfl⟩
theorem OwnP.opened (h : OwnP w B v ts) : ∃ (A : Option Addr) (cap : Nat), v = .slice A ts.length cap ∧ ts.length ≤ cap ∧ cap ≤ maxLen ∧ HoldsP w w.heap.size A ts := by
  rcases h.2 with ⟨rfl, h0⟩ | ⟨g, cap, cur, rfl, hb, hg2, hnc, hcm, hcs, htake⟩
  · have := h.holds
    exact ⟨none, 0, by rw [h0], by rw [h0]; exact Nat.le_refl _, this.2.2.1, this.2.2.2⟩
  · have := h.holds
    exact ⟨_, _, rfl, this.2.1, this.2.2.1, this.2.2.2⟩
theorem OwnP.ne_block {g : Nat} {t : TypeId} {cs : Array Value} (h : OwnP w B v ts) (hg : Block w g t cs) (hne : 25 ≠ t) : v.ownBlock ≠ some g := by
  rcases h.2 with ⟨rfl, _⟩ | ⟨g', cap, cur, rfl, _, hh, _⟩
  · simp [Value.ownBlock]
  · intro he
    obtain rfl : g' = g := by simpa [Value.ownBlock] using he
    unfold Block at hg
    rw [hh] at hg
    injection hg with hg
    injection hg with _ ht
    exact hne ht
theorem elemP : Try.prog.underlying 22 = some (.slice 25) ∧ (Try.prog.info? 25).map (fun i => (i.zero, i.size, i.bytes)) = some (some (.agg #[.int .i64 0, .int .i64 0, .int .i64 0]), 3, 24) := by
  constructor <;> kernel_rfl
theorem run_append_pc (h : OwnP w B v ts) (q : Pc) (c : Nat) (hsz : ts.length ≤ 1000000) (hbase : B ≤ w.heap.size) (ty : TypeId) :
    ∃ A' c' w', (Builtin.append_ #[22, 22] ty #[v, .slice (some ⟨w.heap.size, 0, none⟩) 1 c]).run Try.prog (w.alloc (.cells (cellsP q).toArray 25)) = .ok (.slice A' (ts.length + 1) c') w' ∧
      OwnP w' B (.slice A' (ts.length + 1) c') (ts ++ [q]) ∧ TurnsIn (fun b => v.ownBlock = some b) w w' := by
  obtain ⟨ht, hinfo⟩ := elemP
  obtain ⟨i, hi, hz, hs, hby⟩ := info_parts hinfo
  have hnew := Block.new w 25 (cellsP q).toArray
  obtain ⟨g, cap, w', hrun, h2, h3, _, _⟩ := run_append_lies (P := Try.prog) (w.alloc (.cells (cellsP q).toArray 25)) 22 ty B 25 i _ 3 24 ht hi hz hs hby rfl (by omega) v ts.length (ts.flatMap cellsP) (h.alloc _)
    ⟨w.heap.size, 0, none⟩ 1 c (cellsP q) (by simp [cellsP]) (by
      intro j u hu
      exact World.news_of_block hnew j u (by simpa using hu)) (by
      intro u hu
      simp [cellsP] at hu
      rcases hu with rfl | rfl | rfl <;> rfl) (by omega) (by unfold maxLen; omega) (by omega) (by simp; omega) _ rfl
  refine ⟨some ⟨g, 0, none⟩, cap, w', hrun, ?_, ((TurnsIn.refl _ w).alloc _).trans (.ofGrown h3 fun b hb => hb)⟩
  unfold OwnP
  rw [List.length_append, List.flatMap_append]
  simpa using h2
theorem step_append_pc {ops : Array Oper} {o : Oper} {a : Act} {K : Act → World → Prop} {Q : Exit → Act → World → Prop} {E : Prop} (hg : o.guard = none) (s x : Operand)
    (ho : o.op = Op.call { callee := Callee.builtin Builtin.append, args := #[s, x], argTypes := #[22, 22] })
    (q : Pc) (hown : OwnP w B v ts) (hs : a.eval s = v) {c : Nat} (hx : a.eval x = .slice (some ⟨w.heap.size, 0, none⟩) 1 c) (hsz : ts.length ≤ 1000000) (hbase : B ≤ w.heap.size)
    (hK : ∀ A' c' w', OwnP w' B (.slice A' (ts.length + 1) c') (ts ++ [q]) → TurnsIn (fun b => v.ownBlock = some b) w w' → K (a.put o.dst (.slice A' (ts.length + 1) c')) w') :
    if Region.wanted o (yielded ops a.tmps) = true then Oper.wp Try.prog o a (w.alloc (.cells #[.int .i64 q.n, .int .i64 q.o, .int .i64 q.l] 25)) K Q else E := by
  have hw : Region.wanted o (yielded ops a.tmps) = true := by simp [Region.wanted, hg]
  rw [if_pos hw]
  obtain ⟨A', c', w', hrun, h2, h3⟩ := run_append_pc hown q c hsz hbase o.type
  have hrun' : (Builtin.append_ #[22, 22] o.type #[v, .slice (some ⟨w.heap.size, 0, none⟩) 1 c]).run Try.prog (w.alloc (.cells #[.int .i64 q.n, .int .i64 q.o, .int .i64 q.l] 25)) = .ok (.slice A' (ts.length + 1) c') w' := hrun
  unfold Oper.wp
  simp [execOp, ho, resolve, invoke, builtin, hs, hx, hrun', Result.andThen]
  exact hK _ _ _ h2 h3
theorem wpList_append_pc {ops : Array Oper} {rest : List Oper} {o : Oper} {a : Act} {Q : Exit → Act → World → Prop} (hgd : o.guard = none) (s x : Operand)
    (ho : o.op = Op.call { callee := Callee.builtin Builtin.append, args := #[s, x], argTypes := #[22, 22] })
    (q : Pc) (hown : OwnP w B v ts) (hs : a.eval s = v) {c : Nat} (hx : a.eval x = .slice (some ⟨w.heap.size, 0, none⟩) 1 c) (hsz : ts.length ≤ 1000000) (hbase : B ≤ w.heap.size)
    (hK : ∀ A' c' w', OwnP w' B (.slice A' (ts.length + 1) c') (ts ++ [q]) → TurnsIn (fun b => v.ownBlock = some b) w w' → wpList Try.prog ops Q rest (a.put o.dst (.slice A' (ts.length + 1) c')) w') :
    wpList Try.prog ops Q (o :: rest) a (w.alloc (.cells #[.int .i64 q.n, .int .i64 q.o, .int .i64 q.l] 25)) := by
  refine wpList_plain hgd fun K hK2 => ?_
  obtain ⟨A', c', w', hrun, h2, h3⟩ := run_append_pc hown q c hsz hbase o.type
  have hrun' : (Builtin.append_ #[22, 22] o.type #[v, .slice (some ⟨w.heap.size, 0, none⟩) 1 c]).run Try.prog (w.alloc (.cells #[.int .i64 q.n, .int .i64 q.o, .int .i64 q.l] 25)) = .ok (.slice A' (ts.length + 1) c') w' := hrun
  unfold Oper.wp
  simp only [execOp, ho, resolve, invoke, builtin, Sem.run_bind, Sem.run_pure, Result.andThen_ok, List.map_toArray, List.map_cons, List.map_nil, hs, hx, hrun']
  exact hK2 _ _ (hK _ _ _ h2 h3)
end

theorem str_beq {xs ys : List Int} (hx : Octets xs) (hy : Octets ys) : ((strOfNums xs).toList == (strOfNums ys).toList) = decide (xs = ys) := by
  by_cases h : xs = ys
  · subst h; simp
  · rw [decide_eq_false h, beq_eq_false_iff_ne]
    intro e
    apply h
    apply strOfNums_inj hx hy
    rw [ByteArray.toList_eq, ByteArray.toList_eq] at e
    exact ByteArray.ext (Array.ext' e)
theorem equal_all (A1 A2 : Option Addr) (xs ys : List Int) (c1 c2 : Nat) (w : World) (hx : Octets xs) (hy : Octets ys) (r1 : Holds w w.heap.size .u8 A1 xs) (r2 : Holds w w.heap.size .u8 A2 ys) :
    Calls Try.prog 16 #[.slice A1 xs.length c1, .slice A2 ys.length c2] w fun e w' => e = .returned (.bool (decide (xs = ys))) ∧ w = w' := by
  have f1 := conv_bytes Try.underlying23 Try.underlying5 Try.underlying9 w A1 xs c1 _ r1
  have f2 := conv_bytes Try.underlying23 Try.underlying5 Try.underlying9 w A2 ys c2 _ r2
  have hb := str_beq hx hy
  generalize decide (xs = ys) = b at *
  generalize strOfNums xs = s at *
  generalize strOfNums ys = t at *
  go_enter Try.func16, Try.ntmps16
  go_wp2
  go_ret
  exact ⟨by rw [← hb]; rfl, rfl⟩

theorem wpList_append_pc_as {w : World} {B : Nat} {v : Value} {ts : List Pc} {ops : Array Oper} {rest : List Oper} {o : Oper} {a : Act} {Q : Exit → Act → World → Prop} (hgd : o.guard = none) (s x : Operand)
    (ho : o.op = Op.call { callee := Callee.builtin Builtin.append, args := #[s, x], argTypes := #[22, 22] })
    (q : Pc) (hown : OwnP w B v ts) (hs : a.eval s = v) {c N : Nat} (hN : w.heap.size = N) (hx : a.eval x = .slice (some ⟨N, 0, none⟩) 1 c) (hsz : ts.length ≤ 1000000) (hbase : B ≤ w.heap.size)
    (hK : ∀ A' c' w', OwnP w' B (.slice A' (ts.length + 1) c') (ts ++ [q]) → TurnsIn (fun b => v.ownBlock = some b) w w' → wpList Try.prog ops Q rest (a.put o.dst (.slice A' (ts.length + 1) c')) w') :
    wpList Try.prog ops Q (o :: rest) a (w.alloc (.cells #[.int .i64 q.n, .int .i64 q.o, .int .i64 q.l] 25)) := by
  subst hN
  exact wpList_append_pc hgd s x ho q hown hs hx hsz hbase hK
theorem OwnP.below {w w' : World} {B : Nat} {v : Value} {ts : List Pc} (h : OwnP w B v ts) (hb : Below w.heap.size w w') : OwnP w' B v ts := by
  rcases h.2 with ⟨rfl, h0⟩ | ⟨g, cap, cur, rfl, hbg, hg, hnc, hcm, hcs, htake⟩
  · exact ⟨h.1, .inl ⟨rfl, h0⟩⟩
  · exact ⟨h.1, .inr ⟨g, cap, cur, rfl, hbg, (hb.block g (Array.getElem?_eq_some_iff.1 hg).1).trans hg, hnc, hcm, hcs, htake⟩⟩

set_option maxRecDepth 100000 in
set_option maxHeartbeats 12800000 in
theorem find_some {w : World} {xs ys : List Int} (A1 A2 : Option Addr) (ca cb : Nat) (hx : Holds w w.heap.size .u8 A1 xs) (hy : Holds w w.heap.size .u8 A2 ys) (hxl : xs.length ≤ 100000) (hyl : ys.length ≤ 100000) (ox : Octets xs) (oy : Octets ys) (hcb : ys.length ≤ cb) (h0 : 0 < ys.length) (hne : xs ≠ ys) :
    Calls Try.prog 12 #[.slice A1 xs.length ca, .slice A2 ys.length cb] w fun e w' => ∃ (A : Option Addr) (c : Nat) (ps : List Pc) (e9 : Nat), e = .returned (.slice A ps.length c) ∧ FoundL xs ys ps e9 ys.length ∧ HoldsP w' w'.heap.size A ps ∧ Below w.heap.size w w' := by
  have d1 : decide ((0 : Int) < (ys.length : Int)) = true := decide_eq_true (by omega)
  have d2 : decide (0 < ys.length) = true := decide_eq_true h0
  have GE := Lib.hid (equal_all A1 A2 xs ys ca cb w ox oy hx hy)
  rw [decide_eq_false hne] at GE
  have GN := Lib.hid (new_any A1 xs ca w (by omega) ox hx)
  obtain ⟨b2, off2, rfl, _, _⟩ := hy h0
  have HX := Lib.hid hx
  have HY := Lib.hid hy
  clear hx hy hne
  go_enter Try.func12, Try.ntmps12
  go_wp2_with (first
    | (go_at_call 16; (with_reducible refine GE.out.mono ?_); rintro e w1 ⟨rfl, rfl⟩)
    | (go_at_call 17; (with_reducible refine GN.out.mono ?_); rintro e w2 ⟨g, T, rfl, hid, hb⟩; have HI := Lib.hid hid; have HB := Lib.hid hb; clear hid hb))
  clear GE GN
  have HXW := Lib.hid ((HX.out.below HB.out).more HB.out.size)
  have HYW := Lib.hid ((HY.out.below HB.out).more HB.out.size)
  clear HX HY
  go_loopw [7, 8, 9] (fun sl se si wr => ∃ (ps : List Pc) (e i : Nat), se = .int .i64 e ∧ si = .int .i64 i ∧ OwnP wr w2.heap.size sl ps ∧ Hid (FoundL xs ys ps e i) ∧ Below w2.heap.size w2 wr) (fun _ _ si _ => ys.length - (intOf si).toNat)
  case atStart => exact ⟨[], 0, 0, rfl, rfl, OwnP.nil _ _, FoundL.nil _ _, Below.refl _ _⟩
  case round =>
    obtain ⟨ps, e, i, rfl, rfl, own, HF, hB⟩ := hrel
    by_cases hlt : i < ys.length
    · have d3 : decide ((i : Int) < (ys.length : Int)) = true := decide_eq_true (by omega)
      have d4 : decide (i < ys.length) = true := decide_eq_true hlt
      have hci : ¬ cb = i := by omega
      have hci2 : i ≤ cb := by omega
      have GL := longest_any (w := wr) (some ⟨b2, off2 + i, none⟩) (cb - i) (HI.out.below hB) ((holds_tail HYW.out i).below hB |>.more hB.size) (by omega) (by simp; omega) ox (fun x hx => oy x (List.mem_of_mem_drop hx))
      rw [List.length_drop] at GL
      have HGL := Lib.hid GL
      have HXR := Lib.hid ((HXW.out.below hB).more hB.size)
      have HYR := Lib.hid ((HYW.out.below hB).more hB.size)
      clear GL
      go_wp2_with fail
      refine HGL.out.mono ?_
      rintro e3 w3 ⟨at_, most, rfl, hf, b3⟩
      have own3 := own.below b3
      have hB3 := hB.trans (b3.mono hB.size)
      clear HGL
      by_cases hs : most < 16
      · have d5 : decide ((most : Int) < 16) = true := decide_eq_true (by omega)
        have d6 : decide (most < 16) = true := decide_eq_true hs
        have HF2 := Lib.hid (HF.out.skip hlt hf hs)
        clear HF hf
        go_wp2_with fail
        go_roundw
        case rel => exact ⟨ps, e, i + 1, rfl, by go_num, own3, HF2, hB3⟩
        case measure => simp [intOf] <;> omega
      · have d5 : decide ((most : Int) < 16) = false := decide_eq_false (by omega)
        have d6 : decide (most < 16) = false := decide_eq_false hs
        have hc := hf.lt (by omega)
        have hle := comL_le (xs.drop at_) (ys.drop i)
        rw [List.length_drop, List.length_drop, hc.2] at hle
        have GW := widened_any (w := w3) A1 (some ⟨b2, off2, none⟩) ca cb (n := i) (o := at_) (l := most) (free := e) ((HXR.out.below b3).more b3.size) ((HYR.out.below b3).more b3.size) hxl hyl HF.out.ei (by omega) (by omega)
        have HGW := Lib.hid GW
        have HTK := Lib.hid (fun back more hw => HF.out.take hlt hf (back := back) (more := more) (by omega) hw)
        have HFEW := Lib.hid HF.out.few
        clear GW HF hf hc
        go_wp2_with fail
        refine HGW.out.mono ?_
        rintro e4 w4 ⟨back, more, rfl, hw, b4⟩
        have own4 := own3.below b4
        have hB4 := hB3.trans (b4.mono hB3.size)
        have hf2 := HTK.out back more hw
        have q2 : ((back + most + more : Nat) : Int) = (back : Int) + most + more := by omega
        rw [q2] at hf2
        have HF2 := Lib.hid hf2
        have k1 := hw.b1
        have k2 := hw.m1
        have k3 := hw.m2
        have k4 := HFEW.out
        have hps : ps.length ≤ 1000000 := by omega
        have hsz4 : (w4.alloc (.cells #[.int .i64 ((i - back : Nat) : Int), .int .i64 ((at_ - back : Nat) : Int), .int .i64 ((back + most + more : Nat) : Int)] 25)).heap.size = w4.heap.size + 1 := by simp
        have N4 := Block.new w4 25 #[.int .i64 ((i - back : Nat) : Int), .int .i64 ((at_ - back : Nat) : Int), .int .i64 ((back + most + more : Nat) : Int)]
        have own5 := own4.alloc (.cells #[.int .i64 ((i - back : Nat) : Int), .int .i64 ((at_ - back : Nat) : Int), .int .i64 ((back + most + more : Nat) : Int)] 25)
        have hB5 := hB4.alloc hB4.size (.cells #[.int .i64 ((i - back : Nat) : Int), .int .i64 ((at_ - back : Nat) : Int), .int .i64 ((back + most + more : Nat) : Int)] 25)
        rw [q2] at hsz4 N4 own5 hB5
        have HN4 := Lib.hid N4
        have HS4 := Lib.hid hsz4
        have HLT := Lib.hid own4.lt
        clear HGW HTK hw hf2 q2 k4 hsz4 N4
        go_wp2_with (at_builtin; refine wpList_append_pc_as rfl _ _ rfl ⟨((i - back : Nat) : Int), ((at_ - back : Nat) : Int), (back : Int) + most + more⟩ own5 rfl HS4.out rfl hps hB5.size ?_; intro A9 c9 w5 own6 tu; have hB6 := hB5.trans (tu.toBelow hB5.size (fun b hb hs => by have := (HLT.out b hs).1; omega)); have N5 := Block.out HN4.out tu (fun hs => by have := (HLT.out _ hs).2; omega); have p0 := N5.cell 0; have p2 := N5.cell 2; simp only [List.getElem?_toArray, List.getElem?_cons_zero, List.getElem?_cons_succ] at p0 p2; clear tu N5)
        go_roundw
        case rel => exact ⟨_, i + most + more, i + most + more, congrArg (Value.int .i64) (by omega), congrArg (Value.int .i64) (by omega), own6, HF2, hB6⟩
        case measure => simp [intOf] <;> omega
    · obtain rfl : i = ys.length := by have := HF.out.iy; omega
      have d3 : decide ((ys.length : Int) < (ys.length : Int)) = false := decide_eq_false (by omega)
      have d4 : decide (ys.length < ys.length) = false := decide_eq_false (by omega)
      obtain ⟨A, c, rfl, _, _, hh⟩ := own.opened
      go_wp2_with fail
      go_ret
      exact ⟨A, c, ps, e, rfl, HF.out, hh, HB.out.trans (hB.mono HB.out.size)⟩
end Go.Proofs.Ytlojimhllbicjaa.Mx

namespace Go.Proofs.Ytlojimhllbicjaa.Mx
open Go.ChangeShapes Go.WideShapes Go.ChangeAt Go.RowKit Go.Proofs.Ytlojimhllbicjaa.Kit Go.Proofs.Ytlojimhllbicjaa.Sx Go.Proofs.Ytlojimhllbicjaa.Mt

theorem runL_one {old new : Int} : ∀ {ps : List Pc} {e f : Int}, runL old new e ps f → ∀ p ∈ ps, oneB old new p = true
  | [], _, _, _, p, hp => by simp at hp
  | q :: qs, _, _, h, p, hp => by
    rcases List.mem_cons.1 hp with rfl | hp
    · exact h.1
    · exact runL_one h.2.2 p hp
theorem FoundL.ok {xs ys : List Int} {ps : List Pc} {e i : Nat} (h : FoundL xs ys ps e i) (hx : xs.length ≤ 1000000) (hy : ys.length ≤ 1000000) : ∀ p ∈ ps, PcOk p := fun p hp => by
  have h1 := one_bd (runL_one h.run p hp)
  exact ⟨by omega, by omega, by omega⟩
theorem FoundL.same {xs ys : List Int} {ps : List Pc} {e i : Nat} (h : FoundL xs ys ps e i) {p : Pc} (hp : p ∈ ps) : p.l ≤ 2 * sameL xs ys p := by
  unfold sameL
  rw [if_pos (runL_one h.run p hp)]
  exact h.half p hp
theorem sameL_bd (xs ys : List Int) (p : Pc) : 0 ≤ sameL xs ys p ∧ (sameL xs ys p ≤ p.l ∨ sameL xs ys p = 0) := by
  unfold sameL
  split
  · next h =>
    have h1 := one_bd h
    have h2 := sameN_le xs ys p.o.toNat p.n.toNat p.l.toNat
    omega
  · omega

set_option maxRecDepth 100000 in
set_option maxHeartbeats 3200000 in
theorem find_empty {w : World} {xs : List Int} (A1 A2 : Option Addr) (ca cb : Nat) (hx : Holds w w.heap.size .u8 A1 xs) (hxl : xs.length ≤ 100000) (ox : Octets xs) :
    Calls Try.prog 12 #[.slice A1 xs.length ca, .slice A2 0 cb] w fun e w' => e = .returned (.slice none 0 0) ∧ Below w.heap.size w w' := by
  have GN := Lib.hid (new_any A1 xs ca w (by omega) ox hx)
  clear hx
  go_enter Try.func12, Try.ntmps12
  go_wp2_with (first | (go_at_call 17; refine GN.out.mono ?_; rintro e w1 ⟨g, T, rfl, hid, hb⟩; clear hid))
  go_loop [7, 9] (fun l i => l = .slice none 0 0 ∧ i = .int .i64 0) (fun _ _ => 0)
  case atStart => exact ⟨rfl, rfl⟩
  case round =>
    obtain ⟨rfl, rfl⟩ := hrel
    go_wp2_with fail
    go_ret
    exact ⟨rfl, hb⟩

theorem find_any {w : World} {xs ys : List Int} (A1 A2 : Option Addr) (ca cb : Nat) (hx : Holds w w.heap.size .u8 A1 xs) (hy : Holds w w.heap.size .u8 A2 ys) (hxl : xs.length ≤ 100000) (hyl : ys.length ≤ 100000) (ox : Octets xs) (oy : Octets ys) (hcb : ys.length ≤ cb) :
    Calls Try.prog 12 #[.slice A1 xs.length ca, .slice A2 ys.length cb] w fun e w' => ∃ (A : Option Addr) (c : Nat) (ps : List Pc) (e9 : Nat), e = .returned (.slice A ps.length c) ∧ FoundL xs ys ps e9 ys.length ∧ HoldsP w' w'.heap.size A ps ∧ Below w.heap.size w w' := by
  by_cases h0 : 0 < ys.length
  · by_cases he : xs = ys
    · have h1 := found_one he h0
      subst he
      refine (find_same A1 A2 xs ca cb w h0 (by omega) hx hy).mono ?_
      rintro e w' ⟨rfl, rfl⟩
      have blk := Block.new w 25 #[.int .i64 0, .int .i64 0, .int .i64 xs.length]
      refine ⟨_, _, [⟨0, 0, xs.length⟩], _, rfl, h1, ?_, (Below.refl _ _).alloc (Nat.le_refl _) _⟩
      intro _
      refine ⟨_, 0, rfl, by simp, fun i p hi => ?_⟩
      rcases i with _ | i
      · obtain rfl : _ = p := by simpa using hi
        exact ⟨blk.cell 0, blk.cell 1, blk.cell 2⟩
      · simp at hi
    · exact find_some A1 A2 ca cb hx hy hxl hyl ox oy hcb h0 he
  · have h1 : ys.length = 0 := by omega
    obtain rfl : ys = [] := List.eq_nil_of_length_eq_zero h1
    refine (find_empty A1 A2 ca cb hx hxl ox).mono ?_
    rintro e w' ⟨rfl, hb⟩
    exact ⟨none, 0, [], 0, rfl, FoundL.nil xs [], fun h => absurd h (by simp), hb⟩
end Go.Proofs.Ytlojimhllbicjaa.Mx

namespace Go.Proofs.Ytlojimhllbicjaa.Mx
open Go.ChangeShapes Go.WideShapes Go.ChangeAt Go.RowKit Go.Proofs.Ytlojimhllbicjaa.Kit Go.Proofs.Ytlojimhllbicjaa.Sx Go.Proofs.Ytlojimhllbicjaa.Mt

theorem holds_cut {w : World} {B : Nat} {k : IntKind} {b off : Nat} {xs : List Int} (h : Holds w B k (some ⟨b, off, none⟩) xs) (p m : Nat) : Holds w B k (some ⟨b, off + p, none⟩) ((xs.drop p).take m) := by
  intro hx
  rw [List.length_take, List.length_drop] at hx
  obtain ⟨b2, o2, hA, hb, hc⟩ := h (by omega)
  injection hA with hA
  injection hA with e1 e2
  subst e1 e2
  refine ⟨b, off + p, rfl, hb, fun j hj => ?_⟩
  rw [List.length_take, List.length_drop] at hj
  rw [Nat.add_assoc, hc (p + j) (by omega)]
  simp [List.getD, List.getElem?_drop, List.getElem?_take, show j < m by omega]

def StandsR (xs zs : List Int) (e : Ending) : Prop := ∃ s : Bool, e = .returned (.bool s) ∧ (s = true → ∃ k, k + zs.length ≤ xs.length ∧ (xs.drop k).take zs.length = zs)

set_option maxRecDepth 100000 in
set_option maxHeartbeats 6400000 in
theorem stands_any {w : World} {xs zs : List Int} (A1 A2 : Option Addr) (ca cb : Nat) (hx : Holds w w.heap.size .u8 A1 xs) (hz : Holds w w.heap.size .u8 A2 zs) (hca : xs.length ≤ ca) (hxl : xs.length ≤ 1000000) (ox : Octets xs) (oz : Octets zs) (h0 : 0 < zs.length) (hzl : zs.length ≤ 1000000) :
    Calls Try.prog 13 #[.slice A1 xs.length ca, .slice A2 zs.length cb] w fun e w' => StandsR xs zs e ∧ ∃ m, w' = w.drewN m := by
  have HZ := Lib.hid hz
  have HX := Lib.hid hx
  clear hx hz
  go_enter Try.func13, Try.ntmps13
  go_wp2_with fail
  go_loopw [5] (fun i wr => ∃ j : Nat, j ≤ xs.length ∧ i = .int .i64 j ∧ ∃ m, wr = w.drewN m) (fun i _ => xs.length - (intOf i).toNat)
  case atStart => exact ⟨0, Nat.zero_le _, rfl, 0, rfl⟩
  case round =>
    obtain ⟨j, hj, rfl, m, hm⟩ := hrel
    have HM := Lib.hid hm
    have hxr : Holds wr wr.heap.size .u8 A1 xs := by rw [hm]; exact HX.out
    have hzr : Holds wr wr.heap.size .u8 A2 zs := by rw [hm]; exact HZ.out
    have HXR := Lib.hid hxr
    have HZR := Lib.hid hzr
    clear hm hxr hzr
    by_cases hlt : (j : Int) ≤ (xs.length : Int) - zs.length
    · have d1 : decide ((j : Int) ≤ (xs.length : Int) - zs.length) = true := decide_eq_true hlt
      obtain ⟨b, off, rfl, _, _⟩ := HXR.out (by omega)
      have hlen : ((xs.drop j).take zs.length).length = zs.length := by rw [List.length_take, List.length_drop]; omega
      have f1 := fun n : Nat => conv_bytes Try.underlying23 Try.underlying5 Try.underlying9 (wr.drewN n) (some ⟨b, off + j, none⟩) ((xs.drop j).take zs.length) (ca - j) wr.heap.size (holds_cut HXR.out j zs.length)
      have f2 := fun n : Nat => conv_bytes Try.underlying23 Try.underlying5 Try.underlying9 (wr.drewN n) A2 zs cb wr.heap.size HZR.out
      rw [hlen] at f1
      have hb := str_beq (xs := (xs.drop j).take zs.length) (fun x hx => ox x (List.mem_of_mem_drop (List.mem_of_mem_take hx))) oz
      have hw1 : IntKind.i64.wrap ((j : Int) + zs.length) = ((j + zs.length : Nat) : Int) := by rw [IntWalk.i64_in _ (by omega)]; omega
      have hjc : j + zs.length ≤ ca := by omega
      have hjn : ¬ ca = j := by omega
      have hsub : j + zs.length - j = zs.length := by omega
      obtain ⟨d, hd⟩ : ∃ d, decide ((xs.drop j).take zs.length = zs) = d := ⟨_, rfl⟩
      rw [hd] at hb
      have HD := Lib.hid hd
      clear hd hlen
      generalize strOfNums ((xs.drop j).take zs.length) = s at *
      generalize strOfNums zs = t at *
      go_wp2_with fail
      go_quiet (fail)
      clear f1 f2
      cases d with
      | true =>
        have HC := Lib.hid (of_decide_eq_true HD.out)
        go_wp2_with fail
        go_ret
        exact ⟨⟨true, rfl, fun _ => ⟨j, by omega, HC.out⟩⟩, m + nq, by rw [HM.out, World.drewN_drewN]⟩
      | false =>
        go_wp2_with fail
        go_roundw
        case rel => exact ⟨j + 1, by omega, by go_num, m + nq, by rw [HM.out, World.drewN_drewN]⟩
        case measure => simp [intOf] <;> omega
    · have d1 : decide ((j : Int) ≤ (xs.length : Int) - zs.length) = false := decide_eq_false hlt
      go_wp2_with fail
      go_ret
      exact ⟨⟨false, rfl, fun h => by simp at h⟩, m, HM.out⟩
theorem cut_get {xs ys : List Int} {k a m : Nat} (h : (xs.drop k).take m = (ys.drop a).take m) {j : Nat} (hj : j < m) : xs.getD (k + j) 0 = ys.getD (a + j) 0 := by
  have h1 := congrArg (fun l => l[j]?.getD 0) h
  simpa [List.getD, List.getElem?_take, List.getElem?_drop, hj] using h1
theorem met_at {xs ys : List Int} {ps : List Pc} {e a k : Nat} (h : FoundL xs ys ps e ys.length) (ha : a + 32 ≤ ys.length) (hk : k + 32 ≤ xs.length) (hq : (xs.drop k).take 32 = (ys.drop a).take 32) :
    ∃ (i : Nat) (hi : i < ps.length), ps[i].n < (a : Int) + 32 ∧ (a : Int) < ps[i].n + ps[i].l := by
  obtain ⟨p, hp, h1, h2⟩ := h.met ha hk (fun j hj => cut_get hq hj)
  obtain ⟨i, hi, rfl⟩ := List.getElem_of_mem hp
  exact ⟨i, hi, h1, h2⟩
end Go.Proofs.Ytlojimhllbicjaa.Mx
