/-
  Layer 20, safe: whether any step asks too far, or late: contracts. Conditions: as each theorem names.
-/
import Derived.Test.YtheofegmbajmkaaSaC
namespace Go.Proofs.Ytheofegmbajmkaa.Sa
open Go.ChangeShapes Go.WideShapes Go.ChangeAt Go.RowKit Go.Proofs.Ytheofegmbajmkaa.Kit Go.Proofs.Ytheofegmbajmkaa.Ordr Go.Proofs.Ytheofegmbajmkaa.Blk Go.Proofs.Ytheofegmbajmkaa.Pl

theorem steps_more {k0 k1 k2 : IntKind} {w : World} {B B' : Nat} {A : Option Addr} {ss : List Stp} (h : HoldsE (StpIn k0 k1 k2 w B) 4 w B A ss) (hB : B ≤ B') : HoldsE (StpIn k0 k1 k2 w B') 4 w B' A ss := by
  intro hx
  obtain ⟨b, off, e, hb, hc⟩ := h hx
  refine ⟨b, off, e, by omega, fun i r hi => ?_⟩
  obtain ⟨cs, ⟨r0, r1, r2, r3, r4, r5, r6, r7⟩, h2, h3⟩ := hc i r hi
  exact ⟨cs, ⟨r0, r1, r2, r3, r4, r5, r6, r7.more hB⟩, h2, h3⟩
/-- An index, or -1. -/
def Told (D : Bool) (w : World) (e : Ending) (w' : World) : Prop := ∃ z : Int, e = .returned (.int .i64 z) ∧ (0 ≤ z ↔ D = true) ∧ -1 ≤ z ∧ z ≤ 100 ∧ Below w.heap.size w w'
theorem any_next {p : Stp → Bool} {ss : List Stp} {i : Nat} (h : i < ss.length) : (ss.take (i + 1)).any p = ((ss.take i).any p || p ss[i]) := by
  rw [List.take_succ_eq_append_getElem h, List.any_append]; simp

set_option maxHeartbeats 1600000 in
theorem idxfar_any (g gT n : Nat) (bl old : Int) (l : List Int) (A : Option Addr) (ss : List Stp) (c : Nat) (w : World) (hP : Place w g gT n bl old l) (hs : ss.all rightS = true) (hlen : ss.length ≤ 60) (hc : ss.length ≤ c) (hm : c ≤ maxLen) (hr : HoldsS w A ss) :
    Calls Try.prog 37 #[.slice A ss.length c, .func (.func 30) #[.pointer (some ⟨g, 0, none⟩)] #[]] w (Told (ss.any fun s => farB old s.a s.b s.x) w) := by
  unfold maxLen at hm
  obtain ⟨D, hD⟩ : ∃ D, (ss.any fun s => farB old s.a s.b s.x) = D := ⟨_, rfl⟩
  have HD := Lib.hid hD
  rw [hD]
  clear hD
  have HS := Lib.hid (fun (i : Nat) (h : i < ss.length) => right_ok (List.all_eq_true.1 hs ss[i] (List.getElem_mem h)))
  have HN := Lib.hid (fun (i : Nat) (h : i < ss.length) => any_next (p := fun s => farB old s.a s.b s.x) h)
  have HE : Hid (ss.take ss.length = ss) := Lib.hid List.take_length
  have HF : Hid (∀ (W : World) (a b x : Int) (A : Option Addr) (m c : Nat), Below w.heap.size w W → StpOk a b x → Calls Try.prog 30 #[.pointer (some ⟨g, 0, none⟩), .agg #[.int .u8 a, .int .i64 b, .int .i64 x, .slice A m c]] W (Gives (.bool (farB old a b x)) W)) := Lib.hid (fun W a b x A m c hB h => far_any g gT n bl old l a b x A m c W (hP.below hB hP.lt.1 hP.lt.2) h)
  clear hs hP
  go_enter Try.func37, Try.ntmps37
  go_wp2_with fail
  go_loopw [8] (fun s wr => ∃ i : Nat, i ≤ ss.length ∧ s = .int .i64 i ∧ ((ss.take i).any fun s => farB old s.a s.b s.x) = false ∧ Below w.heap.size w wr) (fun s _ => ss.length - (intOf s).toNat)
  case atStart => exact ⟨0, Nat.zero_le _, rfl, by simp, Below.refl _ _⟩
  case round =>
    obtain ⟨i, hi, rfl, ha, hb⟩ := hrel
    have Ha := Lib.hid ha
    clear ha
    by_cases hlt : i < ss.length
    · obtain ⟨b, off, rfl, hbl, c0, c1, c2, c3, k0, k1, k2, h1, h2, hoz, hrz⟩ := stepAt (steps_below hr hb) hlt
      have HNI := HN.out i hlt
      have hok := HS.out i hlt
      have HM : Hid (ss[i] ∈ ss) := Lib.hid (List.getElem_mem hlt)
      have d1 : decide ((i : Int) < (ss.length : Int)) = true := decide_eq_true (by omega)
      have d2 : decide (i < ss.length) = true := decide_eq_true hlt
      generalize ss[i] = s at *
      obtain ⟨a, n', x, Az, cz, zs⟩ := s
      simp only at c0 c1 c2 c3 HNI hok
      have G := HF.out wr a n' x Az zs.length cz hb hok
      have HNH := Lib.hid HNI
      clear HNI hok k0 k1 k2 h1 h2 hoz hrz
      obtain ⟨t, ht⟩ : ∃ t : Bool, (farB old a n' x) = t := ⟨_, rfl⟩
      rw [ht] at G HNH
      have GH := Lib.hid G
      clear G
      cases t with
      | true =>
        obtain rfl : D = true := by rw [← HD.out]; exact List.any_eq_true.2 ⟨_, HM.out, ht⟩
        clear ht
        go_wp2_with (go_at_call 30; refine GH.out.mono ?_; rintro e w2 ⟨rfl, hb2⟩)
        go_ret
        exact ⟨i, rfl, ⟨fun _ => rfl, fun _ => by omega⟩, by omega, by omega, hb.trans (hb2.mono hb.size)⟩
      | false =>
        clear ht
        go_wp2_with (go_at_call 30; refine GH.out.mono ?_; rintro e w2 ⟨rfl, hb2⟩)
        go_roundw
        case rel => exact ⟨i + 1, by omega, by go_num, by rw [HNH.out, Ha.out]; rfl, hb.trans (hb2.mono hb.size)⟩
        case measure => simp [intOf] <;> omega
    · obtain rfl : i = ss.length := by omega
      have d1 : decide ((ss.length : Int) < (ss.length : Int)) = false := decide_eq_false (by omega)
      have d2 : decide (ss.length < ss.length) = false := decide_eq_false (by omega)
      obtain rfl : D = false := by rw [← HD.out]; have := Ha.out; rwa [HE.out] at this
      go_wp2_with fail
      go_ret
      exact ⟨-1, rfl, ⟨fun h => absurd h (by omega), fun h => by cases h⟩, by omega, by omega, hb⟩

theorem hasfar_any (g gT n : Nat) (bl old : Int) (l : List Int) (A : Option Addr) (ss : List Stp) (c : Nat) (w : World) (hP : Place w g gT n bl old l) (hs : ss.all rightS = true) (hlen : ss.length ≤ 60) (hc : ss.length ≤ c) (hm : c ≤ maxLen) (hr : HoldsS w A ss) :
    Calls Try.prog 29 #[.slice A ss.length c, .func (.func 30) #[.pointer (some ⟨g, 0, none⟩)] #[]] w (Gives (.bool (ss.any fun s => farB old s.a s.b s.x)) w) := by
  have G := idxfar_any g gT n bl old l A ss c w hP hs hlen hc hm hr
  obtain ⟨D, hD⟩ : ∃ D, (ss.any fun s => farB old s.a s.b s.x) = D := ⟨_, rfl⟩
  rw [hD] at G ⊢
  have G := Lib.hid G
  clear hD hP hs hlen hc hm hr
  go_enter Try.func29, Try.ntmps29
  cases D with
  | true =>
    go_wp2_with (go_at_call 37; refine G.out.mono ?_; rintro e w2 ⟨z, rfl, hz, hz1, hz2, hb2⟩; have d1 : decide (0 ≤ z) = true := decide_eq_true (hz.2 rfl))
    go_ret
    exact ⟨rfl, hb2⟩
  | false =>
    go_wp2_with (go_at_call 37; refine G.out.mono ?_; rintro e w2 ⟨z, rfl, hz, hz1, hz2, hb2⟩; have d1 : decide (0 ≤ z) = false := decide_eq_false (fun h => by have := hz.1 h; cases this))
    go_ret
    exact ⟨rfl, hb2⟩

set_option maxHeartbeats 1600000 in
theorem idxlate_any (g gT n : Nat) (bl old : Int) (l : List Int) (A : Option Addr) (ss : List Stp) (c : Nat) (w : World) (hP : Place w g gT n bl old l) (hs : ss.all rightS = true) (hlen : ss.length ≤ 60) (hc : ss.length ≤ c) (hm : c ≤ maxLen) (hr : HoldsS w A ss) (hn : n ≤ 40) (hbl : 128 ≤ bl ∧ bl ≤ 4096) (hl : ∀ i ∈ l, 0 ≤ i ∧ i < (n : Int)) :
    Calls Try.prog 37 #[.slice A ss.length c, .func (.func 31) #[.pointer (some ⟨g, 0, none⟩)] #[]] w (Told (ss.any fun s => l.any fun i => meetsB bl i s.a s.b s.x) w) := by
  unfold maxLen at hm
  obtain ⟨D, hD⟩ : ∃ D, (ss.any fun s => l.any fun i => meetsB bl i s.a s.b s.x) = D := ⟨_, rfl⟩
  have HD := Lib.hid hD
  rw [hD]
  clear hD
  have HS := Lib.hid (fun (i : Nat) (h : i < ss.length) => right_ok (List.all_eq_true.1 hs ss[i] (List.getElem_mem h)))
  have HN := Lib.hid (fun (i : Nat) (h : i < ss.length) => any_next (p := fun s => l.any fun i => meetsB bl i s.a s.b s.x) h)
  have HE : Hid (ss.take ss.length = ss) := Lib.hid List.take_length
  have HF : Hid (∀ (W : World) (a b x : Int) (A : Option Addr) (m c : Nat), Below w.heap.size w W → StpOk a b x → Calls Try.prog 31 #[.pointer (some ⟨g, 0, none⟩), .agg #[.int .u8 a, .int .i64 b, .int .i64 x, .slice A m c]] W (Gives (.bool (l.any fun i => meetsB bl i a b x)) W)) := Lib.hid (fun W a b x A m c hB h => late_any g gT n bl old l a b x A m c W hn (hP.below hB hP.lt.1 hP.lt.2) h hbl hl)
  clear hs hP
  go_enter Try.func37, Try.ntmps37
  go_wp2_with fail
  go_loopw [8] (fun s wr => ∃ i : Nat, i ≤ ss.length ∧ s = .int .i64 i ∧ ((ss.take i).any fun s => l.any fun i => meetsB bl i s.a s.b s.x) = false ∧ Below w.heap.size w wr) (fun s _ => ss.length - (intOf s).toNat)
  case atStart => exact ⟨0, Nat.zero_le _, rfl, by simp, Below.refl _ _⟩
  case round =>
    obtain ⟨i, hi, rfl, ha, hb⟩ := hrel
    have Ha := Lib.hid ha
    clear ha
    by_cases hlt : i < ss.length
    · obtain ⟨b, off, rfl, hbl, c0, c1, c2, c3, k0, k1, k2, h1, h2, hoz, hrz⟩ := stepAt (steps_below hr hb) hlt
      have HNI := HN.out i hlt
      have hok := HS.out i hlt
      have HM : Hid (ss[i] ∈ ss) := Lib.hid (List.getElem_mem hlt)
      have d1 : decide ((i : Int) < (ss.length : Int)) = true := decide_eq_true (by omega)
      have d2 : decide (i < ss.length) = true := decide_eq_true hlt
      generalize ss[i] = s at *
      obtain ⟨a, n', x, Az, cz, zs⟩ := s
      simp only at c0 c1 c2 c3 HNI hok
      have G := HF.out wr a n' x Az zs.length cz hb hok
      have HNH := Lib.hid HNI
      clear HNI hok k0 k1 k2 h1 h2 hoz hrz
      obtain ⟨t, ht⟩ : ∃ t : Bool, (l.any fun i => meetsB bl i a n' x) = t := ⟨_, rfl⟩
      rw [ht] at G HNH
      have GH := Lib.hid G
      clear G
      cases t with
      | true =>
        obtain rfl : D = true := by rw [← HD.out]; exact List.any_eq_true.2 ⟨_, HM.out, ht⟩
        clear ht
        go_wp2_with (go_at_call 31; refine GH.out.mono ?_; rintro e w2 ⟨rfl, hb2⟩)
        go_ret
        exact ⟨i, rfl, ⟨fun _ => rfl, fun _ => by omega⟩, by omega, by omega, hb.trans (hb2.mono hb.size)⟩
      | false =>
        clear ht
        go_wp2_with (go_at_call 31; refine GH.out.mono ?_; rintro e w2 ⟨rfl, hb2⟩)
        go_roundw
        case rel => exact ⟨i + 1, by omega, by go_num, by rw [HNH.out, Ha.out]; rfl, hb.trans (hb2.mono hb.size)⟩
        case measure => simp [intOf] <;> omega
    · obtain rfl : i = ss.length := by omega
      have d1 : decide ((ss.length : Int) < (ss.length : Int)) = false := decide_eq_false (by omega)
      have d2 : decide (ss.length < ss.length) = false := decide_eq_false (by omega)
      obtain rfl : D = false := by rw [← HD.out]; have := Ha.out; rwa [HE.out] at this
      go_wp2_with fail
      go_ret
      exact ⟨-1, rfl, ⟨fun h => absurd h (by omega), fun h => by cases h⟩, by omega, by omega, hb⟩

theorem haslate_any (g gT n : Nat) (bl old : Int) (l : List Int) (A : Option Addr) (ss : List Stp) (c : Nat) (w : World) (hP : Place w g gT n bl old l) (hs : ss.all rightS = true) (hlen : ss.length ≤ 60) (hc : ss.length ≤ c) (hm : c ≤ maxLen) (hr : HoldsS w A ss) (hn : n ≤ 40) (hbl : 128 ≤ bl ∧ bl ≤ 4096) (hl : ∀ i ∈ l, 0 ≤ i ∧ i < (n : Int)) :
    Calls Try.prog 29 #[.slice A ss.length c, .func (.func 31) #[.pointer (some ⟨g, 0, none⟩)] #[]] w (Gives (.bool (ss.any fun s => l.any fun i => meetsB bl i s.a s.b s.x)) w) := by
  have G := idxlate_any g gT n bl old l A ss c w hP hs hlen hc hm hr hn hbl hl
  obtain ⟨D, hD⟩ : ∃ D, (ss.any fun s => l.any fun i => meetsB bl i s.a s.b s.x) = D := ⟨_, rfl⟩
  rw [hD] at G ⊢
  have G := Lib.hid G
  clear hD hP hs hlen hc hm hr
  go_enter Try.func29, Try.ntmps29
  cases D with
  | true =>
    go_wp2_with (go_at_call 37; refine G.out.mono ?_; rintro e w2 ⟨z, rfl, hz, hz1, hz2, hb2⟩; have d1 : decide (0 ≤ z) = true := decide_eq_true (hz.2 rfl))
    go_ret
    exact ⟨rfl, hb2⟩
  | false =>
    go_wp2_with (go_at_call 37; refine G.out.mono ?_; rintro e w2 ⟨z, rfl, hz, hz1, hz2, hb2⟩; have d1 : decide (0 ≤ z) = false := decide_eq_false (fun h => by have := hz.1 h; cases this))
    go_ret
    exact ⟨rfl, hb2⟩
end Go.Proofs.Ytheofegmbajmkaa.Sa
