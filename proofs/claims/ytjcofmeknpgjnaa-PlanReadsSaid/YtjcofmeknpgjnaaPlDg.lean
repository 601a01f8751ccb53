/-
  Layer 16, plan: the document's Get, and whether steps are the same. Conditions: as each theorem names.
-/
import Derived.Test.YtjcofmeknpgjnaaPlD4
import Derived.Test.YtjcofmeknpgjnaaPlZ
import Derived.BigQuiet
import Derived.Deep.QuietTactic
namespace Go.Proofs.Ytjcofmeknpgjnaa.Pl
open Go.ChangeShapes Go.WideShapes Go.ChangeAt Go.RowKit Go.Proofs.Ytjcofmeknpgjnaa.Kit

theorem stepG_err {l : List Int} {why : Int} (h : stepG l = .error why) : why = 2 ∨ why = 13 := by
  cases l with
  | nil => injection h with h; omega
  | cons k r =>
    rw [stepG] at h
    split at h
    · injection h with h; omega
    · cases hn : numG 5 1 0 r with
      | error e =>
        rw [hn] at h
        injection h with h
        subst h
        exact numG_err _ _ _ _ _ hn
      | ok y =>
        obtain ⟨n, r1⟩ := y
        rw [hn] at h
        simp only at h
        have last : ∀ (f : Int) (r2 : List Int), lastG k n f r2 = .error why → why = 2 ∨ why = 13 := by
          intro f r2 h
          unfold lastG at h
          split at h
          · injection h with h; omega
          · split at h
            · cases h
            · split at h
              · injection h with h; omega
              · cases h
        split at h
        · exact last _ _ h
        · cases hf : numG 5 1 0 r1 with
          | error e =>
            rw [hf] at h
            injection h with h
            subst h
            exact numG_err _ _ _ _ _ hf
          | ok y =>
            obtain ⟨f, r2⟩ := y
            rw [hf] at h
            exact last _ _ h

theorem OwnSteps.below {w w' : World} {B : Nat} {v : Value} {ss : List Stp} (h : OwnSteps w B v ss) (hb : Below w.heap.size w w') : OwnSteps w' B v ss :=
  h.out (TurnsIn.ofNew (S := fun _ => False) hb) fun _ _ h => h

set_option maxRecDepth 100000 in
set_option maxHeartbeats 1600000 in
theorem dget_long (A : Option Addr) (xs : List Int) (c : Nat) (most : Int) (w : World) (hmost : most < xs.length) :
    Calls Try.prog 16 #[.slice A xs.length c, .int .i64 most] w (GivesP [] 12 w) := by
  have hd : decide (most < (xs.length : Int)) = true := decide_eq_true hmost
  go_enter Try.func16, Try.ntmps16
  go_wp2_with fail
  go_ret2
  exact ⟨_, 0, [], rfl, rfl, Nat.le_refl _, Nat.zero_le _, (fun h => absurd h (by simp)), (Below.refl _ _).alloc (Nat.le_refl _) _⟩

set_option maxRecDepth 100000 in
set_option maxHeartbeats 3200000 in
theorem dget_in (A : Option Addr) (xs : List Int) (c : Nat) (most : Int) (w : World) (hl : xs.length ≤ 999999) (hc : xs.length ≤ c) (hm : c ≤ maxLen) (ho : Octets xs) (hr : Holds w w.heap.size .u8 A xs) (hmost : ¬ most < xs.length) :
    Calls Try.prog 16 #[.slice A xs.length c, .int .i64 most] w (GivesP (tellG (getG xs.length xs)).1 (tellG (getG xs.length xs)).2 w) := by
  obtain ⟨res, hres⟩ : ∃ res, getG xs.length xs = res := ⟨_, rfl⟩
  rw [hres]
  have hd : decide (most < (xs.length : Int)) = false := decide_eq_false hmost
  have own0 := OwnSteps.empty (B := w.heap.size) w (Nat.le_refl _)
  have hb0 : Below w.heap.size w (w.alloc (.cells #[] 28)) := (Below.refl _ _).alloc (Nat.le_refl _) _
  have HR := Lib.hid hres
  clear hres
  go_enter Try.func16, Try.ntmps16
  go_wp2_with fail
  go_loopw [6, 7] (fun v s wx => ∃ (at_ f : Nat) (ss : List Stp) (A' : Option Addr) (c' : Nat), at_ ≤ xs.length ∧ s = .int .i64 at_ ∧ v = .slice A' ss.length c' ∧ (xs.drop at_).length ≤ f ∧ ss.length ≤ at_ ∧ joinG (ss.map sqS) (getG f (xs.drop at_)) = res ∧ OwnSteps wx w.heap.size (.slice A' ss.length c') ss ∧ (∀ s ∈ ss, FineS s ∧ Holds wx w.heap.size .u8 s.A s.zs) ∧ Below w.heap.size w wx) (fun _ s _ => xs.length - (intOf s).toNat)
  case atStart => exact ⟨0, xs.length, [], _, 0, Nat.zero_le _, rfl, rfl, Nat.le_refl _, Nat.le_refl _, by rw [List.drop_zero, HR.out]; cases res <;> rfl, own0, (fun s hs => by simp at hs), hb0⟩
  case round =>
    obtain ⟨at_, f, ss, A', c', hat, rfl, rfl, hf, hsl, hg, own, hdata, hb⟩ := hrel
    by_cases hlt : at_ < xs.length
    · have hrw := hr.below hb
      have G := dstep_any w.heap.size A xs c at_ wr (by omega) hc hm ho hrw hb.size hlt
      have hdk : xs.drop at_ = xs[at_] :: xs.drop (at_ + 1) := List.drop_eq_getElem_cons hlt
      obtain ⟨f, rfl⟩ : ∃ g, f = g + 1 := ⟨f - 1, by simp at hf; omega⟩
      cases hs : stepG (xs.drop at_) with
      | error why =>
        rw [hs] at G
        have hne : (why != 0) = true := by rcases stepG_err hs with h | h <;> simp [h]
        rw [hdk] at hs hg
        rw [getG_no hs] at hg
        subst hg
        have GH := Lib.hid G
        clear G hs hdk hf hrw hr hdata own own0
        go_wp2_with (go_at_call 25; refine GH.out.mono ?_; rintro e w5 ⟨hb5, a, b, x, rfl⟩)
        go_ret2
        have h5 := (hb.trans (hb5.mono hb.size))
        exact ⟨_, 0, [], rfl, rfl, Nat.le_refl _, Nat.zero_le _, (fun h => absurd h (by simp)), (h5.alloc h5.size _).alloc (by have := h5.size; simp; omega) _⟩
      | ok y =>
        obtain ⟨q, l2⟩ := y
        rw [hs] at G
        have hod : Octets (xs.drop at_) := ho.tail at_
        obtain ⟨hq, hql⟩ := stepG_is hod hs
        obtain ⟨hll, hol2⟩ := stepG_less hod hs
        have hoq : Octets q.zs := fun x hx => hod x (by rw [hql]; unfold putQ; simp [hx])
        obtain ⟨t1, t2⟩ := drop_tail hql
        rw [hdk] at hs hg
        rw [getG_next hs, ← t2] at hg
        rw [List.length_drop] at hll hf
        obtain ⟨m, hmm⟩ : ∃ m, xs.length - l2.length = m := ⟨_, rfl⟩
        rw [hmm] at hg
        have hm1 : at_ < m ∧ m ≤ xs.length := by omega
        have hmf : (xs.drop m).length ≤ f := by rw [List.length_drop]; omega
        have hmn : (xs.length - l2.length : Nat) = m := hmm
        unfold DTold at G
        simp only [hmn] at G
        have GH := Lib.hid G
        have HG := Lib.hid hg
        have HQ := Lib.hid (And.intro hq hoq)
        have HF := Lib.hid hmf
        have hss : ss.length ≤ 1000000 := by omega
        clear G hs hdk hf hrw own0 hq hoq hql hg hll hmf hmm hmn t1 t2 hol2 hod hr
        go_upto_region 9 with (go_at_call 25; refine GH.out.mono ?_; rintro e w5 ⟨hb5, A5, c5, rfl, hl5, hm5, hh5⟩)
        have own6 := (own.below hb5).alloc (.cells #[.int .u8 q.a, .int .i64 q.b, .int .i64 q.x, .slice A5 q.zs.length c5] 28)
        have blk6 := Block.new w5 28 #[.int .u8 q.a, .int .i64 q.b, .int .i64 q.x, .slice A5 q.zs.length c5]
        have hbx := hb.trans (hb5.mono hb.size)
        have hb6 := hbx.alloc hbx.size (.cells #[.int .u8 q.a, .int .i64 q.b, .int .i64 q.x, .slice A5 q.zs.length c5] 28)
        have hw6 : Below wr.heap.size wr (w5.alloc (.cells #[.int .u8 q.a, .int .i64 q.b, .int .i64 q.x, .slice A5 q.zs.length c5] 28)) := hb5.alloc hb5.size _
        generalize w5.alloc (.cells #[.int .u8 q.a, .int .i64 q.b, .int .i64 q.x, .slice A5 q.zs.length c5] 28) = w6 at *
        have q0 := blk6.cellOf 0 (u := .int .u8 q.a) rfl
        have q1 := blk6.cellOf 1 (u := .int .i64 q.b) rfl
        have q2 := blk6.cellOf 2 (u := .int .i64 q.x) rfl
        have q3 := blk6.cellOf 3 (u := .slice A5 q.zs.length c5) rfl
        have hs6 := hb6.size
        clear blk6 hbx hb5
        go_wp2_with (have _t := own6; at_builtin; refine wpList_append_step rfl _ _ rfl ⟨q.a, q.b, q.x, A5, c5, q.zs⟩ own6 rfl rfl hss hs6 ?_; clear _t; intro A9 c9 w9 own9 t9)
        have hb69 := own6.turned t9 hs6
        have hw9 : Below w.heap.size wr w9 := (hw6.mono hb.size).trans hb69
        go_roundw
        case rel =>
          refine ⟨m, f, ss ++ [⟨q.a, q.b, q.x, A5, c5, q.zs⟩], A9, c9, hm1.2, rfl, by simp, HF.out, by simp; omega, by rw [List.map_append]; exact HG.out, by simpa using own9, ?_, hb.trans hw9⟩
          intro s hs
          rcases List.mem_append.1 hs with hs | hs
          · obtain ⟨h1, h2⟩ := hdata s hs
            exact ⟨h1, h2.below hw9⟩
          · obtain rfl : s = ⟨q.a, q.b, q.x, A5, c5, q.zs⟩ := by simpa using hs
            exact ⟨fine_of HQ.out.1 A5 c5 hl5 hm5 HQ.out.2, hh5.below hw9⟩
        case measure => simp [intOf] <;> omega
    · obtain rfl : at_ = xs.length := by omega
      rw [List.drop_length, getG_end] at hg
      subst hg
      obtain ⟨e0, e1, e2, e3⟩ := own.holds fun s hs => ⟨(hdata s hs).1, (hdata s hs).2.more hb.size⟩
      clear hf hr own0
      go_wp2_with fail
      go_ret2
      exact ⟨A', c', ss, rfl, rfl, e1, e2, e3, hb⟩

theorem dget_any (A : Option Addr) (xs : List Int) (c : Nat) (most : Int) (w : World) (hl : xs.length ≤ 999999) (hc : xs.length ≤ c) (hm : c ≤ maxLen) (ho : Octets xs) (hr : Holds w w.heap.size .u8 A xs) :
    Calls Try.prog 16 #[.slice A xs.length c, .int .i64 most] w (GivesP (getA xs most).1 (getA xs most).2 w) := by
  unfold getA
  by_cases h : most < xs.length
  · rw [if_pos h]
    exact dget_long A xs c most w h
  · rw [if_neg h]
    exact dget_in A xs c most w hl hc hm ho hr h

set_option maxRecDepth 100000 in
set_option maxHeartbeats 3200000 in
theorem same_any (A1 : Option Addr) (s1 : List Stp) (c1 : Nat) (A2 : Option Addr) (s2 : List Stp) (c2 : Nat) (w : World) (h : s1.map sqS = s2.map sqS) (hl : s1.length ≤ 1000000) (hc1 : s1.length ≤ c1) (hm1 : c1 ≤ maxLen) (hc2 : s2.length ≤ c2) (hm2 : c2 ≤ maxLen) (hr1 : HoldsS w A1 s1) (hr2 : HoldsS w A2 s2) :
    Calls Try.prog 15 #[.slice A1 s1.length c1, .slice A2 s2.length c2] w (Gives (.bool true) w) := by
  have hll : s2.length = s1.length := by
    have := congrArg List.length h
    simpa using this.symm
  rw [hll]
  rw [hll] at hc2
  have HL := Lib.hid hll
  have HH := Lib.hid h
  clear hll h
  unfold maxLen at hm1 hm2
  go_enter Try.func15, Try.ntmps15
  go_wp2_with fail
  go_loopw [13] (fun s wx => ∃ i : Nat, i ≤ s1.length ∧ s = .int .i64 i ∧ Below w.heap.size w wx) (fun s _ => s1.length - (intOf s).toNat)
  case atStart => exact ⟨0, Nat.zero_le _, rfl, Below.refl _ _⟩
  case round =>
    obtain ⟨i, hi, rfl, hb⟩ := hrel
    by_cases hlt : i < s1.length
    · have hlt2 : i < s2.length := by rw [HL.out]; exact hlt
      have he : sqS s1[i] = sqS s2[i] := by
        have h1 : (s1.map sqS)[i]? = (s2.map sqS)[i]? := by rw [HH.out]
        simpa [List.getElem?_eq_getElem hlt, List.getElem?_eq_getElem hlt2] using h1
      obtain ⟨b, off, rfl, hbl, c0, c1', c2', c3, _, _, _, _, _, _, hrz⟩ := stepAt (steps_below hr1 hb) hlt
      obtain ⟨b', off', rfl, hbl', d0, d1, d2, d3, _, _, _, _, _, _, hrz'⟩ := stepAt (steps_below hr2 hb) hlt2
      generalize s1[i] = s at *
      generalize s2[i] = s' at *
      obtain ⟨a, n, x, Az, cz, us⟩ := s
      obtain ⟨a', n', x', Az', cz', us'⟩ := s'
      injection he with e1 e2 e3 e4
      subst e1 e2 e3 e4
      simp only at c0 c1' c2' c3 d0 d1 d2 d3 hrz hrz'
      have f1 := fun k => conv_any (wr.drewN k) Az us cz _ hrz
      have f2 := fun k => conv_any (wr.drewN k) Az' us cz' _ hrz'
      have k1 : (a != a) = false := by simp
      have k2 : (n != n) = false := by simp
      have k3 : (x != x) = false := by simp
      clear hr1 hr2 hrz hrz'
      go_upto_region 6 with (fail)
      go_quiet (fail)
      go_wp2_with fail
      go_roundw
      case rel => exact ⟨i + 1, by omega, by go_num, below_draws hb _⟩
      case measure => simp [intOf] <;> omega
    · obtain rfl : i = s1.length := by omega
      go_wp2_with fail
      go_ret
      exact ⟨rfl, hb⟩
end Go.Proofs.Ytjcofmeknpgjnaa.Pl
