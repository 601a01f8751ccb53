/-
  PlanReads: the walk: the plan of any bytes, or the error, is the document's; it is put as it stood.
-/
import Derived.Test.YtjcofmeknpgjnaaPlP2
import Derived.Test.YtjcofmeknpgjnaaPlQ
import Derived.Test.YtjcofmeknpgjnaaPlDg
namespace Go.Proofs.Ytjcofmeknpgjnaa.PlanReads
open Go.ChangeShapes Go.WideShapes Go.ChangeAt Go.RowKit Go.Proofs.Ytjcofmeknpgjnaa.Kit Go.Proofs.Ytjcofmeknpgjnaa.Pl

/-- With fuel enough, the error is one of the document's. -/
theorem getG_never : ∀ (f : Nat) (l : List Int), l.length ≤ f → Octets l → getG f l ≠ .error 0
  | f, [], _, _ => by cases f <;> simp [getG]
  | 0, _ :: _, h, _ => by simp at h
  | f + 1, k :: l, h, ho => by
    rw [getG]
    cases hs : Pl.stepG (k :: l) with
    | error e =>
      simp only
      intro he
      injection he with he
      have := stepG_err hs
      omega
    | ok y =>
      obtain ⟨q, r⟩ := y
      simp only
      have hr := stepG_less ho hs
      have ih := getG_never f r (by simp at h; have := hr.1; simp at this; omega) hr.2
      cases hg : getG f r with
      | error e =>
        intro he
        simp only [joinG] at he
        injection he with he
        exact ih (by rw [hg, he])
      | ok qs => intro he; cases he

theorem getA_is {xs : List Int} {most : Int} {qs : List Sq} (ho : Octets xs) (h : getA xs most = (qs, 0)) : xs = putsQ qs ∧ qs.all rightQ = true := by
  unfold getA at h
  by_cases hm : most < xs.length
  · rw [if_pos hm] at h
    simp at h
  · rw [if_neg hm] at h
    cases hg : getG xs.length xs with
    | error e =>
      rw [hg] at h
      simp only [tellG, Prod.mk.injEq] at h
      exfalso
      exact getG_never xs.length xs (Nat.le_refl _) ho (by rw [hg, h.2])
    | ok ps =>
      rw [hg] at h
      simp only [tellG, Prod.mk.injEq] at h
      obtain ⟨rfl, _⟩ := h
      exact getG_is _ _ _ ho hg

set_option maxRecDepth 100000 in
set_option maxHeartbeats 6400000 in
theorem walk (A : Option Addr) (xs : List Int) (c : Nat) (most : Int) (w : World) (hc : xs.length ≤ c) (hm : c ≤ maxLen) (ho : Octets xs) (hr : Holds w w.heap.size .u8 A xs) (_ : (Lit.int .i64 most).wf = true) :
    Calls Try.prog 4 #[.slice A xs.length c, .int .i64 most] w fun e w' => e = .returned (.bool true) ∧ Below w.heap.size w w' := by
  by_cases hl : (5000 : Int) < xs.length
  · have hd : decide ((5000 : Int) < (xs.length : Int)) = true := decide_eq_true hl
    go_enter Try.func4, Try.ntmps4
    go_wp2_with (go_at_call 8; refine (awake_any _).mono ?_; rintro e w2 ⟨rfl, hb2⟩)
    go_ret
    exact ⟨rfl, hb2⟩
  · have hd : decide ((5000 : Int) < (xs.length : Int)) = false := decide_eq_false hl
    have GG := get_any A xs c most w (by omega) hc hm ho hr
    have GD := fun W (h : Holds W W.heap.size .u8 A xs) => dget_any A xs c most W (by omega) hc hm ho h
    obtain ⟨qs, why, hq⟩ : ∃ qs why, getA xs most = (qs, why) := ⟨_, _, rfl⟩
    rw [hq] at GG
    simp only [hq] at GD
    by_cases hw : why = 0
    · subst hw
      obtain ⟨hx, hrq⟩ := getA_is ho hq
      have h3 := putsQ_three qs hrq
      rw [← hx] at h3
      have GG := Lib.hid GG
      have GD := Lib.hid GD
      have HX := Lib.hid hx
      have HQ := Lib.hid hrq
      have hql : qs.length ≤ 1900 := by omega
      clear hx hrq hq h3
      go_enter Try.func4, Try.ntmps4
      go_wp2_with (first
        | (go_at_call 14; refine GG.out.mono ?_; rintro e w1 ⟨A1, c1, s1, rfl, hs1, hl1, hm1, hr1, hb1⟩; have hh1 := (hr.below hb1).more hb1.size; have HS1 := Lib.hid hs1; clear hs1)
        | (go_at_call 16; refine (GD.out _ hh1).mono ?_; rintro e w2 ⟨A2, c2, s2, rfl, hs2, hl2, hm2, hr2, hb2⟩; have hr1' := holdsS_later hr1 hb2; have HS2 := Lib.hid hs2; clear hs2; have hh2 := (hh1.below hb2).more hb2.size)
        | (go_at_call 15; refine (same_any A1 s1 c1 A2 s2 c2 _ (HS1.out.trans HS2.out.symm) (by have := congrArg List.length HS1.out; simp at this; omega) hl1 hm1 hl2 hm2 hr1' hr2).mono ?_; rintro e w3 ⟨rfl, hb3⟩; have hr3 := holdsS_later hr1' hb3; have hh3 := (hh2.below hb3).more hb3.size)
        | (go_at_call 11; refine (put_more A1 s1 c1 _ (by have := congrArg List.length HS1.out; simp at this; omega) hl1 hm1 hr3 (by rw [right_sq, HS1.out]; exact HQ.out)).mono ?_; rintro e w4 ⟨A4, c4, rfl, own4, hb4⟩; have hps : putB s1 = xs := (by rw [putB_sq, HS1.out]; exact HX.out.symm); rw [hps] at own4 ⊢; obtain ⟨A9, c9, he9, hl9, hm9, hh4⟩ := own4.opened; injection he9 with e1 e2 e3; subst e1 e3; clear e2 hps; have f1 := conv_any w4 A4 xs c4 _ hh4; have f2 := conv_any w4 A xs c _ (hh3.below hb4))
        | (go_at_call 8; refine (awake_any _).mono ?_; rintro e w5 ⟨rfl, hb5⟩))
      go_ret
      have h2 := hb1.trans (hb2.mono hb1.size)
      have h3 := h2.trans (hb3.mono h2.size)
      have h4 := h3.trans (hb4.mono h3.size)
      exact ⟨rfl, h4.trans (hb5.mono h4.size)⟩
    · have hne : (why != 0) = true := by simp [hw]
      have hnw : (why != why) = false := by simp
      have hq0 : qs = [] := by
        unfold getA at hq
        split at hq
        · exact (congrArg Prod.fst hq).symm
        · cases hg : getG xs.length xs with
          | error e =>
            rw [hg] at hq
            exact (congrArg Prod.fst hq).symm
          | ok ps =>
            rw [hg] at hq
            exact absurd (congrArg Prod.snd hq).symm hw
      have GG := Lib.hid GG
      have GD := Lib.hid GD
      have HQ := Lib.hid hq0
      clear hq hw hq0
      go_enter Try.func4, Try.ntmps4
      go_wp2_with (first
        | (go_at_call 14; refine GG.out.mono ?_; rintro e w1 ⟨A1, c1, s1, rfl, hs1, hl1, hm1, hr1, hb1⟩; have hh1 := (hr.below hb1).more hb1.size; have HS1 := Lib.hid hs1; clear hs1)
        | (go_at_call 16; refine (GD.out _ hh1).mono ?_; rintro e w2 ⟨A2, c2, s2, rfl, hs2, hl2, hm2, hr2, hb2⟩; have hr1' := holdsS_later hr1 hb2; have HS2 := Lib.hid hs2; clear hs2)
        | (go_at_call 15; refine (same_any A1 s1 c1 A2 s2 c2 _ (HS1.out.trans HS2.out.symm) (by have := congrArg List.length HS1.out; rw [HQ.out] at this; simp at this; simp [this]) hl1 hm1 hl2 hm2 hr1' hr2).mono ?_; rintro e w3 ⟨rfl, hb3⟩)
        | (go_at_call 8; refine (awake_any _).mono ?_; rintro e w5 ⟨rfl, hb5⟩))
      go_ret
      have h2 := hb1.trans (hb2.mono hb1.size)
      have h3 := h2.trans (hb3.mono h2.size)
      exact ⟨rfl, h3.trans (hb5.mono h3.size)⟩
end Go.Proofs.Ytjcofmeknpgjnaa.PlanReads
