/-
  LzFinds: the walk: what is found of any text is expanded to it; each of it is a token; there are no more than bytes, and no more than with no tries.
-/
import Derived.Test.YthicgcgohpakgaaLzU
namespace Go.Proofs.Ythicgcgohpakgaa.LzFinds
open Go.ChangeShapes Go.WideShapes Go.ChangeAt Go.RowKit Go.Proofs.Ythicgcgohpakgaa.Kit Go.Proofs.Ythicgcgohpakgaa.Lz

theorem fits_ok {b : List Int} (ho : Octets b) : ∀ {ts : List Tok} {i : Nat}, Fits b i ts → ∀ t ∈ ts, TokOk t := by
  intro ts
  induction ts with
  | nil => intro i _ t ht; simp at ht
  | cons u ts ih =>
    intro i h t ht
    rcases List.mem_cons.1 ht with rfl | ht
    · rcases h with ⟨h1, h2, _, h4, _⟩ | ⟨h0, L, D, h1, h2, h3, h4, h5, h6, _⟩
      · have := ho.at_ i
        exact ⟨by rw [h4]; exact this, by omega, by omega⟩
      · exact ⟨by omega, by omega, by omega⟩
    · rcases h with ⟨_, _, _, _, h5⟩ | ⟨_, L, D, _, _, _, _, _, _, _, _, _, h10⟩
      · exact ih h5 t ht
      · exact ih h10 t ht
theorem fits_lits {b : List Int} : ∀ {ts : List Tok} {i : Nat}, Fits b i ts → (∀ t ∈ ts, t.l = 0) → i + ts.length = b.length := by
  intro ts
  induction ts with
  | nil => intro i h _; unfold Fits at h; simpa using h
  | cons u ts ih =>
    intro i h hl
    rcases h with ⟨_, _, _, _, h5⟩ | ⟨_, L, D, h1, _, h3, _⟩
    · have := ih h5 (fun t ht => hl t (List.mem_cons_of_mem _ ht))
      simp
      omega
    · have := hl u (by simp)
      omega

set_option maxRecDepth 100000 in
set_option maxHeartbeats 12800000 in
theorem walk (A : Option Addr) (xs : List Int) (c : Nat) (tries : Int) (w : World) (_ : xs.length ≤ c) (_ : c ≤ maxLen) (ho : Octets xs) (hr : Holds w w.heap.size .u8 A xs) (_ : (Lit.int .i64 tries).wf = true) :
    Calls Try.prog 5 #[.slice A xs.length c, .int .i64 tries] w fun e w' => e = .returned (.bool true) ∧ Below w.heap.size w w' := by
  have GA := Lib.hid Lz.awake_any
  by_cases hbig : 3000 < xs.length ∨ 1000 < tries
  · have hd : decide ((3000 : Int) < (xs.length : Int)) = true ∨ (decide ((3000 : Int) < (xs.length : Int)) = false ∧ decide (1000 < tries) = true) := by
      by_cases h : 3000 < xs.length
      · exact .inl (decide_eq_true (by omega))
      · exact .inr ⟨decide_eq_false (by omega), decide_eq_true (by omega)⟩
    clear hbig hr
    rcases hd with d1 | ⟨d1, d2⟩
    all_goals
      go_enter Try.func5, Try.ntmps5
      go_wp2_with (go_at_call 7; refine (GA.out _).mono ?_; rintro e w1 ⟨rfl, hb1⟩)
      go_ret
      exact ⟨rfl, hb1⟩
  · have d1 : decide ((3000 : Int) < (xs.length : Int)) = false := decide_eq_false (by omega)
    have d2 : decide (1000 < tries) = false := decide_eq_false (by omega)
    have G1 := Lib.hid (find_any A xs c tries w (by omega) (by omega) ho hr)
    have HO := Lib.hid ho
    have HR := Lib.hid (fun W (hb : Below w.heap.size w W) => hr.below hb)
    have hn3 : xs.length ≤ 3000 := by omega
    obtain ⟨n, hnn⟩ : ∃ n, xs.length = n := ⟨_, rfl⟩
    have HN := Lib.hid hnn
    rw [hnn] at d1 G1 hn3 ⊢
    clear hbig hr ho hnn
    go_enter Try.func5, Try.ntmps5
    go_upto_region 4 with (go_at_call 12; refine G1.out.mono ?_; rintro e w1 ⟨A1, c1, ts, rfl, k1, k2, k3, ⟨ms, L, T, hF⟩, hb1⟩)
    have hlen := hF.fits.length
    rw [HN.out, Nat.zero_add] at hlen
    have d3 : decide (n < ts.length) = false := decide_eq_false (by omega)
    have HF := Lib.hid hF
    have hsame : tries < 1 → ts.length = n := fun h => by
      have := fits_lits HF.out.fits (HF.out.lit h)
      rw [HN.out] at this
      omega
    have hd4 : decide (tries < 1) = false ∨ (decide (tries < 1) = true ∧ ((ts.length : Int) != (n : Int)) = false) := by
      by_cases h : tries < 1
      · exact .inr ⟨decide_eq_true h, by rw [hsame h]; simp⟩
      · exact .inl (decide_eq_false h)
    have HMAY : Hid (∀ i, ∀ h : i < ts.length, mayB ts[i].a ts[i].l ts[i].d = true ∧ (tries < 1 → ts[i].l = 0)) := Lib.hid (fun i h => ⟨HF.out.fits.may _ (List.getElem_mem h), fun h1 => HF.out.lit h1 _ (List.getElem_mem h)⟩)
    have hexp : expand n ts [] = (xs, 0) := by
      have := expand_fits xs ts 0 (Nat.zero_le _) HF.out.fits
      rw [HN.out] at this
      simpa using this
    have G2 := Lib.hid (fun W (hb : Below w1.heap.size w1 W) => rexpand_any A1 ts c1 n W (by omega) (fits_ok HO.out HF.out.fits) (fun h => by obtain ⟨b, off, e, hB, hc⟩ := (k3.below hb) h; exact ⟨b, off, e, by have := hb.size; omega, hc⟩))
    rw [hexp] at G2
    clear hF hsame hexp G1
    rcases hd4 with d4 | ⟨d4, d5⟩
    all_goals
      go_wp2_with fail
      go_loopw [6] (fun v wr => ∃ i : Nat, v = .int .i64 i ∧ i ≤ ts.length ∧ Below w1.heap.size w1 wr) (fun v _ => ts.length - (intOf v).toNat)
      case atStart => exact ⟨0, rfl, Nat.zero_le _, Below.refl _ _⟩
      case round =>
        obtain ⟨i, rfl, hi, B⟩ := hrel
        obtain ⟨wo, rfl⟩ : ∃ wo : World, wo = wr := ⟨_, rfl⟩
        by_cases hlt : i < ts.length
        · have d0 : decide (i < ts.length) = true := decide_eq_true hlt
          have i1 : (i : Int) < (ts.length : Int) := by omega
          obtain ⟨b, off, rfl, hB, hc⟩ := (k3.below B) (by omega)
          have hci := hc i ts[i] (List.getElem?_eq_getElem hlt)
          obtain ⟨hm1, hm2⟩ := HMAY.out i hlt
          obtain ⟨⟨a, l, d⟩, hx⟩ : ∃ t, ts[i] = t := ⟨_, rfl⟩
          rw [hx] at hci hm1 hm2
          obtain ⟨e0, e1, e2⟩ := hci
          simp only at e0 e1 e2 hm1 hm2
          have G3 := Lib.hid (fun W => hm1 ▸ rmay_any a l d W)
          have hl0 : (l != 0) = false ∨ decide (tries < 1) = false := by
            by_cases h : tries < 1
            · exact .inl (by rw [hm2 h]; rfl)
            · exact .inr (decide_eq_false h)
          have HL0 := Lib.hid hl0
          have hbq : Hid (∀ W, Below wo.heap.size wo W → W.cell? ⟨b, off + i * 3 + 1, none⟩ = some (.int .i64 l)) := Lib.hid (fun W hb => (hb.cell (p := ⟨b, off + i * 3 + 1, none⟩) (by have := B.size; show b < _; omega)).trans e1)
          clear hx hm1 hm2 hc hl0
          first
            | (have hl1 : (l != 0) = false := by
                rcases HL0.out with h | h
                · exact h
                · rw [d4] at h; cases h
               go_wp2_with (go_at_call 11; refine (G3.out _).mono ?_; rintro e w2 ⟨rfl, hb2⟩; have e1' := hbq.out _ hb2)
               go_roundw
               case rel => exact ⟨i + 1, by go_num, by omega, B.trans (hb2.mono B.size)⟩
               case measure => simp [intOf] <;> omega)
            | (go_wp2_with (go_at_call 11; refine (G3.out _).mono ?_; rintro e w2 ⟨rfl, hb2⟩)
               go_roundw
               case rel => exact ⟨i + 1, by go_num, by omega, B.trans (hb2.mono B.size)⟩
               case measure => simp [intOf] <;> omega)
        · have d0 : decide (i < ts.length) = false := decide_eq_false hlt
          go_wp2_with (first
            | (go_at_call 9; refine (G2.out _ B).mono ?_; rintro e w2 ⟨A2, c2, rfl, hl2, hm2, hr2, hb2⟩; have hbx := hb1.trans ((B.trans (hb2.mono B.size)).mono hb1.size); have v1 := conv_any w2 A2 xs c2 _ hr2; have v2 := conv_any w2 A xs c _ (HR.out _ hbx); simp only at v1 hl2 ⊢; rw [HN.out] at v1 v2 hl2 ⊢)
            | (go_at_call 7; refine (GA.out _).mono ?_; rintro e w3 ⟨rfl, hb3⟩))
          go_ret
          exact ⟨rfl, hbx.trans (hb3.mono hbx.size)⟩
end Go.Proofs.Ythicgcgohpakgaa.LzFinds
