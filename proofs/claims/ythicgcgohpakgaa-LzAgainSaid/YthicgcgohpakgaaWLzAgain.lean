/-
  LzAgain: the walk: bytes that are all the same have few tokens.
-/
import Derived.Test.YthicgcgohpakgaaLzU
namespace Go.Proofs.Ythicgcgohpakgaa.LzAgain
open Go.ChangeShapes Go.WideShapes Go.ChangeAt Go.RowKit Go.Proofs.Ythicgcgohpakgaa.Kit Go.Proofs.Ythicgcgohpakgaa.Lz

theorem rep_getD {n j : Nat} {x : Int} (h : j < n) : (List.replicate n x).getD j 0 = x := by
  rw [List.getD, List.getElem?_replicate, if_pos h]
  rfl
theorem few_tokens {n : Nat} {x : Int} {tries : Int} {ts : List Tok} {ms : List (Nat × Nat)} {L T : Nat → Int} (h1 : 1 ≤ tries) (h : FindR (List.replicate n x) tries ts ms L T) : (ts.length : Int) ≤ ((n / 258 : Nat) : Int) + 4 := by
  have hl : (List.replicate n x).length = n := by simp
  have hc := h.chosen
  rw [hl] at hc
  rw [h.len]
  refine again_all hc.end_ hc.le1 (fun i hi h3 => ?_)
  have hf := h.found.at_ i (by rw [hl]; omega)
  have hk : ∀ j, j + 2 < n → keyN (List.replicate n x) j = keyE x x x := fun j hj => by
    unfold keyN
    rw [rep_getD (by omega), rep_getD (by omega), rep_getD (by omega)]
  have hlast : lastK (keyN (List.replicate n x)) i (keyN (List.replicate n x) i) = (i : Int) - 1 := by
    rw [hk i (by omega)]
    exact lastK_same (m := i) (fun j hj => hk j (by omega)) hi (Nat.le_refl _)
  have hm : mostN (List.replicate n x) i = min (n - i) 258 := by unfold mostN; rw [hl]
  have hfo := hf.first (by rw [hl]; omega) h1 (by rw [hlast]; omega) (by rw [hlast]; omega) (min (n - i) 258) (by
    rw [hlast, hm]
    refine ⟨Nat.le_refl _, fun k hk2 => ?_, fun hk2 => absurd hk2 (Nat.lt_irrefl _)⟩
    have e1 := rep_getD (n := n) (j := ((i : Int) - 1).toNat + k) (x := x) (by omega)
    have e2 := rep_getD (n := n) (j := i + k) (x := x) (by omega)
    exact e1.trans e2.symm)
  exact hc.le i (min (n - i) 258) (by omega) (by omega) hfo

theorem elemB : IntElem Try.prog 24 5 .u8 1 := ⟨by kernel_rfl, by kernel_rfl, by decide⟩
theorem fill_next {n i : Nat} {x : Int} (h : i < n) : (List.replicate i x ++ List.replicate (n - i) (0 : Int)).set i x = List.replicate (i + 1) x ++ List.replicate (n - (i + 1)) 0 := by
  rw [List.set_append_right _ _ (by simp), List.length_replicate, Nat.sub_self, show n - i = (n - (i + 1)) + 1 by omega, List.replicate_succ, List.set_cons_zero, List.replicate_succ', List.append_assoc]
  rfl

set_option maxRecDepth 100000 in
set_option maxHeartbeats 12800000 in
theorem walk (x n tries : Int) (w : World) (hx : (Lit.int .u8 x).wf = true) (hn : (Lit.int .u16 n).wf = true) (_ : (Lit.int .i64 tries).wf = true) :
    Calls Try.prog 6 #[.int .u8 x, .int .u16 n, .int .i64 tries] w fun e w' => e = .returned (.bool true) ∧ Below w.heap.size w w' := by
  have GA := Lib.hid Lz.awake_any
  have hxb := bounds_u8 hx
  have hnb : 0 ≤ n ∧ n ≤ 65535 := bounds_u16 hn
  clear hx hn
  obtain ⟨N, rfl⟩ : ∃ N : Nat, n = N := ⟨n.toNat, by omega⟩
  by_cases hbig : 3000 < N ∨ tries < 1 ∨ 1000 < tries
  · have hd : decide ((3000 : Int) < (N : Int)) = true ∨ (decide ((3000 : Int) < (N : Int)) = false ∧ (decide (tries < 1) = true ∨ (decide (tries < 1) = false ∧ decide (1000 < tries) = true))) := by
      simp only [decide_eq_true_eq, decide_eq_false_iff_not]
      omega
    clear hbig
    rcases hd with d1 | ⟨d1, d2 | ⟨d2, d3⟩⟩
    all_goals
      go_enter Try.func6, Try.ntmps6
      go_wp2_with (go_at_call 7; refine (GA.out _).mono ?_; rintro e w1 ⟨rfl, hb1⟩)
      go_ret
      exact ⟨rfl, hb1⟩
  · have d1 : decide ((3000 : Int) < (N : Int)) = false := decide_eq_false (by omega)
    have d2 : decide (tries < 1) = false := decide_eq_false (by omega)
    have d3 : decide (1000 < tries) = false := decide_eq_false (by omega)
    have hN : N ≤ 3000 := by omega
    have ht : 1 ≤ tries ∧ tries ≤ 1000 := by omega
    clear hbig hnb
    go_enter Try.func6, Try.ntmps6
    go_wp2_with (at_make; refine wpList_make_ints _ rfl (.tmp 20) (.tmp 20) _ rfl elemB N N rfl rfl rfl rfl (Nat.le_refl _) (by omega) ?_; intro w1 O1 b1 z1)
    obtain ⟨g, hg⟩ : ∃ g, g = w.heap.size := ⟨_, rfl⟩
    rw [← hg] at O1 b1 ⊢
    have HG := Lib.hid hg
    clear hg z1
    go_loopw [8] (fun v wr => ∃ i : Nat, v = .int .i64 i ∧ i ≤ N ∧ Own wr g 5 .u8 (.slice (some ⟨g, 0, none⟩) N N) (List.replicate i x ++ List.replicate (N - i) 0) ∧ Below g w wr) (fun v _ => N - (intOf v).toNat)
    case atStart => exact ⟨0, rfl, Nat.zero_le _, by simpa using O1, b1⟩
    case round =>
      clear O1 b1
      obtain ⟨i, rfl, hi, O, B⟩ := hrel
      obtain ⟨wo, rfl⟩ : ∃ wo : World, wo = wr := ⟨_, rfl⟩
      by_cases hlt : i < N
      · have d0 : decide (i < N) = true := decide_eq_true hlt
        have i1 : (i : Int) < (N : Int) := by omega
        have hlen : N = (List.replicate i x ++ List.replicate (N - i) (0 : Int)).length := by simp; omega
        have q0 := O.cellAt hlen (i := i) (by rw [← hlen]; exact hlt)
        have f0 := O.frozenAt hlen i
        have hst := (O.stored hlen i x).1
        rw [fill_next hlt] at hst
        have HST := Lib.hid hst
        generalize ((List.replicate i x ++ List.replicate (N - i) (0 : Int))[i]?.getD 0) = y at q0
        clear hlen hst O
        go_wp2_with fail
        go_roundw
        case rel => exact ⟨i + 1, by go_num, by omega, HST.out, B.setCell (Nat.le_refl _) _⟩
        case measure => simp [intOf] <;> omega
      · have d0 : decide (i < N) = false := decide_eq_false hlt
        obtain rfl : i = N := by omega
        rw [Nat.sub_self, List.replicate_zero, List.append_nil] at O
        have hlr : (List.replicate i x).length = i := by simp
        obtain ⟨A', c', he, k1, k2, k3⟩ := O.opened
        injection he with he1 he2 he3
        subst he1 he3
        have hoct : Octets (List.replicate i x) := fun z hz => by rw [List.eq_of_mem_replicate hz]; exact hxb
        have G1 := find_any (some ⟨g, 0, none⟩) (List.replicate i x) i tries wo (by rw [hlr]; omega) ht.2 hoct k3
        rw [hlr] at G1
        have G1 := Lib.hid G1
        clear O k1 k2 k3 he2 hlr hoct
        go_wp2_with (first
          | (go_at_call 12; refine G1.out.mono ?_; rintro e w2 ⟨A2, c2, ts, rfl, j1, j2, -, ⟨ms, L, T, hF⟩, hb2⟩; have hfew := few_tokens ht.1 hF; have dd : decide ((ts.length : Int) ≤ (i : Int) / 258 + 4) = true := decide_eq_true (by omega); clear hF hfew)
          | (go_at_call 7; refine (GA.out _).mono ?_; rintro e w3 ⟨rfl, hb3⟩))
        go_ret
        have e := HG.out
        subst e
        have hbx := B.trans (hb2.mono B.size)
        exact ⟨rfl, hbx.trans (hb3.mono hbx.size)⟩
end Go.Proofs.Ythicgcgohpakgaa.LzAgain
