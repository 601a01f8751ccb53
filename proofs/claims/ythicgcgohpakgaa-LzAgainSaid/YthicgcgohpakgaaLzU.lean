/-
  Layer 11, lz.Find: a contract. Conditions: as each theorem names.
-/
import Derived.Test.YthicgcgohpakgaaLzT
namespace Go.Proofs.Ythicgcgohpakgaa.Lz
open Go.ChangeShapes Go.WideShapes Go.ChangeAt Go.RowKit Go.Proofs.Ythicgcgohpakgaa.Kit

theorem step_append_tok_drew {w : World} {B : Nat} {v : Value} {ts : List Tok} {ops : Array Oper} {o : Oper} {a : Act} {K : Act → World → Prop} {Q : Exit → Act → World → Prop} {E : Prop} (hg : o.guard = none) (s x : Operand)
    (ho : o.op = Op.call { callee := Callee.builtin Builtin.append, args := #[s, x], argTypes := #[22, 22] })
    (q : Tok) (hown : OwnT w B v ts) (hs : a.eval s = v) {c : Nat} (hx : a.eval x = .slice (some ⟨w.heap.size, 0, none⟩) 1 c) (hsz : ts.length ≤ 1000000) (hbase : B ≤ w.heap.size)
    (hK : ∀ A' c' w', OwnT w' B (.slice A' (ts.length + 1) c') (ts ++ [q]) → TurnsIn (fun b => v.ownBlock = some b) w w' → K (a.put o.dst (.slice A' (ts.length + 1) c')) w') :
    if Region.wanted o (yielded ops a.tmps) = true then Oper.wp Try.prog o a (w.alloc (.cells #[.int .u8 q.a, .int .i64 q.l, .int .i64 q.d] 32)).drew K Q else E := by
  have h := step_append_tok (E := E) (K := K) (Q := Q) (ops := ops) (w := w.drew) hg s x ho q (by exact hown) hs hx hsz hbase
    (fun A' c' w' h1 h2 => hK A' c' w' h1 ⟨h2.os, h2.tape, h2.output, h2.size, h2.block⟩)
  exact h

theorem own_is_block {w : World} {B g : Nat} {e : TypeId} {k : IntKind} {v : Value} {xs : List Int} (h : Own w B e k v xs) (hv : v.ownBlock = some g) : ∃ cs, Block w g e cs := by
  rcases h.2 with ⟨rfl, _⟩ | ⟨g', cap, cur, rfl, _, hh, _⟩
  · simp [Value.ownBlock] at hv
  · obtain rfl : g' = g := by simpa [Value.ownBlock] using hv
    exact ⟨cur, hh⟩
structure FindR (xs : List Int) (tries : Int) (ts : List Tok) (ms : List (Nat × Nat)) (L T : Nat → Int) : Prop where
  found : Found xs (keyN xs) tries ms
  chosen : Chosen xs.length (fun i => (ms.getD i (0, 0)).1) L T
  fits : Fits xs 0 ts
  len : (ts.length : Int) = T 0
  lit : tries < 1 → ∀ t ∈ ts, t.l = 0
def Finds (xs : List Int) (tries : Int) (w : World) (e : Ending) (w' : World) : Prop :=
  ∃ (A : Option Addr) (cap : Nat) (ts : List Tok), e = .returned (.slice A ts.length cap) ∧ ts.length ≤ cap ∧ cap ≤ maxLen ∧ HoldsT w' w'.heap.size A ts ∧ (∃ ms L T, FindR xs tries ts ms L T) ∧ Below w.heap.size w w'

set_option maxRecDepth 100000 in
set_option maxHeartbeats 25600000 in
theorem find_any (A : Option Addr) (xs : List Int) (c : Nat) (tries : Int) (w : World) (hn : xs.length ≤ 3000) (ht : tries ≤ 1000) (ho : Octets xs) (hr : Holds w w.heap.size .u8 A xs) :
    Calls Try.prog 12 #[.slice A xs.length c, .int .i64 tries] w (Finds xs tries w) := by
  have GM := Lib.hid (matches_any A xs c tries w hn ht ho hr)
  have GC := Lib.hid (fun (g : Nat) (ms : List (Nat × Nat)) (W : World) (hl : ms.length = xs.length) (hs : ∀ i, i < ms.length → i + (ms.getD i (0, 0)).1 ≤ ms.length) (hM : MatAt W g ms) => choose_any g ms W (by omega) hs hM)
  have HO := Lib.hid ho
  obtain ⟨n, hnn⟩ : ∃ n, xs.length = n := ⟨_, rfl⟩
  have HN := Lib.hid hnn
  unfold Matches at GM
  unfold Choice at GC
  rw [hnn] at GM hn ⊢
  clear hnn ho
  have T0 := OwnT.nil w w.heap.size
  go_enter Try.func12, Try.ntmps12
  go_wp2_with (first
    | (go_at_call 13; refine GM.out.mono ?_; rintro e w1 ⟨g, ms, rfl, M1, HF, hb1⟩
       have hml : ms.length = n := by rw [HF.len, HN.out]
       have hms : ∀ i, i < ms.length → i + (ms.getD i (0, 0)).1 ≤ ms.length := fun i hi => by
         have h := (HF.at_ i (by rw [HN.out, ← hml]; exact hi)).ok
         rcases h with h | ⟨_, _, _, _, h5, _⟩
         · rw [h]; omega
         · rw [HN.out] at h5; omega
       have GC1 := GC.out g ms w1 (by rw [hml, HN.out]) hms M1
       rw [hml] at GC1
       have GC1 := Lib.hid GC1
       have HFF := Lib.hid HF
       have HML := Lib.hid hml
       clear HF hml hms)
    | (have _t := GC1; go_at_call 14; refine GC1.out.mono ?_; clear _t; rintro e w2 ⟨g2, L, T, rfl, hL, OL, HC, hb2⟩
       have hLL := Lib.hid hL
       have HCC := Lib.hid HC
       have M2 : MatAt w2 g ms := Block.below M1 hb2 (Block.lt M1)
       have B2 := hb1.trans (hb2.mono hb1.size)
       have OL2 := OL.mono hb1.size
       have TT : OwnT w2 w.heap.size (.slice none 0 0) [] := OwnT.nil _ _
       clear hL HC M1 OL GC1))
  go_loopw [7, 8] (fun v x wr => ∃ (i : Nat) (ts : List Tok), x = .int .i64 i ∧ i ≤ n ∧ OwnT wr w.heap.size v ts ∧ ts.length ≤ i ∧ (∀ ts', Fits xs i ts' → Fits xs 0 (ts ++ ts')) ∧ (ts.length : Int) + T i = T 0 ∧ (tries < 1 → ∀ t ∈ ts, t.l = 0) ∧ MatAt wr g ms ∧ Own wr w.heap.size 3 .i64 (.slice (some ⟨g2, 0, none⟩) n n) L ∧ Below w.heap.size w wr) (fun _ x _ => n - (intOf x).toNat)
  case atStart => exact ⟨0, [], rfl, Nat.zero_le _, TT, Nat.zero_le _, fun ts' h => h, by simp, fun _ t ht => absurd ht (by simp), M2, OL2, B2⟩
  case round =>
    clear T0 TT M2 OL2 B2
    obtain ⟨i, ts, rfl, hin, OT, htl, hfit, hcnt, hlit, M, O, B⟩ := hrel
    obtain ⟨wo, rfl⟩ : ∃ wo : World, wo = wr := ⟨_, rfl⟩
    have HFIT := Lib.hid hfit
    have HCNT := Lib.hid hcnt
    have HLIT := Lib.hid hlit
    clear hfit hcnt hlit
    have hzw := Lib.hid B.size
    by_cases hi : i < n
    · have d0 : decide (i < n) = true := decide_eq_true hi
      have i1 : (i : Int) < (n : Int) := by omega
      have q0 := O.cellAt hLL.out.symm (i := i) (by rw [hLL.out]; exact hi)
      rw [getD_of] at q0
      obtain ⟨b, off, rfl, -, hc⟩ := (hr.below B) (by rw [HN.out]; omega)
      have e0 := hc i (by rw [HN.out]; exact hi)
      have hone := HCC.out.one i hi
      have hTe := Lib.hid (HCC.out.eq i hi)
      obtain ⟨x, hx⟩ : ∃ x, xs.getD i 0 = x := ⟨_, rfl⟩
      rw [hx] at e0
      have HX := Lib.hid hx
      clear hx hc hr
      by_cases h1 : L.getD i 0 = 1
      · rw [h1] at q0
        have HT1 : Hid (T i = 1 + T (i + 1)) := Lib.hid (by have := hTe.out; simp only [h1] at this; exact this)
        have HL1 := Lib.hid h1
        clear hone h1 hTe
        go_wp2_with (at_builtin; refine wpList_append_tok rfl (.tmp 23) (.tmp 29) rfl ⟨x, 0, 0⟩ OT rfl rfl (by omega) hzw.out ?_; intro A3 c3 w3 OT3 tu3; have O3 := O.out tu3 (fun b hb he => by obtain ⟨cs, hcs⟩ : ∃ cs, Block wo b 3 cs := own_is_block O hb; exact OT.ne_block hcs (by decide) he); have M3 : MatAt w3 g ms := Block.out M tu3 (OT.ne_block M (by decide)); have q3 := O3.cellAt hLL.out.symm (i := i) (by rw [hLL.out]; exact hi); rw [getD_of, HL1.out] at q3; have B3 := B.trans (tu3.toBelow B.size (fun b hb he => by have := OT.lt _ he; omega)))
        go_roundw
        case rel =>
          refine ⟨i + 1, ts ++ [⟨x, 0, 0⟩], by go_num, by omega, by simpa using OT3, by simp; omega, fun ts' h => ?_, ?_, fun h t ht => ?_, M3, O3, B3⟩
          · rw [List.append_assoc]
            exact HFIT.out _ (.inl ⟨rfl, rfl, by rw [HN.out]; exact hi, by rw [← HX.out]; rfl, h⟩)
          · have := HCNT.out
            have h2 := HT1.out
            rw [List.length_append, List.length_singleton]
            push_cast
            omega
          · rcases List.mem_append.1 ht with ht | ht
            · exact HLIT.out h t ht
            · obtain rfl : t = ⟨x, 0, 0⟩ := by simpa using ht
              rfl
        case measure => simp [intOf] <;> omega
      · have hl3 : 3 ≤ L.getD i 0 ∧ L.getD i 0 ≤ ((ms.getD i (0, 0)).1 : Int) := by
          rcases hone with h | h
          · exact absurd h h1
          · exact h
        obtain ⟨l, hl⟩ : ∃ l : Nat, L.getD i 0 = l := ⟨(L.getD i 0).toNat, by omega⟩
        have hF := HFF.out.at_ i (by rw [HN.out]; exact hi)
        rw [hl] at hl3 q0
        have HT1 : Hid (T i = 1 + T (i + l)) := Lib.hid (by have := hTe.out; simp only [hl, Int.toNat_natCast] at this; exact this)
        have hml := HML.out
        obtain ⟨c1, c2⟩ := MatAt.cells M (i := i) (by rw [hml]; exact hi)
        obtain ⟨⟨s, d⟩, hsd⟩ : ∃ m, ms.getD i (0, 0) = m := ⟨_, rfl⟩
        rw [hsd] at hl3 hF c1 c2
        simp only at hl3 c1 c2
        have hok := hF.ok
        unfold MatchOk at hok
        simp only at hok
        have hok := hok.resolve_left (by omega)
        have hnl : tries < 1 → False := fun h => by
          have := hF.no h
          simp only at this
          omega
        have HNL := Lib.hid hnl
        obtain ⟨k1, k2, k3, k4, k5, k6⟩ := hok
        have HK6 := Lib.hid k6
        have HL1 := Lib.hid hl
        have hil : i + l ≤ n := by rw [HN.out] at k5; omega
        have e1 : ((l : Int) == 1) = false := by simp; omega
        clear hone h1 hTe hl hF hsd k6 hnl c1 hml
        go_wp2_with fail
        go_region_law ((refine step_append_tok_drew (by rfl) _ _ (by rfl) ⟨0, l, d⟩ (by exact OT) (by rfl) (by rfl) (by omega) hzw.out ?_; intro A3 c3 w3 OT3 tu3; have O3 := O.out tu3 (fun b hb he => by obtain ⟨cs, hcs⟩ : ∃ cs, Block wo b 3 cs := own_is_block O hb; exact OT.ne_block hcs (by decide) he); have M3 : MatAt w3 g ms := Block.out M tu3 (OT.ne_block M (by decide)); have q3 := O3.cellAt hLL.out.symm (i := i) (by rw [hLL.out]; exact hi); rw [getD_of, HL1.out] at q3; have B3 := B.trans (tu3.toBelow B.size (fun b hb he => by have := OT.lt _ he; omega))))
        all_goals
          go_wp2_with fail
          go_roundw
          case rel =>
            refine ⟨i + l, ts ++ [⟨0, l, d⟩], by go_num, by omega, by simpa using OT3, by simp; omega, fun ts' h => ?_, ?_, fun h => (HNL.out h).elim, M3, O3, B3⟩
            · rw [List.append_assoc]
              refine HFIT.out _ (.inr ⟨rfl, l, d, rfl, rfl, by omega, by omega, by omega, by omega, by omega, by rw [HN.out]; exact hil, fun k hk => HK6.out k (by omega), h⟩)
            · have := HCNT.out
              have h2 := HT1.out
              rw [List.length_append, List.length_singleton]
              push_cast
              omega
          case measure => simp [intOf] <;> omega
    · have d0 : decide (i < n) = false := decide_eq_false hi
      obtain rfl : i = n := by omega
      obtain ⟨A4, c4, rfl, j1, j2, j3⟩ := OT.opened
      have HJ := Lib.hid j3
      have HFR : Hid (∃ ms L T, FindR xs tries ts ms L T) := Lib.hid ⟨ms, (fun i => L.getD i 0), T, HFF.out, by rw [HN.out]; exact HCC.out, by
        have := HFIT.out [] (by show _ = _; exact HN.out.symm)
        rwa [List.append_nil] at this, by
        have h1 := HCNT.out
        have h2 := HCC.out.end_
        omega, HLIT.out⟩
      clear OT M O hr
      go_wp2_with fail
      go_ret
      exact ⟨A4, c4, ts, rfl, j1, j2, HJ.out, HFR.out, B⟩
end Go.Proofs.Ythicgcgohpakgaa.Lz
