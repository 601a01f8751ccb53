/-
  Layer 7, the document's Read: contract. Conditions: as each theorem names.
-/
import Derived.Test.YtchbgmpkdkecgaaPaL
namespace Go.Proofs.Ytchbgmpkdkecgaa.Pt
open Go.ChangeShapes Go.WideShapes Go.ChangeAt Go.RowKit Go.Proofs.Ytchbgmpkdkecgaa.Kit Go.Proofs.Ytchbgmpkdkecgaa.Sec

/-- Before a sector is read. -/
structure RGoing (w wr : World) (g : Nat) (F C : Int) (s : Dv) (cs : Array Value) : Prop where
  x : Block wr g 49 cs
  r : Block wr (g + 1) 25 #[.int .i64 F, .int .i64 C]
  v : RDv wr (.agg cs) s
  b : Below w.heap.size w wr
theorem RGoing.below {w wr w' : World} {g : Nat} {F C : Int} {s : Dv} {cs : Array Value} (h : RGoing w wr g F C s cs) (hb : Below wr.heap.size wr w') : RGoing w w' g F C s cs :=
  ⟨h.x.below hb h.x.lt, h.r.below hb h.r.lt, h.v.below hb, h.b.trans (hb.mono h.b.size)⟩
theorem str_zero (s : Dv) (F : Int) (b : Nat) : strOfNums (rowP s F b 0) = ⟨#[]⟩ := rfl

set_option maxRecDepth 100000 in
set_option maxHeartbeats 6400000 in
theorem rpread_yes (v : Value) (s : Dv) (F C : Int) (T b N : Nat) (w : World) (h : RDv w v s) (hok : s.Ok) (hwh : Whole s) (hl : Lies s F C T) (hin : b ≤ T ∧ N ≤ T - b) :
    Calls Try.prog 24 #[v, .agg #[.int .i64 F, .int .i64 C], .int .i64 (b : Int), .int .i64 (N : Int)] w fun e w' => ∃ r, ReadsP s F b N r ∧ GivesS r.1 r.2 w e w' := by
  have hT := hl.most hok
  have hs1 := hok.s1
  have hs2 := hok.s2
  have hc1 := hl.c1
  have hf0 := hl.f0
  have hfc := hl.fc
  have hct := hok.c2
  have hCS := hl.t
  have GR := Lib.hid (fun W v i hv => rread_any v s i W hv hok)
  have HWH := Lib.hid hwh
  obtain ⟨Ak, ck, Aw, cw, rfl, hr0⟩ := h
  have G0 : Hid (RGoing w ((w.alloc (.cells (dCells Ak ck Aw cw s) 49)).alloc (.cells #[.int .i64 F, .int .i64 C] 25)) w.heap.size F C s (dCells Ak ck Aw cw s)) := Lib.hid
    ⟨(Block.new w _ _).alloc _, block_two w _ _ _, RDv.below ⟨Ak, ck, Aw, cw, rfl, hr0⟩ (below_two w _ _), below_two w _ _⟩
  have HZ0 : Hid (∀ W g, Block W g 49 (dCells Ak ck Aw cw s) → W.cell? ⟨g, 0, none⟩ = some (.int .i64 (s.size : Int))) := Lib.hid (fun W g hW => hW.cell 0)
  obtain ⟨z, hz⟩ : ∃ z, s.size = z := ⟨_, rfl⟩
  have HZ := Lib.hid hz
  have d1 : decide ((b : Int) < 0) = false := decide_eq_false (by omega)
  have d4 : decide ((N : Int) < 0) = false := decide_eq_false (by omega)
  have d2 : decide (T < b) = false := decide_eq_false (by omega)
  have d3 : decide ((T : Int) - (b : Int) < (N : Int)) = false := decide_eq_false (by omega)
  unfold dCells at G0 HZ0 ⊢
  rw [hz] at hs1 hs2 hCS HZ0 G0 ⊢
  have hzz : ¬ z = 0 := by omega
  clear hr0 hl hok hwh hz
  go_enter Try.func24, Try.ntmps24
  go_wp2_with fail
  generalize hW3 : (w.alloc _).alloc _ = w3 at *
  generalize hg : w.heap.size = g at G0 ⊢
  have HG := Lib.hid hg
  clear hW3 hg d1 d2 d3 d4
  go_loopw [11, 12] (fun t q wr => ∃ (i k : Nat), (i : Int) ≤ C ∧ k = min N (i * z - b) ∧ q = .int .i64 i ∧ t = .string (strOfNums (rowP s F b k)) ∧ OkP s F b k ∧ RGoing w wr g F C s (dCells Ak ck Aw cw s)) (fun _ q _ => C.toNat - (intOf q).toNat)
  case atStart => exact ⟨0, 0, by omega, by omega, rfl, rfl, fun j hj => absurd hj (by omega), by have := G0.out; unfold dCells; rw [HZ.out]; exact this⟩
  case round =>
    clear G0
    obtain ⟨i, k, hi, hk, rfl, rfl, hok, G⟩ := hrel
    have x0 : wr.cell? ⟨g, 0, none⟩ = some (.int .i64 (z : Int)) := HZ0.out wr g (by have := G.x; unfold dCells at this; rw [HZ.out] at this; exact this)
    have r0 : wr.cell? ⟨g + 1, 0, none⟩ = some (.int .i64 F) := G.r.cell 0
    have r1 : wr.cell? ⟨g + 1, 1, none⟩ = some (.int .i64 C) := G.r.cell 1
    obtain ⟨K, hK⟩ : ∃ K : Nat, i * z = K := ⟨_, rfl⟩
    have hKz : (i : Int) * (z : Int) = (K : Int) := by rw [← hK, Int.natCast_mul]
    have hKz1 : ((i : Int) + 1) * (z : Int) = (K : Int) + (z : Int) := by rw [Int.add_mul, hKz, Int.one_mul]
    have hKT : K ≤ T := by
      have h1 : (i : Int) * (z : Int) ≤ C * (z : Int) := Int.mul_le_mul_of_nonneg_right hi (by omega)
      omega
    rw [hK] at hk
    have XG := Lib.hid G
    have HK := Lib.hid hk
    have HOK := Lib.hid hok
    have HKK := Lib.hid hK
    have hkN : k ≤ N := by omega
    have hi6 : i ≤ 1048576 := by omega
    by_cases hlt : (i : Int) < C
    · have d0 : decide ((i : Int) < C) = true := decide_eq_true hlt
      have hKT1 : K + z ≤ T := by
        have h1 : ((i : Int) + 1) * (z : Int) ≤ C * (z : Int) := Int.mul_le_mul_of_nonneg_right (by omega) (by omega)
        omega
      obtain ⟨lo, hlo⟩ : ∃ lo : Nat, max b K = lo := ⟨_, rfl⟩
      have hlo1 : max (b : Int) (K : Int) = (lo : Int) := by omega
      obtain ⟨hi', hhi⟩ : ∃ hi' : Nat, min (b + N) (K + z) = hi' := ⟨_, rfl⟩
      have hhi1 : min ((b : Int) + (N : Int)) ((K : Int) + (z : Int)) = (hi' : Int) := by omega
      have hKS : (i + 1) * z = K + z := by rw [Nat.add_mul, HKK.out, Nat.one_mul]
      have hb1 : lo ≤ T := by omega
      have hb2 : hi' ≤ T := by omega
      by_cases hc : hi' ≤ lo
      · have d1 : decide (hi' ≤ lo) = true := decide_eq_true hc
        have hk1 : k = min N ((i + 1) * z - b) := by rw [hKS]; omega
        have HK1 := Lib.hid hk1
        clear hk1 hK hk hok hKS hlo hhi G
        go_wp2_with fail
        go_roundw
        case rel => exact ⟨i + 1, k, by omega, HK1.out, by go_num, rfl, HOK.out, XG.out⟩
        case measure => simp [intOf]; omega
      · have d1 : decide (hi' ≤ lo) = false := decide_eq_false hc
        obtain ⟨xs, E, hsec⟩ : ∃ xs E, secP s F (b + k) = (xs, E) := ⟨_, _, rfl⟩
        have hbk : b + k = lo := by omega
        have hdv : (b + k) / z = i := by
          rw [hbk]
          exact Nat.div_eq_of_lt_le (by rw [HKK.out]; omega) (by rw [hKS]; omega)
        have hmd : (b + k) % z = lo - K := by
          have := Nat.div_add_mod (b + k) z
          rw [hdv, Nat.mul_comm, HKK.out] at this
          omega
        have GRD : Hid (∀ W, RDv W (.agg (dCells Ak ck Aw cw s)) s → Calls Try.prog 40 #[.agg (dCells Ak ck Aw cw s), .int .i64 (F + (i : Int))] W (GivesS xs E W)) := Lib.hid (fun W hv => by
          have := GR.out W _ (F + (i : Int)) hv
          have e : s.read (F + (i : Int)) = (xs, E) := by
            rw [← hsec]
            unfold secP
            rw [HZ.out, hdv]
          rwa [e] at this)
        have HS := Lib.hid hsec
        obtain ⟨r, hr⟩ : ∃ r : Nat, lo - K = r := ⟨_, rfl⟩
        obtain ⟨m, hm⟩ : ∃ m : Nat, hi' - lo = m := ⟨_, rfl⟩
        have hlr : (lo : Int) - (K : Int) = (r : Int) := by omega
        have hhr : (hi' : Int) - (K : Int) = (r : Int) + (m : Int) := by omega
        have hrm : r + m ≤ z := by omega
        have HM1 : Hid ((b + k) % z = r) := Lib.hid (by rw [hmd, hr])
        have HK1 : Hid (k + m = min N ((i + 1) * z - b)) := Lib.hid (by rw [hKS]; omega)
        have hkm : k < N := by omega
        have HB := Lib.hid (block_range (L := (dCells Ak ck Aw cw s).toList) XG.out.x)
        by_cases hE : E = 0
        · subst hE
          obtain ⟨t1, ht1⟩ : ∃ t1, strOfNums (rowP s F b k) = t1 := ⟨_, rfl⟩
          have ht1z : t1.size = k := by rw [← ht1, strOfNums_size, rowP_length]
          obtain ⟨r2, hr2⟩ : ∃ r2, r + m = r2 := ⟨_, rfl⟩
          have hhr2 : (hi' : Int) - (K : Int) = (r2 : Int) := by omega
          have hxl : xs.length = z := by
            have := (HWH.out (F + ((b + k) / s.size : Nat)) xs HS.out).1
            rwa [HZ.out] at this
          have hcut1 := piece_cut (s := s) (F := F) (p := b + k) (m := m) (xs := xs) (by rw [hxl, HZ.out]) HS.out (by rw [HZ.out, HM1.out]; omega)
          rw [HZ.out, HM1.out, hr2] at hcut1
          have hjoin1 := row_join s F b k m
          have HOK1 := Lib.hid (okP_add (m := m) HOK.out (by rw [HZ.out, HM1.out]; omega) (by rw [HS.out]))
          obtain ⟨S1, hS1⟩ : ∃ S1, strOfNums xs = S1 := ⟨_, rfl⟩
          have hS1z : S1.size = z := by rw [← hS1, strOfNums_size, hxl]
          obtain ⟨P1, hP1⟩ : ∃ P1, strOfNums (rowP s F (b + k) m) = P1 := ⟨_, rfl⟩
          have hP1z : P1.size = m := by rw [← hP1, strOfNums_size, rowP_length]
          rw [hS1, hP1] at hcut1
          rw [hP1, ht1] at hjoin1
          rw [ht1]
          obtain ⟨t2, ht2⟩ : ∃ t2, strOfNums (rowP s F b (k + m)) = t2 := ⟨_, rfl⟩
          rw [ht2] at hjoin1
          have hadd : ∀ W, (Op.stringOp .add t1 P1).run Try.prog W = .ok (.string t2) W := fun W => by
            rw [← hjoin1]
            exact run_string_add_sum W t1 P1 (by omega)
          have HT2 := Lib.hid ht2
          have HS1 := Lib.hid hS1
          have hr2z : r2 ≤ z := by omega
          have hrr2 : r ≤ r2 := by omega
          clear hsec hK hk hok hKS hlo hhi G hbk hdv hmd hr hm ht1 hc hxl hS1 hP1 hjoin1 ht2 hhr hr2 hP1z
          go_wp2_with (first
            | (have _t := x0; refine wpList_load_midV (by rfl) _ _ rfl g 0 rfl (dCells Ak ck Aw cw s).toList HB.out Try.underlying49 rfl (by kernel_rfl) ?_; clear _t)
            | (go_at_call 40; (with_reducible refine (GRD.out _ XG.out.v).mono ?_); rintro e x1 ⟨rfl, hb1⟩; rw [HS1.out]; have XG1 := Lib.hid (XG.out.below hb1); have y0 : x1.cell? ⟨g, 0, none⟩ = some (.int .i64 (z : Int)) := HZ0.out x1 g (by have := XG1.out.x; unfold dCells at this; rw [HZ.out] at this; exact this); clear x0 r0 r1))
          go_roundw
          case rel => exact ⟨i + 1, k + m, by omega, HK1.out, by go_num, by rw [HT2.out], HOK1.out, XG1.out⟩
          case measure => simp [intOf]; omega
        · have d5 : (E != 0) = true := by simpa using hE
          clear hsec hK hk hok hKS hlo hhi G hbk hdv hmd hr hm hc hhr
          go_wp2_with (first
            | (have _t := x0; refine wpList_load_midV (by rfl) _ _ rfl g 0 rfl (dCells Ak ck Aw cw s).toList HB.out Try.underlying49 rfl (by kernel_rfl) ?_; clear _t)
            | (go_at_call 40; (with_reducible refine (GRD.out _ XG.out.v).mono ?_); rintro e x1 ⟨rfl, hb1⟩))
          go_ret2
          exact ⟨([], E), Or.inl ⟨k, hkm, HOK.out, by rw [HS.out]; exact hE, by rw [HS.out]⟩, rfl, (XG.out.below hb1).b⟩
    · have d0 : decide ((i : Int) < C) = false := decide_eq_false hlt
      have hkN2 : k = N := by
        have h1 : (i : Int) = C := by omega
        have h2 : (K : Int) = (T : Int) := by rw [← hKz, h1, hCS]
        omega
      have HKN := Lib.hid hkN2
      clear hK hk hok G hKz hKz1 hkN2 hkN
      go_wp2_with fail
      go_ret2
      exact ⟨rowP s F b N, 0, Or.inr ⟨by rw [← HKN.out]; exact HOK.out, rfl⟩, by rw [HKN.out]; rfl, XG.out.b⟩

set_option maxRecDepth 100000 in
set_option maxHeartbeats 6400000 in
theorem rpread_no (v : Value) (s : Dv) (F C : Int) (T : Nat) (x n : Int) (w : World) (h : RDv w v s) (hok : s.Ok) (hl : Lies s F C T) (hx : -9223372036854775808 ≤ x ∧ x ≤ 9223372036854775807)
    (hno : ¬ (0 ≤ x ∧ x ≤ T ∧ 0 ≤ n ∧ n ≤ T - x)) :
    Calls Try.prog 24 #[v, .agg #[.int .i64 F, .int .i64 C], .int .i64 x, .int .i64 n] w (GivesS [] 5 w) := by
  have hT := hl.most hok
  have hs1 := hok.s1
  have hs2 := hok.s2
  have hCS := hl.t
  have HS := Lib.hid str_nil
  have B2 := Lib.hid (fun o p => below_two w o p)
  obtain ⟨Ak, ck, Aw, cw, rfl, hr0⟩ := h
  have h3 : (decide (x < 0) = true) ∨ (decide (x < 0) = false ∧ decide (n < 0) = true) ∨ (decide (x < 0) = false ∧ decide (n < 0) = false ∧ decide ((T : Int) < x) = true) ∨ (decide (x < 0) = false ∧ decide (n < 0) = false ∧ decide ((T : Int) < x) = false ∧ decide ((T : Int) - x < n) = true) := by
    by_cases h1 : x < 0
    · exact Or.inl (decide_eq_true h1)
    · by_cases h4 : n < 0
      · exact Or.inr (Or.inl ⟨decide_eq_false h1, decide_eq_true h4⟩)
      · by_cases h2 : (T : Int) < x
        · exact Or.inr (Or.inr (Or.inl ⟨decide_eq_false h1, decide_eq_false h4, decide_eq_true h2⟩))
        · exact Or.inr (Or.inr (Or.inr ⟨decide_eq_false h1, decide_eq_false h4, decide_eq_false h2, decide_eq_true (by omega)⟩))
  unfold dCells
  clear hr0 hl hok hno
  rcases h3 with d1 | ⟨d1, d2⟩ | ⟨d1, d2, d3⟩ | ⟨d1, d2, d3, d4⟩
  · go_enter Try.func24, Try.ntmps24
    go_wp2_with fail
    go_ret2
    exact ⟨by rw [HS.out]; rfl, B2.out _ _⟩
  · go_enter Try.func24, Try.ntmps24
    go_wp2_with fail
    go_ret2
    exact ⟨by rw [HS.out]; rfl, B2.out _ _⟩
  · go_enter Try.func24, Try.ntmps24
    go_wp2_with fail
    go_ret2
    exact ⟨by rw [HS.out]; rfl, B2.out _ _⟩
  · have hx0 : 0 ≤ x := by have := of_decide_eq_false d1; omega
    have hx1 : x ≤ (T : Int) := by have := of_decide_eq_false d3; omega
    obtain ⟨y, rfl⟩ : ∃ y : Nat, x = (y : Int) := ⟨x.toNat, by omega⟩
    have d3 : decide (T < y) = false := decide_eq_false (by omega)
    clear hx0
    go_enter Try.func24, Try.ntmps24
    go_wp2_with fail
    go_ret2
    exact ⟨by rw [HS.out]; rfl, B2.out _ _⟩

theorem rpread_any (v : Value) (s : Dv) (F C : Int) (T : Nat) (x n : Int) (w : World) (h : RDv w v s) (hok : s.Ok) (hwh : Whole s) (hl : Lies s F C T) (hx : -9223372036854775808 ≤ x ∧ x ≤ 9223372036854775807) :
    Calls Try.prog 24 #[v, .agg #[.int .i64 F, .int .i64 C], .int .i64 x, .int .i64 n] w fun e w' => ∃ r, PRead s F T x n r ∧ GivesS r.1 r.2 w e w' := by
  unfold PRead
  by_cases hin : 0 ≤ x ∧ x ≤ (T : Int) ∧ 0 ≤ n ∧ n ≤ (T : Int) - x
  · simp only [if_pos hin]
    obtain ⟨b, rfl⟩ : ∃ b : Nat, x = (b : Int) := ⟨x.toNat, by omega⟩
    obtain ⟨N, rfl⟩ : ∃ N : Nat, n = (N : Int) := ⟨n.toNat, by omega⟩
    exact rpread_yes v s F C T b N w h hok hwh hl (by omega)
  · simp only [if_neg hin]
    exact (rpread_no v s F C T x n w h hok hl hx hin).mono fun e w' h => ⟨([], 5), rfl, h⟩
end Go.Proofs.Ytchbgmpkdkecgaa.Pt
