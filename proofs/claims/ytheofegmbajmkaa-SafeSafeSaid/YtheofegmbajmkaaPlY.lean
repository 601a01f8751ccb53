/-
  Layer 16, plan: the document's Eval: contract. Conditions: as each theorem names.
-/
import Derived.Test.YtheofegmbajmkaaPlW
namespace Go.Proofs.Ytheofegmbajmkaa.Pl
open Go.ChangeShapes Go.WideShapes Go.ChangeAt Go.RowKit Go.Proofs.Ytheofegmbajmkaa.Kit

/-- No bytes, and an error. -/
def GivesNo (why : Int) (w : World) (e : Ending) (w' : World) : Prop := ∃ A c, e = .returned (.tuple #[.slice A 0 c, .int .i64 why]) ∧ Below w.heap.size w w'

theorem GivesNo.to {why : Int} {w w' : World} {e : Ending} (h : GivesNo why w e w') (hc : ∀ A c, e = .returned (.tuple #[.slice A 0 c, .int .i64 why]) → c ≤ maxLen) : GivesE [] why w e w' := by
  obtain ⟨A, c, he, hb⟩ := h
  exact ⟨A, c, he, Holds.nil, Nat.zero_le _, hc A c he, hb⟩

set_option maxRecDepth 100000 in
set_option maxHeartbeats 3200000 in
theorem reval_form (A : Option Addr) (ss : List Stp) (c : Nat) (Ao : Option Addr) (old : List Int) (co : Nat) (want : Int) (w : World) (hl : ss.length ≤ 1000) (hc : ss.length ≤ c) (hm : c ≤ maxLen) (hr : HoldsS w A ss) (h : ss.all rightS = false) :
    Calls Try.prog 13 #[.slice A ss.length c, .slice Ao old.length co, .int .i64 want] w (GivesE [] 3 w) := by
  have hb0 : Below w.heap.size w (w.alloc (.cells #[] 5)) := (Below.refl _ _).alloc (Nat.le_refl _) _
  unfold maxLen at hm
  go_enter Try.func13, Try.ntmps13
  go_wp2_with fail
  go_loopw [9, 19] (fun t s wr => ∃ (i : Nat) (n : Int), i ≤ ss.length ∧ s = .int .i64 i ∧ t = .int .i64 n ∧ 0 ≤ n ∧ n ≤ 4096 * i ∧ (ss.take i).all rightS = true ∧ Below w.heap.size w wr) (fun _ s _ => ss.length - (intOf s).toNat)
  case atStart => exact ⟨0, 0, Nat.zero_le _, rfl, rfl, by omega, by omega, by simp, hb0⟩
  case round =>
    obtain ⟨i, n, hi, rfl, rfl, hn0, hn1, hpre, hb⟩ := hrel
    by_cases hlt : i < ss.length
    · obtain ⟨b, off, rfl, hbl, c0, c1, c2, c3, k0, k1, k2, h1, h2, hoz, hrz⟩ := stepAt (steps_below hr hb) hlt
      have hnext := take_next hlt
      generalize ss[i] = s at *
      cases hri : rightS s with
      | true =>
        have hf := (right_facts hri).1
        have hpre2 : (ss.take (i + 1)).all rightS = true := by rw [hnext, List.all_append, hpre]; simp [hri]
        have HP := Lib.hid hpre2
        unfold rightS at hri
        obtain ⟨a, f, x, Az, cz, zs⟩ := s
        simp only at c0 c1 c2 c3 hri hf
        have G := Lib.hid (fun W => hri ▸ rright_any a f x Az zs.length cz W)
        clear hri k0 k1 k2 h1 h2 hoz hrz hnext hpre hpre2
        by_cases hle : n ≤ want
        · go_wp2_with (go_at_call 24; refine (G.out _).mono ?_; rintro e w2 ⟨rfl, hb2⟩; have hb3 := hb.trans (hb2.mono hb.size); have d2 := (hb2.cell (p := ⟨b, off + i * 4 + 2, none⟩) (by show b < _; have := hb.size; omega)).trans c2)
          go_roundw
          case rel => exact ⟨i + 1, n + x, by omega, by go_num, rfl, by omega, by omega, HP.out, hb3⟩
          case measure => simp [intOf] <;> omega
        · have hd : decide (n ≤ want) = false := decide_eq_false hle
          go_wp2_with (go_at_call 24; refine (G.out _).mono ?_; rintro e w2 ⟨rfl, hb2⟩; have hb3 := hb.trans (hb2.mono hb.size))
          go_roundw
          case rel => exact ⟨i + 1, n, by omega, by go_num, rfl, by omega, by omega, HP.out, hb3⟩
          case measure => simp [intOf] <;> omega
      | false =>
        unfold rightS at hri
        obtain ⟨a, f, x, Az, cz, zs⟩ := s
        simp only at c0 c1 c2 c3 hri
        have G := Lib.hid (fun W => hri ▸ rright_any a f x Az zs.length cz W)
        clear hri k0 k1 k2 h1 h2 hoz hrz hnext hpre
        go_wp2_with (go_at_call 24; refine (G.out _).mono ?_; rintro e w2 ⟨rfl, hb2⟩; have hb3 := hb.trans (hb2.mono hb.size))
        go_ret2
        exact ⟨_, 0, rfl, Holds.nil, Nat.zero_le _, Nat.zero_le _, hb3⟩
    · obtain rfl : i = ss.length := by omega
      rw [List.take_of_length_le (Nat.le_refl _), h] at hpre
      cases hpre

/-- What the document's sum is, behind some steps. -/
def SumIs (want n S : Int) : Prop := n = S ∨ (want < n ∧ want < S ∧ n ≤ S)

theorem sum_next {want n S x : Int} (h : SumIs want n S) (hx : 1 ≤ x) (hle : n ≤ want) : SumIs want (n + x) (S + x) := by
  rcases h with rfl | h
  · exact .inl rfl
  · omega
theorem sum_stay {want n S x : Int} (h : SumIs want n S) (hx : 1 ≤ x) (hle : ¬ n ≤ want) : SumIs want n (S + x) := by
  rcases h with rfl | h
  · exact .inr ⟨by omega, by omega, by omega⟩
  · exact .inr ⟨by omega, by omega, by omega⟩
theorem sum_end {want n S : Int} (h : SumIs want n S) : n = want ↔ S = want := by
  rcases h with rfl | h
  · exact Iff.rfl
  · constructor <;> intro _ <;> omega


theorem addB_get {old us : List Int} {f k j : Nat} (hj : j < k) (hk : f + k ≤ old.length) : (addB ((old.drop f).take k) us)[j]? = some ((old.getD (f + j) 0 + us.getD j 0) % 256) := by
  have hl : ((old.drop f).take k).length = k := by simp; omega
  unfold addB
  rw [hl]
  simp [hj, List.getD, List.getElem?_take, List.getElem?_drop]

theorem take_snoc {ys : List Int} {j : Nat} {z : Int} (h : ys[j]? = some z) : ys.take (j + 1) = ys.take j ++ [z] := by
  rw [List.take_add_one, h]
  rfl

set_option maxRecDepth 100000 in
set_option maxHeartbeats 6400000 in
theorem reval_right (A : Option Addr) (ss : List Stp) (c : Nat) (Ao : Option Addr) (old : List Int) (co : Nat) (want : Int) (w : World) (hl : ss.length ≤ 1000) (hc : ss.length ≤ c) (hm : c ≤ maxLen) (hr : HoldsS w A ss) (h : ss.all rightS = true)
    (hlo : old.length ≤ 1000000) (hco : old.length ≤ co) (hmo : co ≤ maxLen) (hoo : Octets old) (hro : Holds w w.heap.size .u8 Ao old) (zs : List Int) (why : Int)
    (hz : (sumX ss ≠ want ∧ zs = [] ∧ why = 13) ∨ (sumX ss = want ∧ evalO (some old) ss = none ∧ zs = [] ∧ why = 5) ∨ (sumX ss = want ∧ evalO (some old) ss = some zs ∧ why = 0)) :
    Calls Try.prog 13 #[.slice A ss.length c, .slice Ao old.length co, .int .i64 want] w (GivesE zs why w) := by
  have hb0 : Below w.heap.size w (w.alloc (.cells #[] 5)) := (Below.refl _ _).alloc (Nat.le_refl _) _
  have hall := fun (i : Nat) (hi : i < ss.length) => List.all_eq_true.1 h ss[i] (List.getElem_mem hi)
  have hbd := fun (i : Nat) => sumX_bd (ss.take i) (all_take h i)
  have hlb := fun (i : Nat) (pre : List Int) => evalO_bd (some old) (fun o ho => by injection ho with ho; subst ho; exact hlo) (ss.take i) pre (all_take h i)
  unfold maxLen at hm
  have HZ := Lib.hid hz
  clear h hz
  go_enter Try.func13, Try.ntmps13
  go_wp2_with fail
  go_loopw [9, 19] (fun t s wr => ∃ (i : Nat) (n : Int), i ≤ ss.length ∧ s = .int .i64 i ∧ t = .int .i64 n ∧ 0 ≤ n ∧ n ≤ 4096 * i ∧ SumIs want n (sumX (ss.take i)) ∧ Below w.heap.size w wr) (fun _ s _ => ss.length - (intOf s).toNat)
  case atStart => exact ⟨0, 0, Nat.zero_le _, rfl, rfl, by omega, by omega, .inl (by simp [sumX]), hb0⟩
  case round =>
    obtain ⟨i, n, hi, rfl, rfl, hn0, hn1, hsum, hb⟩ := hrel
    by_cases hlt : i < ss.length
    · obtain ⟨b, off, rfl, hbl, c0, c1, c2, c3, k0, k1, k2, h1, h2, hoz, hrz⟩ := stepAt (steps_below hr hb) hlt
      have hri := hall i hlt
      have hnext : sumX (ss.take (i + 1)) = sumX (ss.take i) + ss[i].x := by rw [take_next hlt, sumX_snoc]
      generalize ss[i] = s at *
      have hf := (right_facts hri).1
      unfold rightS at hri
      obtain ⟨a, f, x, Az, cz, us⟩ := s
      simp only at c0 c1 c2 c3 hri hf hnext
      have G := Lib.hid (fun W => hri ▸ rright_any a f x Az us.length cz W)
      have HS := Lib.hid hsum
      have HN := Lib.hid hnext
      clear hri k0 k1 k2 h1 h2 hoz hrz hnext hsum hall hbd hlb
      by_cases hle : n ≤ want
      · go_wp2_with (go_at_call 24; refine (G.out _).mono ?_; rintro e w2 ⟨rfl, hb2⟩; have hb3 := hb.trans (hb2.mono hb.size); have d2 := (hb2.cell (p := ⟨b, off + i * 4 + 2, none⟩) (by show b < _; have := hb.size; omega)).trans c2)
        go_roundw
        case rel => exact ⟨i + 1, n + x, by omega, by go_num, rfl, by omega, by omega, by rw [HN.out]; exact sum_next HS.out hf.1 hle, hb3⟩
        case measure => simp [intOf] <;> omega
      · have hd : decide (n ≤ want) = false := decide_eq_false hle
        go_wp2_with (go_at_call 24; refine (G.out _).mono ?_; rintro e w2 ⟨rfl, hb2⟩; have hb3 := hb.trans (hb2.mono hb.size))
        go_roundw
        case rel => exact ⟨i + 1, n, by omega, by go_num, rfl, by omega, by omega, by rw [HN.out]; exact sum_stay HS.out hf.1 (by omega), hb3⟩
        case measure => simp [intOf] <;> omega
    · obtain rfl : i = ss.length := by omega
      rw [List.take_of_length_le (Nat.le_refl _)] at hsum
      have hend := sum_end hsum
      by_cases hw : n = want
      · have hsw := hend.1 hw
        subst hw
        have hne : (n != n) = false := by simp
        have own0 := Own.empty (B := w.heap.size) wr 5 .u8 hb.size
        have hb1 := hb.alloc hb.size (.cells #[] 5)
        clear hend hsum hbd
        go_wp2_with fail
        go_loopw [11, 47] (fun v s wx => ∃ (i : Nat) (pre : List Int) (A' : Option Addr) (c' : Nat), i ≤ ss.length ∧ s = .int .i64 i ∧ v = .slice A' pre.length c' ∧ evalO (some old) (ss.take i) = some pre ∧ Own wx w.heap.size 5 .u8 (.slice A' pre.length c') pre ∧ Below w.heap.size w wx) (fun _ s _ => ss.length - (intOf s).toNat)
        case atStart => exact ⟨0, [], _, _, Nat.zero_le _, rfl, rfl, by simp [evalO], own0, hb1⟩
        case round =>
          obtain ⟨i, pre, A', c', hi, rfl, rfl, hpre, own, hb⟩ := hrel
          have hpl := hlb i pre hpre
          rw [List.length_take] at hpl
          by_cases hlt : i < ss.length
          · have hri := hall i hlt
            have hnext := evalO_snoc (some old) ss[i] (ss.take i)
            rw [← take_next hlt, hpre] at hnext
            obtain ⟨b, off, rfl, hbl, c0, c1, c2, c3, k0, k1, k2, h1, h2, hoz, hrz⟩ := stepAt (steps_below hr hb) hlt
            have hf := right_facts hri
            cases hm2 : madeO (some old) ss[i] with
            | none =>
              rw [hm2] at hnext
              have hev : evalO (some old) ss = none := by
                cases he : evalO (some old) ss with
                | none => rfl
                | some q =>
                  obtain ⟨p, hp⟩ := evalO_front (some old) (ss.take (i + 1)) (ss.drop (i + 1)) q (by rw [List.take_append_drop]; exact he)
                  rw [hp] at hnext
                  cases hnext
              obtain ⟨rfl, rfl⟩ : zs = [] ∧ why = 5 := by
                rcases HZ.out with hz | hz | hz
                · exact absurd hsw hz.1
                · exact hz.2.2
                · rw [hev] at hz; cases hz.2.1
              unfold madeO at hm2
              generalize ss[i] = s at *
              obtain ⟨a, f, x, Az, cz, us⟩ := s
              simp only at c0 c1 c2 c3 hf hm2
              have ha : a ≠ 1 := fun ha => by rw [if_pos ha] at hm2; cases hm2
              rw [if_neg ha] at hm2
              have hok : ¬ okRange old f x = true := fun hok => by rw [if_pos hok] at hm2; cases hm2
              have hok : ¬ (0 ≤ f ∧ 0 ≤ x ∧ f + x ≤ old.length) := by simpa [okRange] using hok
              have hab : (a == 1) = false := by rw [beq_eq_false_iff_ne]; exact ha
              have hbA := hb.alloc hb.size (.cells #[.int .u8 a, .int .i64 f, .int .i64 x, .slice Az us.length cz] 41)
              have hff : (0 ≤ f ∧ f ≤ 2147483647) ∧ (1 ≤ x ∧ x ≤ 4096) := by omega
              clear k0 k1 k2 h1 h2 hoz hrz hall hlb hri hm2 hpre hnext hev HZ hsw ha hf
              by_cases hfo : (old.length : Int) < f
              · go_wp2_with fail
                go_ret2
                exact ⟨_, 0, rfl, Holds.nil, Nat.zero_le _, Nat.zero_le _, hbA⟩
              · have hxo : (old.length : Int) - f < x := by omega
                clear hok
                go_wp2_with fail
                go_ret2
                exact ⟨_, 0, rfl, Holds.nil, Nat.zero_le _, Nat.zero_le _, hbA⟩
            | some ys =>
              rw [hm2] at hnext
              have hyl := madeO_bd hm2 hri (fun o ho => by injection ho with ho; subst ho; exact hlo)
              unfold madeO at hm2
              generalize ss[i] = s at *
              obtain ⟨a, f, x, Az, cz, us⟩ := s
              simp only at c0 c1 c2 c3 hf hm2 hnext hrz hoz
              have HN := Lib.hid hnext
              have hbA := hb.alloc hb.size (.cells #[.int .u8 a, .int .i64 f, .int .i64 x, .slice Az us.length cz] 41)
              have hrA := hrz.below ((Below.refl w.heap.size wr).alloc hb.size (.cells #[.int .u8 a, .int .i64 f, .int .i64 x, .slice Az us.length cz] 41))
              have blk := Block.new wr 41 #[.int .u8 a, .int .i64 f, .int .i64 x, .slice Az us.length cz]
              have ownA := own.alloc (.cells #[.int .u8 a, .int .i64 f, .int .i64 x, .slice Az us.length cz] 41)
              have hsA : w.heap.size ≤ (wr.alloc (.cells #[.int .u8 a, .int .i64 f, .int .i64 x, .slice Az us.length cz] 41)).heap.size := hbA.size
              by_cases ha : a = 1
              · subst ha
                rw [if_pos rfl] at hm2
                injection hm2 with hm2
                subst hm2
                clear k0 k1 k2 h1 h2 hoz hrz hall hlb hri hpre hnext HZ hsw hf
                go_wp2_with (have _t := ownA; at_builtin; refine wpList_append_out (ys := us) _ rfl _ _ _ rfl elem8 ownA rfl rfl hrA (by omega) hsA ?_; clear _t; intro A5 c5 w5 own5 t5 n5; have hb5 := hbA.trans (ownA.turned t5 hsA))
                go_roundw
                case rel =>
                  refine ⟨i + 1, pre ++ us, A5, c5, by omega, by go_num, by simp, HN.out, ?_, hb5⟩
                  rw [List.length_append]
                  exact own5
                case measure => simp [intOf] <;> omega
              · rw [if_neg ha] at hm2
                by_cases hok : okRange old f x = true
                · rw [if_pos hok] at hm2
                  injection hm2 with hm2
                  have hk := of_decide_eq_true hok
                  obtain ⟨f, rfl⟩ := Int.eq_ofNat_of_zero_le hk.1
                  obtain ⟨k, rfl⟩ := Int.eq_ofNat_of_zero_le hk.2.1
                  have hfk : f + k ≤ old.length := by omega
                  have hget := fun (j : Nat) (hj : j < k) => addB_get (old := old) (us := us) (f := f) (k := k) hj hfk
                  have hyk : ys.length = k := by rw [← hm2, addB_length]; simp [rangeB]; omega
                  have hget : ∀ j < k, ys[j]? = some ((old.getD (f + j) 0 + us.getD j 0) % 256) := fun j hj => by rw [← hm2]; exact hget j hj
                  have HG := Lib.hid hget
                  have hab : (a == 1) = false := by rw [beq_eq_false_iff_ne]; exact ha
                  have hfo : ¬ (old.length : Int) < f := by omega
                  have hxo : ¬ (old.length : Int) - f < k := by omega
                  have hu : a = 3 ∧ us.length = k ∨ (a == 3) = false ∧ us = [] := by
                    rcases hf.2 with h | h | h
                    · exact absurd h.1 ha
                    · exact .inr ⟨by rw [h.1]; rfl, List.length_eq_zero_iff.1 h.2.2⟩
                    · exact .inl ⟨h.1, by omega⟩
                  have HU := Lib.hid hu
                  have hroA := hro.below hbA
                  clear k0 k1 k2 h1 h2 hrz hall hlb hri hpre hnext HZ hsw hf hk hok hm2 hget hu
                  go_wp2_with fail
                  go_loopw [11, 14] (fun v s wy => ∃ (j : Nat) (A6 : Option Addr) (c6 : Nat), j ≤ k ∧ s = .int .i64 j ∧ v = .slice A6 (pre.length + j) c6 ∧ Own wy w.heap.size 5 .u8 (.slice A6 (pre.length + j) c6) (pre ++ ys.take j) ∧ Block wy wr.heap.size 41 #[.int .u8 a, .int .i64 f, .int .i64 k, .slice Az us.length cz] ∧ Below w.heap.size w wy ∧ Holds wy w.heap.size .u8 Az us) (fun _ s _ => k - (intOf s).toNat)
                  case atStart => exact ⟨0, A', c', Nat.zero_le _, rfl, rfl, by simpa using ownA, blk, hbA, hrA⟩
                  case round =>
                    obtain ⟨j, A6, c6, hj, rfl, rfl, own6, blk6, hb6, hb7⟩ := hrel
                    have q0 := blk6.cellOf 0 (u := .int .u8 a) rfl
                    have q1 := blk6.cellOf 1 (u := .int .i64 f) rfl
                    have q2 := blk6.cellOf 2 (u := .int .i64 k) rfl
                    have q3 := blk6.cellOf 3 (u := .slice Az us.length cz) rfl
                    have hpk : (pre ++ ys.take j).length = pre.length + j := by rw [List.length_append, List.length_take]; omega
                    by_cases hjk : j < k
                    · obtain ⟨bo, oo, rfl, hbo, hco2⟩ := (hro.below hb6) (by omega)
                      have d0 := hco2 (f + j) (by omega)
                      have hzj := HG.out j hjk
                      have hto := take_snoc hzj
                      have ho1 := getD_octet hoo (f + j)
                      have hz1 := getD_octet hoz j
                      have hfj : (f : Int) + j < old.length := by omega
                      have HT := Lib.hid hto
                      have hs6 := hb6.size
                      rcases HU.out with ⟨rfl, hul⟩ | ⟨h3, rfl⟩
                      · obtain ⟨bu, ou, rfl, hbu, hcu⟩ := hb7 (by omega)
                        have d1 := hcu j (by omega)
                        have hju : (j : Int) < (us.length : Int) := by omega
                        generalize old.getD (f + j) 0 = y at *
                        generalize us.getD j 0 = z at *
                        clear hco2 hto hzj HG hcu
                        go_wp2_with (at_builtin; refine wpList_append_one_out (xs := pre ++ ys.take j) (z := (y + z) % 256) _ rfl _ _ _ rfl elem8 own6 rfl rfl (by omega) hs6 ?_; intro A5 c5 w5 own5 t5 n5)
                        go_roundw
                        case rel =>
                          have hb5 := own6.turned t5 hs6
                          have blk5 := blk6.apart own6 (by decide) t5
                          rw [hul] at blk5
                          refine ⟨j + 1, by omega, by go_num, A5, c5, ⟨rfl, by omega, rfl⟩, ?_, blk5, hb6.trans hb5, hb7.below hb5⟩
                          rw [HT.out, ← List.append_assoc]
                          rw [hpk] at own5
                          exact own5
                        case measure => simp [intOf] <;> omega
                      · have hzz : (old.getD (f + j) 0 + ([] : List Int).getD j 0) % 256 = old.getD (f + j) 0 := by rw [show ([] : List Int).getD j 0 = 0 from rfl]; omega
                        rw [hzz] at hto hzj
                        have HT := Lib.hid hto
                        generalize old.getD (f + j) 0 = y at *
                        clear hco2 hto hzj hzz HG
                        go_wp2_with (at_builtin; refine wpList_append_one_out (xs := pre ++ ys.take j) (z := y) _ rfl _ _ _ rfl elem8 own6 rfl rfl (by omega) hs6 ?_; intro A5 c5 w5 own5 t5 n5)
                        go_roundw
                        case rel =>
                          have hb5 := own6.turned t5 hs6
                          refine ⟨j + 1, by omega, by go_num, A5, c5, ⟨rfl, by omega, rfl⟩, ?_, blk6.apart own6 (by decide) t5, hb6.trans hb5, Holds.nil⟩
                          rw [HT.out, ← List.append_assoc]
                          rw [hpk] at own5
                          exact own5
                        case measure => simp [intOf] <;> omega
                    · obtain rfl : j = k := by omega
                      rw [List.take_of_length_le (by omega)] at own6
                      clear HG HU
                      go_wp2_with fail
                      go_roundw
                      case rel => exact ⟨i + 1, pre ++ ys, A6, c6, by omega, by go_num, by simp [hyk], HN.out, by rw [List.length_append, hyk]; exact own6, hb6⟩
                      case measure => simp [intOf] <;> omega
                · rw [if_neg hok] at hm2
                  cases hm2
          · obtain rfl : i = ss.length := by omega
            rw [List.take_of_length_le (Nat.le_refl _)] at hpre
            obtain ⟨rfl, rfl⟩ : zs = pre ∧ why = 0 := by
              rcases HZ.out with hz | hz | hz
              · exact absurd hsw hz.1
              · rw [hpre] at hz; cases hz.2.1
              · rw [hpre] at hz; injection hz.2.1 with hz1; exact ⟨hz1.symm, hz.2.2⟩
            clear HZ hall hlb hpre hpl hsw
            obtain ⟨A7, c7, hv7, hl7, hm7, hr7⟩ := own.opened
            injection hv7 with e1 e2 e3
            subst e1 e3
            go_wp2_with fail
            go_ret2
            exact ⟨A', c', rfl, hr7, hl7, hm7, hb⟩
      · have hne : (n != want) = true := by simpa using hw
        have hz := HZ.out
        have hsw : sumX ss ≠ want := fun h => hw (hend.2 h)
        obtain ⟨_, rfl, rfl⟩ : sumX ss ≠ want ∧ zs = [] ∧ why = 13 := by
          rcases hz with hz | hz | hz
          · exact hz
          · exact absurd hz.1 hsw
          · exact absurd hz.1 hsw
        clear hend hsum hall hbd hlb hz hsw hw HZ
        go_wp2_with fail
        go_ret2
        exact ⟨_, 0, rfl, Holds.nil, Nat.zero_le _, Nat.zero_le _, hb⟩
end Go.Proofs.Ytheofegmbajmkaa.Pl
