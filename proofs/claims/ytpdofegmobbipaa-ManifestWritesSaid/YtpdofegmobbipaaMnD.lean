/-
  Layer 22, manifest: the document's word on whether a manifest may be: contracts. Conditions: as each theorem names.
-/
import Derived.Test.YtpdofegmobbipaaMnC
namespace Go.Proofs.Ytpdofegmobbipaa.Mn
open Go.ChangeShapes Go.WideShapes Go.ChangeAt Go.RowKit Go.Proofs.Ytpdofegmobbipaa.Kit Go.Proofs.Ytpdofegmobbipaa.Ordr Go.Proofs.Ytpdofegmobbipaa.Blk

theorem count_next (xs : List Int) (x : Int) (j : Nat) (h : j < xs.length) : ((xs.take (j + 1)).count x : Int) = ((xs.take j).count x : Int) + if xs.getD j 0 = x then 1 else 0 := by
  rw [take_next xs j h, List.count_append, List.count_singleton]
  by_cases e : xs.getD j 0 = x
  · rw [if_pos e, if_pos (by rw [beq_iff_eq]; exact e)]; rfl
  · rw [if_neg e, if_neg (by rw [beq_iff_eq]; exact e)]; rfl

set_option maxHeartbeats 1600000 in
theorem has_any (A : Option Addr) (xs : List Int) (c : Nat) (x : Int) (w : World) (hl : xs.length ≤ 5000) (hr : Holds w w.heap.size .i64 A xs) :
    Calls Try.prog 32 #[.slice A xs.length c, .int .i64 x] w fun e w' => e = .returned (.int .i64 (xs.count x : Int)) ∧ w = w' := by
  have HN := Lib.hid (fun j (h : j < xs.length) => count_next xs x j h)
  have HE : Hid (xs.take xs.length = xs) := Lib.hid List.take_length
  have HC : Hid (∀ j, (xs.take j).count x ≤ xs.length) := Lib.hid (fun j => Nat.le_trans List.count_le_length (by rw [List.length_take]; omega))
  go_enter Try.func32, Try.ntmps32
  go_wp2
  go_loop [5, 9] (fun n i => ∃ j : Nat, j ≤ xs.length ∧ i = .int .i64 j ∧ n = .int .i64 ((xs.take j).count x : Int)) (fun _ i => xs.length - (intOf i).toNat)
  case atStart => exact ⟨0, Nat.zero_le _, rfl, rfl⟩
  case round =>
    obtain ⟨j, hj, rfl, rfl⟩ := hrel
    have hcj := HC.out j
    by_cases hlt : j < xs.length
    · obtain ⟨b, off, rfl, hb, hc⟩ := hr (by omega)
      have hcell := hc j hlt
      have Hn := Lib.hid (HN.out j hlt)
      have d1 : decide ((j : Int) < (xs.length : Int)) = true := decide_eq_true (by omega)
      have d2 : decide (j < xs.length) = true := decide_eq_true hlt
      clear hc
      generalize xs.getD j 0 = z at *
      generalize (xs.take j).count x = q at *
      by_cases hz : z = x
      · have d3 : (z == x) = true := by rw [beq_iff_eq]; exact hz
        have HX := Lib.hid hz
        clear hz
        go_wp2
        go_round
        case rel => exact ⟨j + 1, hlt, by go_num, by rw [Hn.out, if_pos HX.out]⟩
        case measure => simp [intOf] <;> omega
      · have d3 : (z == x) = false := by rw [beq_eq_false_iff_ne]; exact hz
        have HX := Lib.hid hz
        clear hz
        go_wp2
        go_round
        case rel => exact ⟨j + 1, hlt, by go_num, by rw [Hn.out, if_neg HX.out, Int.add_zero]⟩
        case measure => simp [intOf] <;> omega
    · obtain rfl : j = xs.length := by omega
      have d1 : decide ((xs.length : Int) < (xs.length : Int)) = false := decide_eq_false (by omega)
      have d2 : decide (xs.length < xs.length) = false := decide_eq_false (by omega)
      rw [HE.out]
      go_wp2
      go_ret
      exact ⟨rfl, rfl⟩

theorem zero_of {od : List Int} (h : od.length = 32) (hz : ∀ j, j < 32 → od.getD j 0 = 0) : od = zero32 := by
  unfold zero32
  apply List.ext_getElem
  · simp [h]
  · intro i h1 h2
    have := hz i (by omega)
    rw [List.getElem_replicate]
    simpa [List.getD, List.getElem?_eq_getElem h1] using this
theorem zero_not {od : List Int} {k : Nat} (hk : k < 32) (h : od.getD k 0 ≠ 0) : od ≠ zero32 := by
  rintro rfl
  apply h
  unfold zero32
  rw [List.getD_eq_getElem?_getD, List.getElem?_replicate]
  split <;> rfl
theorem Man.cell_old (m : Man) (h : m.Ok) {k : Nat} (hk : k < 32) : m.cells.toArray[5 + k]? = some (.int .u8 (m.od.getD k 0)) := by
  rw [List.getElem?_toArray, show 5 + k = k + 1 + 1 + 1 + 1 + 1 by omega]
  unfold Man.cells
  simp only [List.getElem?_cons_succ]
  have hl : k < m.od.length := by rw [h.odl]; exact hk
  rw [List.getElem?_append_left (by rw [List.length_map]; exact hl), List.getElem?_map, List.getElem?_eq_getElem hl]
  simp [List.getD, List.getElem?_eq_getElem hl]
theorem inB_no {lo hi n : Int} (h : n < lo ∨ hi < n) : inB lo hi n ≠ true := by
  unfold inB
  rw [ne_eq, decide_eq_true_iff]
  omega
theorem inB_of {lo hi n : Int} (h : lo ≤ n ∧ n ≤ hi) : inB lo hi n = true := decide_eq_true h

set_option maxRecDepth 100000 in
set_option maxHeartbeats 6400000 in
theorem rmay_any (m : Man) (ho : m.Ok) (w : World) (hr : m.In w) (hol5 : m.ord.length ≤ 5000) : Calls Try.prog 12 #[.agg m.cells.toArray] w fun e w' => e = .returned (.bool (decide m.May)) ∧ Below w.heap.size w w' := by
  have B1 := below_last w (.cells m.cells.toArray 27)
  have M1 : ManAt (w.alloc (.cells m.cells.toArray 27)) w.heap.size m := Block.new w _ _
  obtain ⟨f0, f1, f2, f3, f4⟩ := M1.ints
  have f5 := M1.order ho
  have c0 : m.cells.toArray[0]? = some (.int .u8 m.md) := rfl
  have c2 : m.cells.toArray[2]? = some (.int .i64 m.bk) := rfl
  have c3 : m.cells.toArray[3]? = some (.int .i64 m.ol) := rfl
  have c4 : m.cells.toArray[4]? = some (.int .i64 m.nl) := rfl
  have c5 := m.cell_ord ho
  have HO5 := Lib.hid (fun k (hk : k < 32) => m.cell_old ho hk)
  have hmd := ho.md
  have hnl := ho.nl
  have hol := ho.ol
  have hbk := ho.bk
  have hMay : Hid (decide m.May = decide ((m.md = 1 ∨ m.md = 2 ∨ m.md = 3) ∧ inB 128 4096 m.bk = true ∧ inB 0 2147483647 m.ol = true ∧ inB 0 2147483647 m.nl = true ∧ (m.md = 3 → m.ol = 0 ∧ m.od = zero32) ∧ blocks m.nl m.bk ≤ 4096 ∧ OrderOk m.ord m.want)) := Lib.hid (by rw [decide_eq_decide]; exact Iff.rfl)
  have GC := Lib.hid (fun W => rblocks_any m.nl m.bk W hnl)
  have h0 : 0 ≤ blocks m.nl m.bk := (blocks_bd m.nl m.bk).1
  have HD := Lib.hid ho.odl
  have GH := Lib.hid (fun x W hB => has_any m.A m.ord m.cap x W hol5 ((hr.below hB).more (Below.size (B := w.heap.size) hB)))
  have hwant : m.want = if m.md = 2 then (blocks m.nl m.bk).toNat else 0 := rfl
  obtain ⟨cs, hcs⟩ : ∃ cs, m.cells.toArray = cs := ⟨_, rfl⟩
  rw [hcs] at B1 M1 f0 f2 f3 f4 f5 c0 c2 c3 c4 c5 HO5 ⊢
  clear M1 ho hr hcs f1
  obtain ⟨D, hD⟩ : ∃ D, decide m.May = D := ⟨_, rfl⟩
  rw [hD] at hMay ⊢
  clear hD
  generalize m.want = wn at *
  generalize m.md = md at *
  generalize m.bk = bk at *
  generalize m.ol = ol at *
  generalize m.nl = nl at *
  generalize m.od = od at *
  generalize m.A = A at *
  generalize m.cap = cap at *
  generalize m.ord = ord at *
  generalize blocks nl bk = q at *
  by_cases t0 : bk < 128
  · have HF : Hid (D = false) := Lib.hid (hMay.out.trans (decide_eq_false fun h => inB_no (.inl t0) h.2.1))
    have d0 : decide (bk < 128) = true := decide_eq_true t0
    clear hMay hwant
    go_enter Try.func12, Try.ntmps12
    go_wp2_with (first
      | (go_at_call 16; (with_reducible refine (GC.out _).mono ?_); rintro e w1 ⟨rfl, rfl⟩))
    go_ret
    exact ⟨by rw [HF.out]; rfl, B1⟩
  have d0 : decide (bk < 128) = false := decide_eq_false t0
  by_cases t1 : 4096 < bk
  · have HF : Hid (D = false) := Lib.hid (hMay.out.trans (decide_eq_false fun h => inB_no (.inr t1) h.2.1))
    have d1 : decide (4096 < bk) = true := decide_eq_true t1
    clear hMay hwant
    go_enter Try.func12, Try.ntmps12
    go_wp2_with (first
      | (go_at_call 16; (with_reducible refine (GC.out _).mono ?_); rintro e w1 ⟨rfl, rfl⟩))
    go_ret
    exact ⟨by rw [HF.out]; rfl, B1⟩
  have d1 : decide (4096 < bk) = false := decide_eq_false t1
  by_cases t2 : ol < 0
  · have HF : Hid (D = false) := Lib.hid (hMay.out.trans (decide_eq_false fun h => inB_no (.inl t2) h.2.2.1))
    have d2 : decide (ol < 0) = true := decide_eq_true t2
    clear hMay hwant
    go_enter Try.func12, Try.ntmps12
    go_wp2_with (first
      | (go_at_call 16; (with_reducible refine (GC.out _).mono ?_); rintro e w1 ⟨rfl, rfl⟩))
    go_ret
    exact ⟨by rw [HF.out]; rfl, B1⟩
  have d2 : decide (ol < 0) = false := decide_eq_false t2
  by_cases t3 : 2147483647 < ol
  · have HF : Hid (D = false) := Lib.hid (hMay.out.trans (decide_eq_false fun h => inB_no (.inr t3) h.2.2.1))
    have d3 : decide (2147483647 < ol) = true := decide_eq_true t3
    clear hMay hwant
    go_enter Try.func12, Try.ntmps12
    go_wp2_with (first
      | (go_at_call 16; (with_reducible refine (GC.out _).mono ?_); rintro e w1 ⟨rfl, rfl⟩))
    go_ret
    exact ⟨by rw [HF.out]; rfl, B1⟩
  have d3 : decide (2147483647 < ol) = false := decide_eq_false t3
  by_cases t4 : nl < 0
  · have HF : Hid (D = false) := Lib.hid (hMay.out.trans (decide_eq_false fun h => inB_no (.inl t4) h.2.2.2.1))
    have d4 : decide (nl < 0) = true := decide_eq_true t4
    clear hMay hwant
    go_enter Try.func12, Try.ntmps12
    go_wp2_with (first
      | (go_at_call 16; (with_reducible refine (GC.out _).mono ?_); rintro e w1 ⟨rfl, rfl⟩))
    go_ret
    exact ⟨by rw [HF.out]; rfl, B1⟩
  have d4 : decide (nl < 0) = false := decide_eq_false t4
  by_cases t5 : 2147483647 < nl
  · have HF : Hid (D = false) := Lib.hid (hMay.out.trans (decide_eq_false fun h => inB_no (.inr t5) h.2.2.2.1))
    have d5 : decide (2147483647 < nl) = true := decide_eq_true t5
    clear hMay hwant
    go_enter Try.func12, Try.ntmps12
    go_wp2_with (first
      | (go_at_call 16; (with_reducible refine (GC.out _).mono ?_); rintro e w1 ⟨rfl, rfl⟩))
    go_ret
    exact ⟨by rw [HF.out]; rfl, B1⟩
  have d5 : decide (2147483647 < nl) = false := decide_eq_false t5
  by_cases hq : 4096 < q
  · have HF : Hid (D = false) := Lib.hid (hMay.out.trans (decide_eq_false fun h => by have := h.2.2.2.2.2.1; omega))
    have dq : decide (4096 < q) = true := decide_eq_true hq
    clear hMay hwant
    go_enter Try.func12, Try.ntmps12
    go_wp2_with (first
      | (go_at_call 16; (with_reducible refine (GC.out _).mono ?_); rintro e w1 ⟨rfl, rfl⟩))
    go_ret
    exact ⟨by rw [HF.out]; rfl, B1⟩
  have dq : decide (4096 < q) = false := decide_eq_false hq
  have h1 : inB 128 4096 bk = true := inB_of (by omega)
  have h2 : inB 0 2147483647 ol = true := inB_of (by omega)
  have h3 : inB 0 2147483647 nl = true := inB_of (by omega)
  obtain ⟨x, rfl⟩ : ∃ x : Nat, q = (x : Int) := ⟨q.toNat, by omega⟩
  rw [Int.toNat_natCast] at hwant
  have hx : x ≤ 4096 := by omega
  clear t0 t1 t2 t3 t4 t5 hq
  have B1' : Below w.heap.size w (w.alloc (.cells cs 27)) := B1
  by_cases m2 : md = 2
  · have e2 : (md == 2) = true := by rw [beq_iff_eq]; exact m2
    rw [if_pos m2] at hwant
    have HF : Hid (D = decide (OrderOk ord x)) := Lib.hid (hMay.out.trans (by rw [decide_eq_decide, hwant]; exact ⟨fun h => h.2.2.2.2.2.2, fun h => ⟨.inr (.inl m2), h1, h2, h3, fun h => by omega, by omega, h⟩⟩))
    clear hMay hwant h1 h2 h3
    by_cases hlen : ord.length = x
    · have dl : ((ord.length : Int) != (x : Int)) = false := by rw [hlen]; simp
      have dl' : ((x : Int) != (x : Int)) = false := by simp
      have HL := Lib.hid hlen
      clear hlen m2
      go_enter Try.func12, Try.ntmps12
      go_wp2_with (first
        | (go_at_call 16; (with_reducible refine (GC.out _).mono ?_); rintro e w1 ⟨rfl, rfl⟩))
      go_loop [4] (fun i => ∃ k : Nat, k ≤ x ∧ i = .int .i64 k ∧ (∀ j : Nat, j < k → ord.count (j : Int) = 1)) (fun i => x - (intOf i).toNat)
      case atStart => exact ⟨0, Nat.zero_le _, rfl, fun j hj => absurd hj (Nat.not_lt_zero j)⟩
      case round =>
        obtain ⟨k, hk, rfl, hall⟩ := hrel
        have HA := Lib.hid hall
        clear hall
        by_cases hlt : k < x
        · have k1 : decide ((k : Int) < (x : Int)) = true := decide_eq_true (by omega)
          have k2 : decide (k < x) = true := decide_eq_true hlt
          have GK := Lib.hid (fun W hB => GH.out (k : Int) W hB)
          have hcl : ord.count (k : Int) ≤ ord.length := List.count_le_length
          by_cases hc : ord.count (k : Int) = 1
          · have k3 : ((ord.count (k : Int) : Int) != 1) = false := by rw [hc]; rfl
            have HC := Lib.hid hc
            clear hc
            go_wp2_with (first | (go_at_call 32; (with_reducible refine (GK.out _ B1').mono ?_); rintro e w1 ⟨rfl, rfl⟩))
            go_round
            case rel =>
              refine ⟨k + 1, hlt, by go_num, fun j hj => ?_⟩
              rcases Nat.lt_or_ge j k with h | h
              · exact HA.out j h
              · rw [show j = k by omega]; exact HC.out
            case measure => simp [intOf] <;> omega
          · have k3 : ((ord.count (k : Int) : Int) != 1) = true := by rw [bne_iff_ne]; omega
            have HFF : Hid (D = false) := Lib.hid (HF.out.trans (decide_eq_false fun h => hc ((order_count ord x).1 h |>.2 k hlt)))
            clear hc HF
            go_wp2_with (first | (go_at_call 32; (with_reducible refine (GK.out _ B1').mono ?_); rintro e w1 ⟨rfl, rfl⟩))
            go_ret
            exact ⟨by rw [HFF.out]; rfl, B1⟩
        · obtain rfl : k = x := by omega
          have k1 : decide ((k : Int) < (k : Int)) = false := decide_eq_false (by omega)
          have k2 : decide (k < k) = false := decide_eq_false (by omega)
          have HFF : Hid (D = true) := Lib.hid (HF.out.trans (decide_eq_true ((order_count ord k).2 ⟨HL.out, HA.out⟩)))
          clear HF
          go_wp2_with fail
          go_ret
          exact ⟨by rw [HFF.out]; rfl, B1⟩
    · have dl : ((ord.length : Int) != (x : Int)) = true := by rw [bne_iff_ne]; omega
      have HFF : Hid (D = false) := Lib.hid (HF.out.trans (decide_eq_false fun h => hlen h.1))
      clear HF hlen m2
      go_enter Try.func12, Try.ntmps12
      go_wp2_with (first
        | (go_at_call 16; (with_reducible refine (GC.out _).mono ?_); rintro e w1 ⟨rfl, rfl⟩))
      go_ret
      exact ⟨by rw [HFF.out]; rfl, B1⟩
  · have e2 : (md == 2) = false := by rw [beq_eq_false_iff_ne]; exact m2
    rw [if_neg m2] at hwant
    by_cases hl0 : 0 < ord.length
    · have dl : decide ((0 : Int) < (ord.length : Int)) = true := decide_eq_true (by omega)
      have dl2 : decide (0 < ord.length) = true := decide_eq_true hl0
      have HFF : Hid (D = false) := Lib.hid (hMay.out.trans (decide_eq_false fun h => by have := h.2.2.2.2.2.2.1; omega))
      clear hMay hwant hl0 m2
      go_enter Try.func12, Try.ntmps12
      go_wp2_with (first
        | (go_at_call 16; (with_reducible refine (GC.out _).mono ?_); rintro e w1 ⟨rfl, rfl⟩))
      go_ret
      exact ⟨by rw [HFF.out]; rfl, B1⟩
    · have dl : decide ((0 : Int) < (ord.length : Int)) = false := decide_eq_false (by omega)
      have dl2 : decide (0 < ord.length) = false := decide_eq_false hl0
      obtain rfl : ord = [] := List.eq_nil_of_length_eq_zero (by omega)
      have hok : OrderOk ([] : List Int) wn := by rw [hwant]; exact ⟨rfl, by simp, List.nodup_nil⟩
      by_cases m3 : md = 3
      · have e3 : (md == 3) = true := by rw [beq_iff_eq]; exact m3
        have HF : Hid (D = decide (ol = 0 ∧ od = zero32)) := Lib.hid (hMay.out.trans (by rw [decide_eq_decide]; exact ⟨fun h => h.2.2.2.2.1 m3, fun h => ⟨.inr (.inr m3), h1, h2, h3, fun _ => h, by omega, hok⟩⟩))
        clear hMay hwant h1 h2 h3 hok m2 m3
        go_enter Try.func12, Try.ntmps12
        go_wp2_with (first
          | (go_at_call 16; (with_reducible refine (GC.out _).mono ?_); rintro e w1 ⟨rfl, rfl⟩))
        go_loop [66] (fun i => ∃ k : Nat, k ≤ 32 ∧ i = .int .i64 k ∧ (∀ j : Nat, j < k → od.getD j 0 = 0)) (fun i => 32 - (intOf i).toNat)
        case atStart => exact ⟨0, Nat.zero_le _, rfl, fun j hj => absurd hj (Nat.not_lt_zero j)⟩
        case round =>
          obtain ⟨k, hk, rfl, hall⟩ := hrel
          have HA := Lib.hid hall
          clear hall
          by_cases hlt : k < 32
          · have k1 : decide ((k : Int) < 32) = true := decide_eq_true (by omega)
            have k2 : decide (k < 32) = true := decide_eq_true hlt
            have k4 := HO5.out k hlt
            have k5 : (w.alloc (.cells cs 27)).cell? ⟨w.heap.size, 5 + k, none⟩ = some (.int .u8 (od.getD k 0)) := by
              rw [(Block.new w 27 cs).cell (5 + k)]; exact k4
            by_cases hc : od.getD k 0 = 0
            · have HC := Lib.hid hc
              rw [hc] at k4 k5
              clear hc
              go_wp2_with fail
              go_round
              case rel =>
                refine ⟨k + 1, hlt, by go_num, fun j hj => ?_⟩
                rcases Nat.lt_or_ge j k with h | h
                · exact HA.out j h
                · rw [show j = k by omega]; exact HC.out
              case measure => simp [intOf] <;> omega
            · have k3 : (od.getD k 0 != 0) = true := by rw [bne_iff_ne]; exact hc
              have HFF : Hid (D = false) := Lib.hid (HF.out.trans (decide_eq_false fun h => zero_not hlt hc h.2))
              clear hc HF
              generalize od.getD k 0 = z at *
              go_wp2_with fail
              go_ret
              exact ⟨by rw [HFF.out]; rfl, B1⟩
          · obtain rfl : k = 32 := by omega
            have k1 : decide ((32 : Int) < 32) = false := decide_eq_false (by omega)
            have hod : od = zero32 := zero_of HD.out HA.out
            by_cases hz : ol = 0
            · have k3 : (ol == 0) = true := by rw [hz]; rfl
              have HFF : Hid (D = true) := Lib.hid (HF.out.trans (decide_eq_true ⟨hz, hod⟩))
              clear HF hz hod
              go_wp2_with fail
              go_ret
              exact ⟨by rw [HFF.out]; first | rfl | simp [k3], B1⟩
            · have k3 : (ol == 0) = false := by rw [beq_eq_false_iff_ne]; exact hz
              have HFF : Hid (D = false) := Lib.hid (HF.out.trans (decide_eq_false fun h => hz h.1))
              clear HF hz hod
              go_wp2_with fail
              go_ret
              exact ⟨by rw [HFF.out]; first | rfl | simp [k3], B1⟩
      · have e3 : (md == 3) = false := by rw [beq_eq_false_iff_ne]; exact m3
        have HF : Hid (D = (md == 1)) := Lib.hid (hMay.out.trans (by
          rw [Bool.eq_iff_iff, decide_eq_true_iff, beq_iff_eq]
          exact ⟨fun h => by have := h.1; omega, fun h => ⟨.inl h, h1, h2, h3, fun h => absurd h m3, by omega, hok⟩⟩))
        clear hMay hwant h1 h2 h3 hok m2 m3
        go_enter Try.func12, Try.ntmps12
        go_wp2_with (first
          | (go_at_call 16; (with_reducible refine (GC.out _).mono ?_); rintro e w1 ⟨rfl, rfl⟩))
        go_ret
        exact ⟨by rw [HF.out]; rfl, B1⟩
end Go.Proofs.Ytpdofegmobbipaa.Mn
