/-
  HuffReads: the walk: the symbols that stand in any bytes, up to the first error, are the document's.
-/
import Derived.Test.YtnmdjlnhocbhlaaHufU
import Derived.Test.YtnmdjlnhocbhlaaHufQ
import Derived.Test.YtnmdjlnhocbhlaaWHuffCodes
namespace Go.Proofs.Ytnmdjlnhocbhlaa.HuffReads
open Go.ChangeShapes Go.WideShapes Go.ChangeAt Go.RowKit Go.Proofs.Ytnmdjlnhocbhlaa.Kit Go.Proofs.Ytnmdjlnhocbhlaa.Bits Go.Proofs.Ytnmdjlnhocbhlaa.Huf

theorem _root_.Go.Proofs.Ytnmdjlnhocbhlaa.Huf.Tb.below {w w' : World} {B g : Nat} {v : Value} {l : List Int} {n : Nat} {ss : List Int} (h : Tb w B g v l n ss) (hb : Below w.heap.size w w') : Tb w' B g v l n ss := ⟨h.blk.below hb h.blk.lt, h.own.below hb⟩
theorem _root_.Go.Proofs.Ytnmdjlnhocbhlaa.Kit.Own.holds {w : World} {B : Nat} {e : TypeId} {k : IntKind} {A : Option Addr} {n c : Nat} {xs : List Int} (h : Own w B e k (.slice A n c) xs) : Holds w w.heap.size k A xs := by
  obtain ⟨A', c', he, _, _, hh⟩ := h.opened
  injection he with h1 h2 h3
  rw [h1]
  exact hh

/-- What stands from the q-th element on, as a slice has it. -/
theorem holds_from {w : World} {B : Nat} {k : IntKind} {A : Option Addr} {c q : Nat} {xs : List Int} (h : Holds w B k A xs) (hc : xs.length ≤ c) : Holds w B k (if c = q then A else A.map fun x => x.add q) (xs.drop q) := by
  intro hx
  rw [List.length_drop] at hx
  obtain ⟨b, off, rfl, hb, hcs⟩ := h (by omega)
  rw [if_neg (by omega)]
  refine ⟨b, off + q, by simp only [Option.map_some, Addr.add]; split <;> simp_all, hb, fun j hj => ?_⟩
  rw [List.length_drop] at hj
  rw [Nat.add_assoc, hcs (q + j) (by omega)]
  simp [List.getD]

set_option maxRecDepth 100000 in
set_option maxHeartbeats 3200000 in
theorem asleep (A : Option Addr) (l : List Int) (c : Nat) (A2 : Option Addr) (bs : List Int) (c2 : Nat) (from_ : Int) (w : World) (hc : l.length ≤ c) (hm : c ≤ maxLen) (ho : Octets l) (hr : Holds w w.heap.size .u8 A l)
    (hno : 300 < l.length ∨ 200 < bs.length ∨ mayB l = false) :
    Calls Try.prog 4 #[.slice A l.length c, .slice A2 bs.length c2, .int .i64 from_] w fun e w' => e = .returned (.bool true) ∧ Below w.heap.size w w' := by
  have g3 := rmay_any A l c w ho hc hm hr
  by_cases h1 : 300 < l.length
  · have d1 : decide ((300 : Int) < (l.length : Int)) = true := decide_eq_true (by omega)
    clear g3 hno
    go_enter Try.func4, Try.ntmps4
    go_wp2_with fail
    refine (awake9_any _).mono ?_
    rintro e w1 ⟨rfl, hb⟩
    go_wp2_with fail
    go_ret
    exact ⟨rfl, hb⟩
  · have d1 : decide ((300 : Int) < (l.length : Int)) = false := decide_eq_false (by omega)
    by_cases h2 : 200 < bs.length
    · have d2 : decide ((200 : Int) < (bs.length : Int)) = true := decide_eq_true (by omega)
      clear g3 hno
      go_enter Try.func4, Try.ntmps4
      go_wp2_with fail
      refine (awake9_any _).mono ?_
      rintro e w1 ⟨rfl, hb⟩
      go_wp2_with fail
      go_ret
      exact ⟨rfl, hb⟩
    · have d2 : decide ((200 : Int) < (bs.length : Int)) = false := decide_eq_false (by omega)
      rw [show mayB l = false by rcases hno with h | h | h <;> first | exact h | omega] at g3
      have G := Lib.hid g3
      clear g3 hno
      go_enter Try.func4, Try.ntmps4
      go_wp2_with (go_at_call 10; refine G.out.mono ?_; rintro e w1 ⟨rfl, rfl⟩)
      refine (awake9_any _).mono ?_
      rintro e w1 ⟨rfl, hb⟩
      go_wp2_with fail
      go_ret
      exact ⟨rfl, hb⟩

set_option maxRecDepth 100000 in
set_option maxHeartbeats 6400000 in
theorem reads (A : Option Addr) (l : List Int) (c : Nat) (A2 : Option Addr) (bs : List Int) (c2 : Nat) (from_ : Int) (w : World) (hc : l.length ≤ c) (hm : c ≤ maxLen) (ho : Octets l) (hr : Holds w w.heap.size .u8 A l)
    (hob : Octets bs) (hr2 : Holds w w.heap.size .u8 A2 bs) (h300 : l.length ≤ 300) (h200 : bs.length ≤ 200) (hM : mayB l = true) :
    Calls Try.prog 4 #[.slice A l.length c, .slice A2 bs.length c2, .int .i64 from_] w fun e w' => e = .returned (.bool true) ∧ Below w.heap.size w w' := by
  have d1 : decide ((300 : Int) < (l.length : Int)) = false := decide_eq_false (by omega)
  have d2 : decide ((200 : Int) < (bs.length : Int)) = false := decide_eq_false (by omega)
  have g3 := rmay_any A l c w ho hc hm hr
  rw [hM] at g3
  have G := Lib.hid g3
  have HM := Lib.hid hM
  have h15 := (may_yes hM).2
  clear g3 hM
  go_enter Try.func4, Try.ntmps4
  go_wp2_with (go_at_call 10; refine G.out.mono ?_; rintro e w0 ⟨rfl, rfl⟩)
  refine (new_yes A l c w ho hc hm hr HM.out).mono ?_
  rintro e w1 ⟨gt, vt, rfl, hgt, tb1, b1⟩
  go_wp2_with fail
  refine (newr_any A2 bs c2 w1 (by omega) ((hr2.below b1).more b1.size)).mono ?_
  rintro e w2 ⟨g, v, rfl, hg, R2, b2⟩
  have b12 := b1.trans (b2.mono b1.size)
  go_wp2_with fail
  refine (of_any A2 bs c2 w2 (by omega) hob ((hr2.below b12).more b12.size)).mono ?_
  rintro e w3 ⟨v3, rfl, own3, b3⟩
  have b13 := b12.trans (b3.mono b12.size)
  go_wp2_with fail
  refine (rcodes_any A l c w3 ho h300 h15 ((hr.below b13).more b13.size)).mono ?_
  rintro e w4 ⟨v4, rfl, own4, b4⟩
  have b14 := b13.trans (b4.mono b13.size)
  have R4 := (R2.below b3).below b4
  have tb4 := ((tb1.below b2).below b3).below b4
  have own3' := own3.below b4
  go_wp2_with fail
  have hgs := b2.size
  have hgw := b1.size
  have hg2 := R2.blk.lt
  have hg3 := b3.size
  have hgt2 := tb1.blk.lt
  have hvt := tb1.own.lt
  have hne : gt ≠ g := by omega
  have hvg : ∀ b, vt.ownBlock = some b → ¬ b = g := fun b hb he => by have := hvt b hb; omega
  obtain ⟨A3, c3, rfl, hc3, hm3, _⟩ := own3'.opened
  obtain ⟨A4, c4, rfl, _, _, _⟩ := own4.opened
  have hv3 : ∀ b, (Value.slice A3 (bitsOf bs).length c3).ownBlock = some b → ¬ b = g := fun b hb he => by have := own3.lt b hb; omega
  have hv4 : ∀ b, (Value.slice A4 (codes l).length c4).ownBlock = some b → ¬ b = g := fun b hb he => by have := own4.lt b hb; omega
  have hB4 := b14.size
  clear hgs hgt2 hvt R2 tb1 own3 hr2 b1 b2 b3 b4 b12 b13
  rw [codes_length]
  by_cases hf : from_ < 0 ∨ 8 * (bs.length : Int) < from_
  case' pos =>
    go_wp2_with fail
    refine (seek_no _ g v bs 0 from_ w4 R4 (by omega) hf).mono ?_
    rintro e w5 ⟨rfl, rfl⟩
    have R5 := R4
    have t5 := TurnsIn.refl (· = g) w4
    obtain ⟨p, hp⟩ : ∃ p : Nat, p = 0 := ⟨0, rfl⟩
    rw [← hp] at R5
  case' neg =>
    obtain ⟨p, rfl⟩ := Int.eq_ofNat_of_zero_le (show 0 ≤ from_ by omega)
    go_wp2_with fail
    refine (seek_yes _ g v bs 0 p w4 R4 (by omega) (by omega)).mono ?_
    rintro e w5 ⟨rfl, R5, t5⟩
  all_goals
    go_wp2_with fail
    clear hf
    go_loopw [12, 13] (fun xa s wr => ∃ (i q : Nat), i ≤ 60 ∧ s = .int .i64 i ∧ xa = .int .i64 q ∧ Rd wr w1.heap.size g v bs q ∧ TurnsIn (· = g) w4 wr) (fun _ s _ => 60 - (intOf s).toNat)
    case atStart => exact ⟨0, p, by omega, rfl, by first | rfl | (rw [hp]; rfl), R5, t5⟩
    case round =>
      obtain ⟨i, q, hi, rfl, rfl, R, t⟩ := hrel
      have hbr : Below w.heap.size w wr := b14.trans (t.toBelow hB4 (fun b hb he => by omega))
      by_cases hlt : i < 60
      · have d5 : decide ((i : Int) < 60) = true := decide_eq_true (by omega)
        have Gn := next_any _ g gt _ v vt bs l q wr h300 HM.out ho R hob (by omega) (tb4.out t hne hvg)
        have hR : Right l ((bitsOf bs).drop q) (told l ((bitsOf bs).drop q)) := told_right HM.out ho _ (fun x hx => bitsOf_bit bs x (List.mem_of_mem_drop hx))
        go_wp2_with fail
        refine Gn.mono ?_
        rintro e w6 ⟨t6, h6⟩
        have b6 : Below w.heap.size w w6 := b14.trans ((t.trans t6).toBelow hB4 (fun b hb he => by omega))
        have Gr := rnext_any A A4 (if c3 = q then A3 else A3.map fun x => x.add q) l ((bitsOf bs).drop q) c c4 (c3 - q) w6 HM.out ho h300 (fun x hx => bitsOf_bit bs x (List.mem_of_mem_drop hx)) (by rw [List.length_drop, bitsOf_length]; omega)
          ((hr.below b6).more b6.size) ((own4.out (t.trans t6) hv4).holds) (holds_from (own3'.out (t.trans t6) hv3).holds hc3)
        rw [List.length_drop] at Gr
        have hq2 : q ≤ (bitsOf bs).length := by have := R.le; rw [bitsOf_length]; exact this
        have hb8 : (bitsOf bs).length ≤ 1600 := by rw [bitsOf_length]; omega
        have Gr' := Lib.hid Gr
        have HR := Lib.hid R
        clear Gr Gn hR R
        generalize told l ((bitsOf bs).drop q) = D at *
        by_cases hcq : c3 = q
        case' pos =>
          subst hcq
          have Gr := Gr'.out
          rw [if_pos rfl, Nat.sub_self, show (bitsOf bs).length - c3 = 0 by omega] at Gr
        case' neg =>
          have Gr := Gr'.out
          rw [if_neg hcq] at Gr
        all_goals
          have Hr := Lib.hid Gr
          clear Gr Gr'
          cases D with
          | sym s n =>
            obtain ⟨rfl, R6⟩ := h6
            have R6' := R6.le
            go_wp2_with fail
            have Gr := Hr.out
            simp only [toldV] at Gr
            refine Gr.mono ?_
            rintro e w7 ⟨rfl, b7⟩
            clear Gr Hr
            have R7 := R6.below b7
            have HR := Lib.hid R7
            have HT := Lib.hid (t.trans t6)
            clear R6 t t6 tb4 own3' own4 hvg hv3 hv4
            go_wp2_with fail
            refine (at_any _ g v bs _ w7 HR.out).mono ?_
            rintro e w8 ⟨rfl, rfl⟩
            go_wp2_with fail
            go_roundw
            case rel => first | exact ⟨i + 1, q + n, by omega, by go_num, by go_num, HR.out, HT.out.trans (TurnsIn.ofNew b7)⟩ | exact ⟨i + 1, c3 + n, by omega, by go_num, by go_num, HR.out, HT.out.trans (TurnsIn.ofNew b7)⟩
            case measure => simp [intOf] <;> omega
          | short =>
            obtain ⟨rfl, R6⟩ := h6
            go_wp2_with fail
            have Gr := Hr.out
            simp only [toldV] at Gr
            refine Gr.mono ?_
            rintro e w7 ⟨rfl, b7⟩
            clear Gr Hr
            have HR := Lib.hid (R6.below b7)
            have hb7 := b6.trans (b7.mono b6.size)
            clear R6 t t6 tb4 own3' own4 hvg hv3 hv4
            go_wp2_with fail
            refine (at_any _ g v bs _ w7 HR.out).mono ?_
            rintro e w8 ⟨rfl, rfl⟩
            go_wp2_with fail
            refine (awake9_any _).mono ?_
            rintro e w8 ⟨rfl, b8⟩
            go_wp2_with fail
            go_ret
            exact ⟨rfl, hb7.trans (b8.mono hb7.size)⟩
          | form =>
            obtain ⟨rfl, R6⟩ := h6
            go_wp2_with fail
            have Gr := Hr.out
            simp only [toldV] at Gr
            refine Gr.mono ?_
            rintro e w7 ⟨rfl, b7⟩
            clear Gr Hr
            have HR := Lib.hid (R6.below b7)
            have hb7 := b6.trans (b7.mono b6.size)
            clear R6 t t6 tb4 own3' own4 hvg hv3 hv4
            go_wp2_with fail
            refine (at_any _ g v bs _ w7 HR.out).mono ?_
            rintro e w8 ⟨rfl, rfl⟩
            go_wp2_with fail
            refine (awake9_any _).mono ?_
            rintro e w8 ⟨rfl, b8⟩
            go_wp2_with fail
            go_ret
            exact ⟨rfl, hb7.trans (b8.mono hb7.size)⟩
      · have d5 : decide ((i : Int) < 60) = false := decide_eq_false (by omega)
        clear R t tb4 own3' own4 hvg hv3 hv4
        go_wp2_with fail
        refine (awake9_any _).mono ?_
        rintro e w8 ⟨rfl, b8⟩
        go_wp2_with fail
        go_ret
        exact ⟨rfl, hbr.trans (b8.mono hbr.size)⟩

theorem walk (A : Option Addr) (l : List Int) (c : Nat) (A2 : Option Addr) (bs : List Int) (c2 : Nat) (n : Int) (w : World) (hc : l.length ≤ c) (hm : c ≤ maxLen) (ho : Octets l) (hr : Holds w w.heap.size .u8 A l)
    (_ : bs.length ≤ c2) (_ : c2 ≤ maxLen) (hob : Octets bs) (hr2 : Holds w w.heap.size .u8 A2 bs) (_ : (Lit.int IntKind.i64 n).wf = true) :
    Calls Try.prog 4 #[.slice A l.length c, .slice A2 bs.length c2, .int .i64 n] w fun e w' => e = .returned (.bool true) ∧ Below w.heap.size w w' := by
  by_cases h1 : 300 < l.length
  · exact asleep A l c A2 bs c2 n w hc hm ho hr (.inl h1)
  by_cases h2 : 200 < bs.length
  · exact asleep A l c A2 bs c2 n w hc hm ho hr (.inr (.inl h2))
  cases hM : mayB l with
  | false => exact asleep A l c A2 bs c2 n w hc hm ho hr (.inr (.inr hM))
  | true => exact reads A l c A2 bs c2 n w hc hm ho hr hob hr2 (by omega) (by omega) hM
end Go.Proofs.Ytnmdjlnhocbhlaa.HuffReads
