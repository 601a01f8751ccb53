/-
  Layer 13, inflate: the document's Told and Inflate: contracts. Conditions: as each theorem names.
-/
import Derived.Test.YthflefdchgpbdaaDoorMGIces30
import Derived.Test.YthflefdchgpbdaaDoorMGIces25
import Derived.Test.YthflefdchgpbdaaDoorMBitN
import Derived.BigQuiet
import Derived.Test.YthflefdchgpbdaaDoorMInX
namespace Go.Proofs.YthflefdchgpbdaaDoor.Inf
open Go.ChangeShapes Go.WideShapes Go.ChangeAt Go.RowKit Go.Proofs.YthflefdchgpbdaaDoor.Kit Go.Proofs.YthflefdchgpbdaaDoor.Bits Go.Proofs.YthflefdchgpbdaaDoor.Huf Go.Proofs.YthflefdchgpbdaaDoor.Df

/-- A text, with its capacity, and an error. -/
def TextC (P : List Int → Int → Prop) (w : World) (e : Ending) (w' : World) : Prop :=
  ∃ A c out e0, e = .returned (.tuple #[.slice A (List.length out) c, .int .i64 e0]) ∧ Holds w' w'.heap.size .u8 A out ∧ Below w.heap.size w w' ∧ P out e0 ∧ out.length ≤ c ∧ c ≤ maxLen
theorem TextC.to {P : List Int → Int → Prop} {w w' : World} {e : Ending} (h : TextC P w e w') : TextTo P w e w' := by
  obtain ⟨A, c, out, e0, h1, h2, h3, h4, _⟩ := h
  exact ⟨A, c, out, e0, h1, h2, h3, h4⟩
/-- Told at work. -/
structure Tq (w W : World) (AL : Option Addr) (bits : List Int) (cL : Nat) (M : Int) (g6 : Nat) (d : DS) (A9 : Option Addr) (c9 : Nat) : Prop where
  b : Below w.heap.size w W
  x : Block W g6 43 #[.slice AL bits.length cL, .int .i64 (d.p : Int), .slice A9 d.out.length c9, .int .i64 M, .int .i64 d.e]
  o : Own W 0 5 .u8 (.slice A9 d.out.length c9) d.out
  v : ∀ g, (Value.slice A9 d.out.length c9).ownBlock = some g → w.heap.size ≤ g
  h : Holds W W.heap.size .u8 AL bits
  f : Far (.slice A9 d.out.length c9) AL bits
  g : w.heap.size ≤ g6
  q : 0 < bits.length → ∀ a, AL = some a → a.block ≠ g6
theorem Tq.below {w W W' : World} {AL : Option Addr} {bits : List Int} {cL : Nat} {M : Int} {g6 : Nat} {d : DS} {A9 : Option Addr} {c9 : Nat} (h : Tq w W AL bits cL M g6 d A9 c9) (hb : Below W.heap.size W W') : Tq w W' AL bits cL M g6 d A9 c9 :=
  ⟨h.b.trans (hb.mono h.b.size), h.x.below hb h.x.lt, h.o.below hb, h.v, (h.h.below hb).more hb.size, h.f, h.g, h.q⟩
/-- The box alone turned: no more was told. -/
theorem Tq.set {w W W' : World} {AL : Option Addr} {bits : List Int} {cL : Nat} {M : Int} {g6 : Nat} {d d' : DS} {A9 : Option Addr} {c9 : Nat} (h : Tq w W AL bits cL M g6 d A9 c9) (g : W.grownBy W' (some g6)) (ho : d'.out = d.out) (hx : Block W' g6 43 #[.slice AL bits.length cL, .int .i64 (d'.p : Int), .slice A9 d'.out.length c9, .int .i64 M, .int .i64 d'.e]) : Tq w W' AL bits cL M g6 d' A9 c9 := by
  have hg := h.g
  refine ⟨h.b.trans (below_of_grown g h.b.size (fun x hx => by injection hx with hx; omega)), hx, ?_, by rw [ho]; exact h.v, ?_, by rw [ho]; exact h.f, hg, h.q⟩
  · rw [ho]; exact h.o.kept g (.inr (h.o.ne_block h.x (by decide)))
  · exact Holds.turn h.h (S := fun b => b = g6) (.ofGrown g fun b e => by injection e with e; exact e.symm) (fun hl a ha => h.q hl a ha)
/-- A block told more; its answer went through a box of its own. -/
theorem Tq.next {w W W1 W2 W3 : World} {AL : Option Addr} {bits : List Int} {cL : Nat} {M : Int} {g6 : Nat} {d d' : DS} {A9 A' : Option Addr} {c9 c' : Nat} {ob : Obj} (h : Tq w W AL bits cL M g6 d A9 c9)
    (o : Own W1 0 5 .u8 (.slice A' d'.out.length c') d'.out) (t : TurnsIn (fun b => (Value.slice A9 d.out.length c9).ownBlock = some b) W W1) (n : Newer W (.slice A9 d.out.length c9) (.slice A' d'.out.length c'))
    (g2 : (W1.alloc ob).grownBy W2 (some W1.heap.size)) (g3 : W2.grownBy W3 (some g6)) (hx : Block W3 g6 43 #[.slice AL bits.length cL, .int .i64 (d'.p : Int), .slice A' d'.out.length c', .int .i64 M, .int .i64 d'.e]) : Tq w W3 AL bits cL M g6 d' A' c' := by
  have hg := h.g
  have hx1 := h.o.ne_block h.x (by decide)
  have x1 := h.x.out t hx1
  have hl := h.x.lt
  have ts := t.size
  have b1 : Below w.heap.size w W1 := h.b.trans (t.toBelow h.b.size (fun b hb e => by have := h.v b e; omega))
  have b2 : Below w.heap.size w W2 := (b1.alloc b1.size ob).trans (below_of_grown g2 (b1.alloc b1.size ob).size (fun x hx => by injection hx with hx; have := b1.size; omega))
  have b3 : Below w.heap.size w W3 := b2.trans (below_of_grown g3 b2.size (fun x hx => by injection hx with hx; omega))
  have hn := o.ne_block x1 (by decide)
  have o2 : Own W2 0 5 .u8 (.slice A' d'.out.length c') d'.out := (o.alloc ob).kept g2 (.inr (fun e => by have := (o.lt _ e).2; omega))
  have h1 : Holds W1 W1.heap.size .u8 AL bits := Holds.turn h.h t (fun hl a ha => h.f hl a ha)
  have h1a : Holds (W1.alloc ob) (W1.alloc ob).heap.size .u8 AL bits := (h1.below ((Below.refl _ _).alloc (Nat.le_refl _) _)).more (by simp)
  have h2 : Holds W2 W2.heap.size .u8 AL bits := Holds.turn h1a (S := fun b => b = W1.heap.size) (.ofGrown g2 fun b e => by injection e with e; exact e.symm) (fun hl a ha c => by
    have := holds_lt h1 hl a ha
    omega)
  refine ⟨b3, hx, o2.kept g3 (.inr hn), fun g e => ?_, ?_, Far.newer h.f n h.h, hg, h.q⟩
  · rcases n with k | k
    · rw [k] at e; exact h.v g e
    · have := k g e; have := h.b.size; omega
  · exact Holds.turn h2 (S := fun b => b = g6) (.ofGrown g3 fun b e => by injection e with e; exact e.symm) (fun hl a ha => h.q hl a ha)
def perr (g : Nat) (W : World) : Int := intOf ((W.cell? ⟨g, 4, none⟩).getD (.int .i64 0))
theorem Tq.err {w W : World} {AL : Option Addr} {bits : List Int} {cL : Nat} {M : Int} {g6 : Nat} {d : DS} {A9 : Option Addr} {c9 : Nat} (h : Tq w W AL bits cL M g6 d A9 c9) : perr g6 W = d.e ∧ placeAt g6 W = d.p := by
  have h4 := h.x.cell 4
  have h1 := h.x.cell 1
  unfold perr placeAt
  rw [h4, h1]
  exact ⟨rfl, rfl⟩
/-- Between blocks, or at the end. -/
def TellOr (M : Int) (bits : List Int) (d : DS) : Prop := d.p ≤ bits.length ∧ ((d.e = 0 ∧ TellAt M bits St.new d) ∨ (d.e ≠ 0 ∧ TellEnd M bits St.new d))
set_option maxRecDepth 100000 in
set_option maxHeartbeats 6400000 in
theorem rtold_cap (A : Option Addr) (bs : List Int) (c : Nat) (most : Int) (w : World) (ho : Octets bs) (hl : bs.length ≤ 1000) (hm : most ≤ 1000000) (hr : Holds w w.heap.size .u8 A bs) :
    Calls Tryd.prog 10 #[.slice A bs.length c, .int .i64 most] w (TextC (Tells (most0 most) bs) w) := by
  obtain ⟨M, hM⟩ : ∃ M, most0 most = M := ⟨_, rfl⟩
  have hMb := most0_bd hm
  rw [hM] at hMb ⊢
  have hmx : (if (0 : Int) < most then most else 0) = M := by rw [← hM]; unfold most0; split <;> split <;> omega
  have hmx2 : max most 0 = M := by rw [← hM]; unfold most0; split <;> omega
  have hmx3 : (if most < (0 : Int) then 0 else most) = M := by rw [← hM]; rfl
  have GO := Lib.hid (of_any A bs c w (by omega) ho hr)
  unfold GivesRow at GO
  have h8 := bits8 bs
  have hB := bitsOf_bit bs
  have hbl : (bitsOf bs).length ≤ 100000 := by rw [bitsOf_length]; omega
  have H8 := Lib.hid h8
  have HB := Lib.hid hB
  have HBL := Lib.hid hbl
  have HM := Lib.hid hMb
  clear hM hr ho h8 hB hbl hMb
  go_enter Tryd.func10, Tryd.ntmps10
  go_upto_block 0 with (have _t := GO; go_at_call 15; refine GO.out.mono ?_; rintro e w1 ⟨v1, rfl, o1, b1⟩; obtain ⟨AL, cL, rfl, hc, hcm, h1⟩ := o1.opened; have ol1 := o1.lt; clear _t GO)
  have g6w := b1.size
  have J0 : Tq w (w1.alloc (.cells #[.slice AL (bitsOf bs).length cL, .int .i64 0, .slice none 0 0, .int .i64 M, .int .i64 0] 43)) AL (bitsOf bs) cL M w1.heap.size ⟨0, [], 0⟩ none 0 := ⟨b1.alloc g6w _, Block.new w1 _ _, Own.nil _ _ _ _, fun g e => by simp [Value.ownBlock] at e, (h1.below ((Below.refl _ _).alloc (Nat.le_refl _) _)).more (by simp), fun _ a _ e => by simp [Value.ownBlock] at e, g6w, fun hl a ha e => by have := holds_lt h1 hl a ha; omega⟩
  have HCL := Lib.hid hc
  clear o1 h1 ol1 hc hcm b1
  generalize (World.alloc w1 (.cells #[.slice AL (bitsOf bs).length cL, .int .i64 0, .slice none 0 0, .int .i64 M, .int .i64 0] 43)) = w2 at *
  generalize w1.heap.size = g6 at *
  go_cut [7] from 7 to 23 (fun _ wx => ∃ (d : DS) (A9 : Option Addr) (c9 : Nat), TellEnd M (bitsOf bs) St.new d ∧ d.p ≤ (bitsOf bs).length ∧ Tq w wx AL (bitsOf bs) cL M g6 d A9 c9)
  case first =>
    go_wp2_with fail
    go_loopw [7] (fun _ wr => ∃ (d : DS) (A9 : Option Addr) (c9 : Nat), TellOr M (bitsOf bs) d ∧ Tq w wr AL (bitsOf bs) cL M g6 d A9 c9) (fun _ wr => if perr g6 wr = 0 then (bitsOf bs).length + 1 - placeAt g6 wr else 0)
    case atStart => exact ⟨⟨0, [], 0⟩, none, 0, ⟨Nat.zero_le _, .inl ⟨rfl, tells_begin⟩⟩, J0⟩
    case round =>
      clear J0
      obtain ⟨d, A9, c9, Y, J⟩ := hrel
      have k4 : wr.cell? ⟨g6, 4, none⟩ = some (.int .i64 d.e) := J.x.cell 4
      have HER := Lib.hid J.err
      rcases Y with ⟨hp, ⟨he, Y⟩ | ⟨he, Y⟩⟩
      · obtain ⟨s, R, h0, hou, _, _⟩ := Y
        have hso := R.ok HB.out H8.out (Nat.zero_le _) (new_ok M HM.out.1)
        have GB := Lib.hid (block_all AL (bitsOf bs) cL A9 c9 M s d wr h0 hou hso.1 he hp H8.out HM.out J.o HB.out HBL.out HCL.out J.h J.f)
        have GB := Lib.hid (by have := GB.out; rw [he] at this; exact this)
        have HNX := Lib.hid (fun (bl : Bool) (d2 : DS) (B : BlockTo M (bitsOf bs) s d.p bl d2) => tell_next R B)
        have HHE := Lib.hid he
        have HP := Lib.hid hp
        have k5 := k4
        rw [he] at k5
        clear he k4 R h0 hou hp hso
        go_upto_region 3 with fail
        clear k5
        go_upto_region 4 with (first
          | (have _t := J; refine wpList_load_midV (o := ⟨some 18, _, _, _, _, _⟩) (by rfl) _ _ rfl (g6) 0 rfl [.slice AL (bitsOf bs).length cL, .int .i64 (d.p : Int), .slice A9 d.out.length c9, .int .i64 M, .int .i64 d.e] (block_range (L := [.slice AL (bitsOf bs).length cL, .int .i64 (d.p : Int), .slice A9 d.out.length c9, .int .i64 M, .int .i64 d.e]) J.x) Tryd.underlying43 rfl (by kernel_rfl) ?_; clear _t)
          | (have _t := GB; go_at_call 16; refine GB.out.mono ?_; rintro e w3 ⟨bl, d2, A5, c5, rfl, BT, o5, t5, n5, pr⟩; have lt5 := J.x.lt; have ts5 := t5.size; have X6 := J.x.out t5 (J.o.ne_block J.x (by decide)); clear _t GB)
          | (have _t := X6; refine wpList_store_blk rfl _ _ _ rfl (ds := [.slice AL (bitsOf bs).length cL, .int .i64 (d2.p : Int), .slice A5 d2.out.length c5, .int .i64 M, .int .i64 d2.e]) (Block.new w3 43 #[.slice none 0 0, .int .i64 0, .slice none 0 0, .int .i64 0, .int .i64 0]) rfl rfl rfl (by kernel_rfl) (by intro u hu; simp only [List.mem_cons, List.not_mem_nil, or_false] at hu; rcases hu with rfl | rfl | rfl | rfl | rfl <;> rfl) ?_; clear _t; intro w4 X9 g9; have X5 := X9; have g5 := g9; have X7 := (X6.alloc (.cells #[.slice none 0 0, .int .i64 0, .slice none 0 0, .int .i64 0, .int .i64 0] 43)).grown g9 (by intro h; injection h with h; omega); clear X9 g9 X6))
        try simp only [Act.put]
        go_upto_region 5 with (first
          | (have _t := X5; refine wpList_load_midV (o := ⟨some 22, _, _, _, _, _⟩) (by rfl) _ _ rfl (w3.heap.size) 0 rfl [.slice AL (bitsOf bs).length cL, .int .i64 (d2.p : Int), .slice A5 d2.out.length c5, .int .i64 M, .int .i64 d2.e] (block_range (L := [.slice AL (bitsOf bs).length cL, .int .i64 (d2.p : Int), .slice A5 d2.out.length c5, .int .i64 M, .int .i64 d2.e]) X5) Tryd.underlying43 rfl (by kernel_rfl) ?_; clear _t)
          | (have _t := X5; refine wpList_store_blk rfl _ _ _ rfl (ds := [.slice AL (bitsOf bs).length cL, .int .i64 (d2.p : Int), .slice A5 d2.out.length c5, .int .i64 M, .int .i64 d2.e]) X7 rfl rfl rfl (by kernel_rfl) (by intro u hu; simp only [List.mem_cons, List.not_mem_nil, or_false] at hu; rcases hu with rfl | rfl | rfl | rfl | rfl <;> rfl) ?_; clear _t; intro w5 X9 g9; have J2 := J.next o5 t5 n5 g5 g9 X9; clear X9 g9 X5 X7 o5 t5 n5 g5 J))
        try simp only [Act.put]
        have HPR := Lib.hid pr
        have HBT := Lib.hid (HNX.out bl d2 BT)
        have hq2 : d2.p ≤ (bitsOf bs).length := by obtain ⟨_, _, _, _, z, _⟩ := BT; exact z
        clear pr BT HNX
        cases bl
        case true =>
          have TE := Lib.hid (show TellEnd M (bitsOf bs) St.new d2 from by by_cases c : d2.e = 0; exact HBT.out.2.1 c rfl; exact HBT.out.2.2 c)
          go_wp2_with fail
          go_meet
          exact ⟨d2, A5, c5, TE.out, hq2, J2⟩
        case false =>
          have TO := Lib.hid (show TellOr M (bitsOf bs) d2 from by by_cases c : d2.e = 0; exact ⟨hq2, .inl ⟨c, HBT.out.1 c rfl⟩⟩; exact ⟨hq2, .inr ⟨c, HBT.out.2.2 c⟩⟩)
          have MEA : Hid ((if perr g6 w5 = 0 then (bitsOf bs).length + 1 - placeAt g6 w5 else 0) < (if perr g6 wr = 0 then (bitsOf bs).length + 1 - placeAt g6 wr else 0)) := Lib.hid (by have h1 := HHE.out; have h2 := HP.out; rw [HER.out.1, HER.out.2, if_pos h1, J2.err.1, J2.err.2]; split; have := HPR.out (by assumption); omega; omega)
          go_wp2_with fail
          go_roundw
          all_goals first | exact ⟨⟨d2, A5, c5, TO.out, J2⟩, MEA.out⟩ | exact ⟨d2, A5, c5, TO.out, J2⟩ | exact MEA.out
      · have z : (d.e == 0) = false := by rw [beq_eq_false_iff_ne]; exact he
        clear he
        go_wp2_with fail
        go_meet
        exact ⟨d, A9, c9, Y, hp, J⟩
  case rest =>
    obtain ⟨d, A9, c9, Y, hpd, J⟩ := hcut
    clear J0
    have YT := TellEnd.tells Y
    have e8 : decide ((d.p + 7) / 8 * 8 < (bitsOf bs).length) = decide (((d.p : Int) + 7) / 8 * 8 < ((bitsOf bs).length : Int)) := decide_eq_decide.2 (by omega)
    obtain ⟨d2, h2⟩ : ∃ d2, failD (decide ((d.p + 7) / 8 * 8 < (bitsOf bs).length)) 3 d = d2 := ⟨_, rfl⟩
    have q2 := failD_le (decide ((d.p + 7) / 8 * 8 < (bitsOf bs).length)) 3 d
    rw [h2] at YT q2
    have hpl : d.p ≤ 1000000 := Nat.le_trans hpd (Nat.le_trans HBL.out (by decide))
    have GW := Lib.hid (fun W => (whole_any (d.p : Int) W (by omega)).mono (fun e w9 h => (show e = _ ∧ w9 = W from ⟨h.1, h.2.symm⟩)))
    have GF := Lib.hid (fun W (is : Bool) (hi : is = decide ((d.p + 7) / 8 * 8 < (bitsOf bs).length)) => by
      have := refuse_lit AL (bitsOf bs) cL A9 d.out.length c9 M d W is 3
      have e2 : failD is 3 d = d2 := by { rw [hi]; exact h2 }
      rw [e2] at this
      exact this)
    have HE8 := Lib.hid e8
    have HY := Lib.hid YT
    have Q2 := Lib.hid q2
    clear e8 YT q2 h2 Y hpl hpd
    go_upto_region 6 with fail
    have hbd : Below wc.heap.size wc wc.drew := below_draws (Below.refl _ _) 1
    have JD := J.below hbd
    have k1 : wc.drew.cell? ⟨g6, 1, none⟩ = some (.int .i64 (d.p : Int)) := JD.x.cell 1
    have k0 : wc.drew.cell? ⟨g6, 0, none⟩ = some (.slice AL (bitsOf bs).length cL) := JD.x.cell 0
    refine wp_region_still_tail 8 (by kernel_rfl) (by kernel_rfl) ?_
    simp only [List.take_succ_cons, List.take_zero, List.drop_succ_cons, List.drop_zero]
    refine wpStill_step (fun K9 hK9 => ?_)
    refine still_load_row9 (by rfl) 43 _ (by rfl) g6 0 (by rfl) [.slice AL (bitsOf bs).length cL, .int .i64 (d.p : Int), .slice A9 d.out.length c9, .int .i64 M, .int .i64 d.e] _ (by exact block_range (L := [.slice AL (bitsOf bs).length cL, .int .i64 (d.p : Int), .slice A9 d.out.length c9, .int .i64 M, .int .i64 d.e]) JD.x) Tryd.underlying43 (by rfl) (by kernel_rfl) ?_
    refine hK9 _ ?_
    clear hK9 K9
    try simp only [Act.put, List.setIfInBounds_toArray, List.set_cons_zero, List.set_cons_succ]
    still_step
    still_step
    still_call (GW.out _)
    still_step
    still_step
    still_step
    still_step
    refine wpStill_nil ?_
    change wpList _ _ _ _ _ wc.drew
    clear k1 k0 J hbd
    generalize wc.drew = wd at *
    go_upto_region 7 with (first
      | (have _t := JD; go_at_call 17; refine (GF.out _ _ (by rw [HE8.out])).mono ?_; rintro e w6 ⟨rfl, hbx⟩; have J6 := JD.below hbx; clear _t JD hbx)
      | (have _t := J6; refine wpList_store_blk rfl _ _ _ rfl (ds := [.slice AL (bitsOf bs).length cL, .int .i64 (d2.p : Int), .slice A9 d.out.length c9, .int .i64 M, .int .i64 d2.e]) J6.x rfl rfl rfl (by kernel_rfl) (by intro u hu; simp only [List.mem_cons, List.not_mem_nil, or_false] at hu; rcases hu with rfl | rfl | rfl | rfl | rfl <;> rfl) ?_; clear _t; intro w7 X9 g9; have J7 := J6.set (d' := { d2 with out := d.out }) g9 rfl X9; clear X9 g9 J6))
    try simp only [Act.put]
    have E2 : Hid (({ d2 with out := d.out } : DS) = d2) := Lib.hid (by rw [← Q2.out.2])
    have k2 : ∀ n, (w7.drewN n).cell? ⟨g6, 2, none⟩ = some (.slice A9 d.out.length c9) := fun n => (J7.x.drewN n).cell 2
    have k4 : ∀ n, (w7.drewN n).cell? ⟨g6, 4, none⟩ = some (.int .i64 d2.e) := fun n => (J7.x.drewN n).cell 4
    have FIN : ∀ n, TextC (Tells M bs) w (.returned (.tuple #[.slice A9 d.out.length c9, .int .i64 d2.e])) (w7.drewN n) := fun n => by
      have hbe : Below w7.heap.size w7 (w7.drewN n) := below_draws (Below.refl _ _) n
      have JE := J7.below hbe
      obtain ⟨A8, c8, e, hcc, hcm, H⟩ := JE.o.opened
      injection e with e1 e2 e3
      subst e1 e3
      exact ⟨A9, c9, d.out, d2.e, rfl, H, JE.b, HY.out, hcc, hcm⟩
    have HF := Lib.hid FIN
    have k21 := k2 1
    have k41 := k4 1
    clear FIN
    go_wp2_with fail
    go_quiet (fail)
    go_wp2_with fail
    go_ret2
    exact HF.out _

theorem rtold_any (A : Option Addr) (bs : List Int) (c : Nat) (most : Int) (w : World) (ho : Octets bs) (hl : bs.length ≤ 1000) (hm : most ≤ 1000000) (hr : Holds w w.heap.size .u8 A bs) :
    Calls Tryd.prog 10 #[.slice A bs.length c, .int .i64 most] w (TextTo (Tells (most0 most) bs) w) := (rtold_cap A bs c most w ho hl hm hr).mono (fun _ _ h => h.to)
/-- The document's Inflate. -/
theorem rinflate_any (A : Option Addr) (bs : List Int) (c : Nat) (most : Int) (w : World) (ho : Octets bs) (hl : bs.length ≤ 1000) (hm : most ≤ 1000000) (hr : Holds w w.heap.size .u8 A bs) :
    Calls Tryd.prog 7 #[.slice A bs.length c, .int .i64 most] w (TextTo (fun out e0 => ∃ o, Tells (most0 most) bs o e0 ∧ out = if e0 = 0 then o else []) w) := rinflate_of _ A bs.length c most w (rtold_any A bs c most w ho hl hm hr)
end Go.Proofs.YthflefdchgpbdaaDoor.Inf
