/-
  ParcelNil: the walk: a nil parser reads nothing.
-/
import Derived.Test.YtoegioeioohidaaPcE
namespace Go.Proofs.Ytoegioeioohidaa.ParcelNil
open Go.ChangeShapes Go.WideShapes Go.ChangeAt Go.RowKit Go.Proofs.Ytoegioeioohidaa.Kit Go.Proofs.Ytoegioeioohidaa.Bits Go.Proofs.Ytoegioeioohidaa.Pc

set_option maxRecDepth 100000 in
set_option maxHeartbeats 12800000 in
theorem walk (A : Option Addr) (xs : List Int) (c : Nat) (k : Int) (w : World) (_hc : xs.length ≤ c) (hm : c ≤ maxLen) (_ho : Octets xs) (_hr : Holds w w.heap.size .u8 A xs) (_hk : (Lit.int .i64 k).wf = true) :
    Calls Try.prog 3 #[.slice A xs.length c, .int .i64 k] w fun e w' => e = .returned (.bool true) ∧ Below w.heap.size w w' := by
  unfold maxLen at hm
  by_cases h1 : 500 < xs.length
  · have d1 : decide ((500 : Int) < (xs.length : Int)) = true := decide_eq_true (by omega)
    have d2 : decide (500 < xs.length) = true := decide_eq_true h1
    go_enter Try.func3, Try.ntmps3
    go_wp2_with (go_at_call 4; refine (awake_any _).mono ?_; rintro e w1 ⟨rfl, hb1⟩)
    go_ret
    exact ⟨rfl, hb1⟩
  have d1 : decide ((500 : Int) < (xs.length : Int)) = false := decide_eq_false (by omega)
  have d2 : decide (500 < xs.length) = false := decide_eq_false h1
  obtain ⟨cs, hl, hone, hzv⟩ := zero_man
  have HH := Lib.hid (fun W => header_nil cs hl hone hzv W)
  unfold HeadTo at HH
  have HI : Hid ((Try.prog.info? 33).map (·.size) = some cs.length) := Lib.hid (by rw [hl]; kernel_rfl)
  have H1 := Lib.hid hone
  clear hl hone
  go_enter Try.func3, Try.ntmps3
  go_upto_region 6 with (first
    | (go_at_call 5; refine (feed_nil _ _).mono ?_; rintro e w1 ⟨rfl, hw⟩; obtain rfl := hw.symm)
    | (go_at_call 6; refine (next_nil _).mono ?_; rintro e w1 ⟨rfl, hw⟩; obtain rfl := hw.symm))
  go_upto_region 7 with (first
    | (go_at_call 7; refine (HH.out _).mono ?_; rintro e w2 ⟨rfl, b2⟩)
    | (have _t := b2; refine wpList_store_blk rfl _ _ _ rfl (ds := cs) (Block.new w2 33 cs.toArray) rfl rfl (by simp) HI.out H1.out ?_; clear _t; intro w3 X3 g3))
  have b3 : Below w.heap.size w w3 := (b2.alloc b2.size _).trans (below_of_grown g3 (b2.alloc b2.size _).size (fun x hx => by injection hx with hx; have := b2.size; omega))
  have HB3 := Lib.hid b3
  clear b2 g3 X3 b3 HH HI H1 hzv
  have GC := chunk_nil
  have GS := same_nil
  unfold chunk0 at GC GS
  have HGC := Lib.hid GC
  have HGS := Lib.hid GS
  clear GC GS
  go_upto_region 8 with (go_at_call 8; refine (HGC.out _).mono ?_; rintro e w4 ⟨rfl, b4⟩; have HB4 := Lib.hid (HB3.out.trans (b4.mono HB3.out.size)); clear b4)
  have X := Block.new w4 38 #[.int .i64 0, .slice none 0 0, .slice none 0 0]
  have HB5 := Lib.hid (HB4.out.alloc HB4.out.size (.cells #[.int .i64 0, .slice none 0 0, .slice none 0 0] 38))
  clear HB3 HB4
  obtain ⟨g4, hg4⟩ : ∃ g, w4.heap.size = g := ⟨_, rfl⟩
  rw [hg4] at X
  try rw [hg4]
  clear hg4
  generalize w4.alloc (.cells #[.int .i64 0, .slice none 0 0, .slice none 0 0] 38) = w5 at *
  go_wp2_with (first
    | (go_at_call 9; refine (ready_nil _).mono ?_; rintro e w6 ⟨rfl, hw⟩; obtain rfl := hw.symm)
    | (go_at_call 10; refine (done_nil _).mono ?_; rintro e w7 ⟨rfl, b7⟩; have X7 := X.below b7 X.lt; have HB7 := Lib.hid (HB5.out.trans (b7.mono HB5.out.size)); have q0 := X7.cell 0; have q1 := X7.cell 1; have q2 := X7.cell 2; clear b7)
    | (go_at_call 11; refine (held_nil _).mono ?_; rintro e w8 ⟨rfl, hw⟩; obtain rfl := hw.symm)
    | (go_at_call 12; refine (skip_nil _ _).mono ?_; rintro e w9 ⟨rfl, hw⟩; obtain rfl := hw.symm)
    | (have _t := HB7; go_at_call 13; refine (HGS.out _).mono ?_; rintro e w10 ⟨rfl, b10⟩; have HB10 := Lib.hid (HB7.out.trans (b10.mono HB7.out.size)); clear _t b10)
    | (have _t := HB10; go_at_call 4; refine (awake_any _).mono ?_; rintro e w11 ⟨rfl, b11⟩; have HB11 := Lib.hid (HB10.out.trans (b11.mono HB10.out.size)); clear _t))
  go_ret
  exact ⟨rfl, HB11.out⟩
end Go.Proofs.Ytoegioeioohidaa.ParcelNil
