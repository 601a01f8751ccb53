/-
  Layer 13, inflate: a dynamic block's lengths: the program's contract. Conditions: the table of turns holds what the program's text lays; and as each theorem names.
-/
import Derived.Test.YthflefdchgpbdaaDoorMInH
import Derived.Test.YthflefdchgpbdaaDoorMDfS
namespace Go.Proofs.YthflefdchgpbdaaDoor.Inf
open Go.ChangeShapes Go.WideShapes Go.ChangeAt Go.RowKit Go.Proofs.YthflefdchgpbdaaDoor.Kit Go.Proofs.YthflefdchgpbdaaDoor.Bits Go.Proofs.YthflefdchgpbdaaDoor.Huf Go.Proofs.YthflefdchgpbdaaDoor.Df

def dyn7 (a : Int) (l : List Int) : G (List Int × List Int) := bindG (refG (!mayB (l.take (a + 257).toNat) || !mayB (l.drop (a + 257).toNat)) 11) fun _ => pureG (l.take (a + 257).toNat, l.drop (a + 257).toNat)
def dyn5 (a d : Int) (t : List Int) : G (List Int × List Int) := bindG (refG (!mayB t) 11) fun _ => bindG (rowG t (a + d + 258).toNat 320 []) fun l => dyn7 a l
def dyn3 (a d c : Int) : G (List Int × List Int) := bindG (refG (decide (286 < a + 257) || decide (30 < d + 1)) 11) fun _ => bindG (hdrG (min (c + 4).toNat 19) 0 (List.replicate 19 0)) fun t => dyn5 a d t
theorem dyn_is : dynG = bindG (numG 5) fun a => bindG (numG 5) fun d => bindG (numG 4) fun c => dyn3 a d c := rfl
theorem dyn3_yes {a d c : Int} (h : a + 257 ≤ 286 ∧ d + 1 ≤ 30) (hc : 0 ≤ c ∧ c < 16) (b : List Int) (p : Nat) : dyn3 a d c b p = bindG (hdrG (c + 4).toNat 0 (List.replicate 19 0)) (fun t => dyn5 a d t) b p := by
  unfold dyn3
  rw [decide_eq_false (by omega), decide_eq_false (by omega), Nat.min_eq_left (by omega)]
  exact bindG_ok _ (refG_no 11 b p)
theorem dyn3_no {a d c : Int} (h : ¬ (a + 257 ≤ 286 ∧ d + 1 ≤ 30)) (b : List Int) (p : Nat) : dyn3 a d c b p = .bad 11 := by
  unfold dyn3
  have : (decide (286 < a + 257) || decide (30 < d + 1)) = true := by
    rw [Bool.or_eq_true, decide_eq_true_eq, decide_eq_true_eq]
    omega
  rw [this]
  exact bindG_bad _ (refG_yes 11 b p)
theorem turns_lt : ∀ i, i < 19 → 0 ≤ turnsL.getD i 0 ∧ turnsL.getD i 0 < 19 := by decide
theorem laid_far {S : Nat → Prop} {g : Nat} {l : List Int} {w w' : World} (h : Laid g l w) (hl : 0 < l.length) (t : TurnsIn S w w') (hg : ¬ S g) : Laid g l w' := fun k hk =>
  (World.cell?_of_block (w := w) (a := ⟨g, k, none⟩) (t.block g (World.block_lt_of_cell? _ _ (h 0 hl)) hg)).trans (h k hk)
theorem laid_ne {gl g : Nat} {l : List Int} {w : World} (h : Laid gl l w) (hl : 0 < l.length) {B : Nat} {v : Value} {bs : List Int} {p : Nat} (R : Rd w B g v bs p) : gl ≠ g := by
  intro e
  subst e
  have h0 := (h 0 hl).symm.trans (R.blk.cell 0)
  obtain ⟨A, c, rfl, _⟩ := R.own.opened
  simp at h0
def DynTo (B g : Nat) (v : Value) (bs : List Int) (r : Res (List Int × List Int)) (w : World) (e : Ending) (w' : World) : Prop :=
  TurnsIn (· = g) w w' ∧ match r with
  | .miss => e = missingE ∧ ∃ q, Rd w' B g v bs q
  | .bad why => e = brokenE why ∧ ∃ q, Rd w' B g v bs q
  | .ok l q => Rd w' B g v bs q ∧ ∃ x y, e = .returned (.tuple #[.slice (some ⟨x, 0, none⟩) l.1.length l.1.length, .slice (some ⟨y, 0, none⟩) l.2.length l.2.length]) ∧ Own w' w.heap.size 5 .u8 (.slice (some ⟨x, 0, none⟩) l.1.length l.1.length) l.1 ∧ Own w' w.heap.size 5 .u8 (.slice (some ⟨y, 0, none⟩) l.2.length l.2.length) l.2
theorem DynTo.miss {B g : Nat} {v : Value} {bs : List Int} {r : Res (List Int × List Int)} {w w' : World} {q : Nat} (h : r = .miss) (t : TurnsIn (· = g) w w') (R : Rd w' B g v bs q) : DynTo B g v bs r w missingE w' := by
  subst h
  exact ⟨t, rfl, q, R⟩
theorem DynTo.bad {B g : Nat} {v : Value} {bs : List Int} {r : Res (List Int × List Int)} {w w' : World} {q : Nat} {why : Int} (h : r = .bad why) (t : TurnsIn (· = g) w w') (R : Rd w' B g v bs q) : DynTo B g v bs r w (brokenE why) w' := by
  subst h
  exact ⟨t, rfl, q, R⟩
theorem val_lt (b : List Int) (hb : Bit b) (p n : Nat) (h : p + n ≤ b.length) : 0 ≤ val ((b.drop p).take n) ∧ val ((b.drop p).take n) < 2 ^ n := by
  have := val_bd ((hb.drop p).take n)
  rwa [List.length_take, List.length_drop, Nat.min_eq_left (by omega)] at this

theorem holds_from8 {w : World} {B : Nat} {k : IntKind} {A : Option Addr} {c q : Nat} {xs : List Int} (h : Holds w B k A xs) (hc : xs.length ≤ c) : Holds w B k (if c = q then A else A.map fun x => x.add q) (xs.drop q) := by
  intro hx
  rw [List.length_drop] at hx
  obtain ⟨b, off, rfl, hb, hcs⟩ := h (by omega)
  rw [if_neg (by omega)]
  refine ⟨b, off + q, by simp only [Option.map_some, Addr.add]; split <;> simp_all, hb, fun j hj => ?_⟩
  rw [List.length_drop] at hj
  rw [Nat.add_assoc, hcs (q + j) (by omega)]
  simp [List.getD]
theorem own_open {w : World} {B : Nat} {e : TypeId} {k : IntKind} {A : Option Addr} {n c : Nat} {xs : List Int} (h : Own w B e k (.slice A n c) xs) : ∃ (A' : Option Addr) (c' : Nat), Value.slice A n c = .slice A' xs.length c' ∧ xs.length ≤ c' ∧ c' ≤ maxLen ∧ Holds w w.heap.size k A xs := by
  obtain ⟨A', c', e, h1, h2, h3⟩ := h.opened
  refine ⟨A', c', e, h1, h2, ?_⟩
  injection e with e1
  rw [e1]
  exact h3
/-- copy(v, ys), ys no shorter than v. -/
theorem wpList_copy_over {w : World} {ops : Array Oper} {rest : List Oper} {o : Oper} {a : Act} {Q : Exit → Act → World → Prop} (hgd : o.guard = none) (d s : Operand) (t : TypeId)
    (ho : o.op = .call { callee := .builtin .copy, args := #[d, s], argTypes := #[t, t] }) {e : TypeId} {k : IntKind} {bytes : Nat} (he : IntElem Tryd.prog t e k bytes)
    {B B' : Nat} {v : Value} {xs ys : List Int} (hown : Own w B e k v xs) (hpos : 0 < xs.length) (hd : a.eval d = v) {A : Option Addr} {c : Nat} (hs : a.eval s = .slice A ys.length c) (hr : Holds w B' k A ys)
    (hle : xs.length ≤ ys.length) (hbase : B ≤ w.heap.size)
    (h : ∀ w', Own w' B e k v (ys.take xs.length) → w.grownBy w' v.ownBlock → Below B w w' → wpList Tryd.prog ops Q rest (a.put o.dst (goInt (ys.take xs.length).length)) w') :
    wpList Tryd.prog ops Q (o :: rest) a w := by
  obtain ⟨ht, hinfo, hb8⟩ := he
  obtain ⟨i, hi, hz, hsi, hby⟩ := info_parts hinfo
  have hsz : (Tryd.prog.info? e).map (·.size) = some 1 := by rw [hi]; simp [hsi]
  obtain ⟨b, off, rfl, hb, hc⟩ := hr (by omega)
  have htl : (ys.take xs.length).length = xs.length := by rw [List.length_take]; omega
  rcases hown.2 with ⟨rfl, h1⟩ | ⟨g, cap, cur, rfl, hbg, hg, hnc, hcm, hcs, htake⟩
  · omega
  · refine wpList_copy_own hgd d s t t ho e ht hsz g 0 xs.length cap ⟨b, off, none⟩ ys.length c hd hs cur e hg ((ys.take xs.length).map (Value.int k)) ?_ ?_ ?_ (ints_one k _) ?_
    · rw [List.length_map, htl]
      exact (Nat.min_eq_right hle).symm
    · intro j u hu
      obtain ⟨hj, rfl⟩ := get_ints hu
      rw [add_plain, List.getD_eq_getElem?_getD, List.getElem?_take, if_pos (by omega), ← List.getD_eq_getElem?_getD]
      exact hc j (by omega)
    · rw [List.length_map, htl]
      omega
    · have hgrown : w.grownBy (w.setRow g (cur.toList.take 0 ++ (((ys.take xs.length).map (Value.int k)) ++ cur.toList.drop (0 + ((ys.take xs.length).map (Value.int k)).length))).toArray) (some g) :=
        ⟨rfl, rfl, rfl, by simp [World.setRow], fun j _ hj => setRow_other w g j _ (fun e => hj (by rw [e]))⟩
      rw [show goInt ((ys.take xs.length).map (Value.int k)).length = goInt (ys.take xs.length).length by rw [List.length_map]]
      refine h _ ?_ hgrown (below_of_grown hgrown hbase fun g' hg' => by simp at hg'; omega)
      refine ⟨by simp, .inr ⟨g, cap, _, by rw [htl], hbg, setRow_heap w g _ _ e _ hg, by omega, hcm, ?_, ?_⟩⟩
      · simp; omega
      · simp only [List.take_zero, List.nil_append, Nat.zero_add, List.length_map, Nat.mul_one]
        rw [List.take_append_of_le_length (by rw [List.length_map, htl]; omega), List.take_of_length_le (by rw [List.length_map, htl]; omega)]

set_option maxRecDepth 100000 in
set_option maxHeartbeats 12800000 in
theorem dynamic_any (B g gp : Nat) (v u1 u2 : Value) (bs : List Int) (p : Nat) (w : World) (hp : Block w gp 76 #[.pointer (some ⟨g, 0, none⟩), u1, u2]) (R : Rd w B g v bs p) (hob : Octets bs) (hbl : bs.length ≤ 1000000) (hL : Laid 0 turnsL w) :
    Calls Tryd.prog 46 #[.pointer (some ⟨gp, 0, none⟩)] w (DynTo B g v bs (dynG (bitsOf bs) p) w) := by
  have hgN := R.blk.lt
  have hvN : ∀ b, v.ownBlock = some b → b < w.heap.size := fun b hb => (R.own.lt b hb).2
  have hgp : gp ≠ g := Block.ne_of hp R.blk (by decide)
  have hgL : 0 ≠ g := laid_ne hL (by decide) R
  have HP := Lib.hid hp
  have HVN := Lib.hid hvN
  have HL := Lib.hid hL
  have HGL := Lib.hid hgL
  have HB := Lib.hid (bitsOf_bit bs)
  obtain ⟨r, hr⟩ : ∃ r, dynG (bitsOf bs) p = r := ⟨_, rfl⟩
  rw [hr]
  rw [dyn_is] at hr
  have HR := Lib.hid hr.symm
  have GN := Lib.hid (fun W => refuse_no 11 W)
  have GY := Lib.hid (fun W => refuse_yes 11 W)
  unfold brokenE at GY
  clear hr hp hvN hL hgL
  by_cases hq1 : p + 5 ≤ (bitsOf bs).length
  · have GM := Lib.hid (number_yes 5 w HP.out R hob hbl (by omega) hq1)
    have hv1 := val_lt (bitsOf bs) HB.out (p) 5 hq1
    have HR1 := Lib.hid (HR.out.trans (bindG_ok _ (numG_yes hq1)))
    clear hq1
    generalize val (((bitsOf bs).drop (p)).take 5) = a at *
    rw [show (2 : Int) ^ 5 = 32 by decide] at hv1
    go_enter Tryd.func46, Tryd.ntmps46
    go_upto_region 2 with (fail)
    refine GM.out.mono ?_
    rintro e w1 ⟨t1, rfl, R1⟩
    have hp1 := (HP.out).out t1 hgp
    have T1 := Lib.hid (t1)
    have HP1 := Lib.hid hp1
    have R1h := Lib.hid R1
    clear hp1 GM t1 R1
    by_cases hq2 : p + 5 + 5 ≤ (bitsOf bs).length
    · have GM := Lib.hid (number_yes 5 w1 HP1.out R1h.out hob hbl (by omega) hq2)
      have hv2 := val_lt (bitsOf bs) HB.out (p + 5) 5 hq2
      have HR2 := Lib.hid (HR1.out.trans (bindG_ok _ (numG_yes hq2)))
      clear hq2
      generalize val (((bitsOf bs).drop (p + 5)).take 5) = d at *
      rw [show (2 : Int) ^ 5 = 32 by decide] at hv2
      go_upto_region 3 with (fail)
      refine GM.out.mono ?_
      rintro e w2 ⟨t2, rfl, R2⟩
      have hp2 := (HP1.out).out t2 hgp
      have T2 := Lib.hid (T1.out.trans t2)
      have HP2 := Lib.hid hp2
      have R2h := Lib.hid R2
      clear hp2 GM t2 R2
      by_cases hq3 : p + 5 + 5 + 4 ≤ (bitsOf bs).length
      · have GM := Lib.hid (number_yes 4 w2 HP2.out R2h.out hob hbl (by omega) hq3)
        have hv3 := val_lt (bitsOf bs) HB.out (p + 5 + 5) 4 hq3
        have HR3 := Lib.hid (HR2.out.trans (bindG_ok _ (numG_yes hq3)))
        clear hq3
        generalize val (((bitsOf bs).drop (p + 5 + 5)).take 4) = c at *
        rw [show (2 : Int) ^ 4 = 16 by decide] at hv3
        go_upto_region 4 with (fail)
        refine GM.out.mono ?_
        rintro e w3 ⟨t3, rfl, R3⟩
        have hp3 := (HP2.out).out t3 hgp
        have T3 := Lib.hid (T2.out.trans t3)
        have HP3 := Lib.hid hp3
        have R3h := Lib.hid R3
        clear hp3 GM t3 R3

        by_cases hc : a + 257 ≤ 286 ∧ d + 1 ≤ 30
        · have HE := Lib.hid (HR3.out.trans (dyn3_yes hc ⟨hv3.1, hv3.2⟩ _ _))
          have d1 : decide (286 < a + 257) = false := decide_eq_false (by omega)
          have d2 : decide (30 < d + 1) = false := decide_eq_false (by omega)
          obtain ⟨n0, hn0⟩ : ∃ n0 : Nat, c + 4 = (n0 : Int) := ⟨(c + 4).toNat, by omega⟩
          have hn19 : n0 ≤ 19 := by omega
          rw [hn0, Int.toNat_natCast] at HE
          have hcw : IntKind.i64.wrap (c + 4) = (n0 : Int) := by rw [IntKind.wrap_i64]; omega
          obtain ⟨ma, hma⟩ : ∃ ma : Nat, a + 257 = (ma : Int) := ⟨(a + 257).toNat, by omega⟩
          obtain ⟨md, hmd⟩ : ∃ md : Nat, d + 1 = (md : Int) := ⟨(d + 1).toNat, by omega⟩
          have haw : IntKind.i64.wrap (a + 257) = (ma : Int) := by rw [IntKind.wrap_i64]; omega
          have hdw : IntKind.i64.wrap (d + 1) = (md : Int) := by rw [IntKind.wrap_i64]; omega
          have hmab : 257 ≤ ma ∧ ma ≤ 286 := by omega
          have hmdb : 1 ≤ md ∧ md ≤ 30 := by omega
          have HMA := Lib.hid hma
          have HMD := Lib.hid hmd
          have e1 : decide ((286 : Int) < (ma : Int)) = false := decide_eq_false (by omega)
          have e2 : decide ((30 : Int) < (md : Int)) = false := decide_eq_false (by omega)
          have e3 : decide (286 < ma) = false := decide_eq_false (by omega)
          have e4 : decide (30 < md) = false := decide_eq_false (by omega)
          clear hc hv3 HR3 hn0
          rw [HMA.out, HMD.out] 
          go_wp2_with fail
          refine (GN.out _).mono ?_
          rintro e w5 ⟨rfl, hw5⟩
          have hw5' := hw5.symm
          clear hw5
          subst hw5'
          obtain ⟨N, hN⟩ : ∃ N, w.heap.size = N := ⟨_, rfl⟩
          have hszN : N ≤ w3.heap.size := by have := T3.out.size; omega
          go_wp2_with (at_make; refine wpList_make_ints _ rfl _ _ _ rfl elem8 19 19 rfl rfl rfl rfl (Nat.le_refl _) (by omega) ?_; intro w6 O6 b6 s6)
          have T6 := Lib.hid (T3.out.trans (TurnsIn.ofNew b6))
          have HP6 := Lib.hid (HP3.out.below b6 HP3.out.lt)
          have R6h := Lib.hid (R3h.out.below b6)
          obtain ⟨gl, hgl⟩ : ∃ gl, w3.heap.size = gl := ⟨_, rfl⟩
          rw [hgl] at O6 s6
          rw [hgl]
          have O6h := Lib.hid O6
          have hglN : N ≤ gl := by omega
          clear O6 b6
          go_loopw [32] (fun s wr => ∃ (i q : Nat) (acc : List Int), i ≤ n0 ∧ s = .int .i64 i ∧ Own wr gl 5 .u8 (.slice (some ⟨gl, 0, none⟩) 19 19) acc ∧ acc.length = 19 ∧ Octets acc ∧ Rd wr B g v bs q ∧ TurnsIn (· = g) w wr ∧ gl < wr.heap.size ∧ Hid (bindG (hdrG (n0 - i) i acc) (fun t => dyn5 a d t) (bitsOf bs) q = r)) (fun s _ => n0 - (intOf s).toNat)
          case atStart => exact ⟨0, _, List.replicate 19 0, Nat.zero_le _, rfl, O6h.out, List.length_replicate .., Octets.replicate (by omega) 19, R6h.out, T6.out, s6, Lib.hid HE.out.symm⟩
          case round =>
            obtain ⟨i, q, acc, hi, rfl, own, hacc, hoa, R7, t7, hgz, hG⟩ := hrel
            have OW := Lib.hid own
            have HACC := Lib.hid hacc
            have HOA := Lib.hid hoa
            have R7h := Lib.hid R7
            have T7 := Lib.hid t7
            have HP7 := Lib.hid (HP.out.out t7 hgp)
            have HL7 := Lib.hid (laid_far HL.out (by decide) t7 HGL.out)
            clear own hacc hoa R7 t7 R
            by_cases hlt : i < n0
            · have d5 : decide ((i : Int) < (n0 : Int)) = true := decide_eq_true (by omega)
              have d6 : decide (i < n0) = true := decide_eq_true hlt
              obtain ⟨f, hf⟩ : ∃ f, n0 - i = f + 1 := ⟨n0 - i - 1, by omega⟩
              rw [hf] at hG
              have hG1 := hG.out
              rw [hdrG] at hG1
              have hG2 : bindG (numG 3) (fun v => bindG (hdrG f (i + 1) (acc.set (turnsL.getD i 0).toNat v)) (fun t => dyn5 a d t)) (bitsOf bs) q = r := by
                rw [← hG1]
                by_cases hx : q + 3 ≤ (bitsOf bs).length
                · rw [bindG_ok _ (numG_yes hx)]
                  unfold bindG
                  rw [numG_yes hx]
                · rw [bindG_miss _ (numG_no hx), bindG_miss _ (bindG_miss _ (numG_no hx))]
              have HG := Lib.hid hG2
              have htl := turns_lt i (by omega)
              have y0 : wr.cell? ⟨0, i, none⟩ = some (.int .i64 (turnsL.getD i 0)) := HL7.out i (by show i < 19; omega)
              obtain ⟨t, ht⟩ : ∃ t : Nat, turnsL.getD i 0 = (t : Int) := ⟨(turnsL.getD i 0).toNat, by omega⟩
              rw [ht, Int.toNat_natCast] at HG
              rw [ht] at y0
              have ht19 : t < 19 := by omega
              have hgg : gl ≠ g := fun he => OW.out.ne_block R7h.out.blk (by decide) (by rw [← he]; rfl)
              have Y0 := Lib.hid y0
              have hi19 : (i : Int) < 19 := by omega
              have hi0 : (0 : Int) ≤ (i : Int) := by omega
              have ht0 : (0 : Int) ≤ (t : Int) := by omega
              have htI : (t : Int) < 19 := by omega
              have HF := Lib.hid hf
              have HLT := Lib.hid hlt
              clear hG hG1 hG2 htl ht y0 hf hlt
              by_cases hx : q + 3 ≤ (bitsOf bs).length
              · have GM := Lib.hid (number_yes 3 wr.drew (HP7.out.drewN 1) ⟨R7h.out.blk.drewN 1, R7h.out.own.drewN 1, R7h.out.le⟩ hob hbl (by omega) hx)
                have hv7 := val_lt (bitsOf bs) HB.out q 3 hx
                have HG8 := Lib.hid (HG.out.symm.trans (bindG_ok _ (numG_yes hx)))
                clear hx
                generalize val (((bitsOf bs).drop q).take 3) = x at *
                rw [show (2 : Int) ^ 3 = 8 by decide] at hv7
                have hxw : IntKind.u8.wrap x = x := by rw [IntKind.wrap_u8]; omega
                have hk := OW.out.cellAt HACC.out.symm (i := t) (by rw [HACC.out]; omega)
                have HK := Lib.hid hk
                clear hk
                go_wp2_with fail
                refine wp_region_held_drew (S := (fun W' : World => W'.cell? ⟨0, i, none⟩ = some (.int .i64 (t : Int)))) (by kernel_rfl) Y0.out (fun hS => ?_)
                refine wpAnyH_take (i := 0) (oi := ⟨some 35, _, _, _, _, _⟩) (v := .slice (some ⟨gl, 0, none⟩) 19 19) rfl (by kernel_rfl) (by kernel_rfl) (by kernel_rfl) (fun _ _ _ h => h) (Or.inl ⟨by rfl, fun W hW => by go_simp⟩) hS ?_
                try simp only [Act.put, List.setIfInBounds_toArray, List.set_cons_zero, List.set_cons_succ]
                refine wpAnyH_take (i := 1) (oi := ⟨some 36, _, _, _, _, _⟩) (v := .int .i64 (i : Int)) rfl (by kernel_rfl) (by kernel_rfl) (by kernel_rfl) (fun _ _ _ h => h) (Or.inl ⟨by rfl, fun W hW => by go_simp⟩) hS ?_
                try simp only [Act.put, List.setIfInBounds_toArray, List.set_cons_zero, List.set_cons_succ]
                refine wpAnyH_take (i := 4) (oi := ⟨some 39, _, _, _, _, _⟩) (v := .pointer (some ⟨gp, 0, none⟩)) rfl (by kernel_rfl) (by kernel_rfl) (by kernel_rfl) (fun _ _ _ h => h) (Or.inl ⟨by rfl, fun W hW => by go_simp⟩) hS ?_
                try simp only [Act.put, List.setIfInBounds_toArray, List.set_cons_zero, List.set_cons_succ]
                refine wpAnyH_take (i := 2) (oi := ⟨some 37, _, _, _, _, _⟩) (v := .pointer (some ⟨0, i, none⟩)) rfl (by kernel_rfl) (by kernel_rfl) (by kernel_rfl) (fun _ _ _ h => h) (Or.inl ⟨by rfl, fun W hW => by go_simp⟩) hS ?_
                try simp only [Act.put, List.setIfInBounds_toArray, List.set_cons_zero, List.set_cons_succ]
                refine wpAnyH_take (i := 3) (oi := ⟨some 38, _, _, _, _, _⟩) (v := .int .i64 (t : Int)) rfl (by kernel_rfl) (by kernel_rfl) (by kernel_rfl) (fun _ _ _ h => h) (Or.inl ⟨by rfl, fun W hW => by have k1 : W.cell? ⟨0, i, none⟩ = some (.int .i64 (t : Int)) := hW; go_simp⟩) hS ?_
                try simp only [Act.put, List.setIfInBounds_toArray, List.set_cons_zero, List.set_cons_succ]
                refine wpAnyH_ready (rs := [5]) (by kernel_rfl) (by simp) ?_
                refine AllReadyH.cons rfl (fun K hK => ?_) AllReadyH.nil
                go_simp
                go_at_call 43
                refine GM.out.mono ?_
                rintro e w8 ⟨t8d, rfl, R8⟩
                have t8 : TurnsIn (· = g) wr w8 := ⟨t8d.os, t8d.tape, t8d.output, t8d.size, t8d.block⟩
                have k8 : w8.cell? ⟨0, i, none⟩ = some (.int .i64 (t : Int)) := (World.cell?_of_block (w := wr) (a := ⟨0, i, none⟩) (t8.block _ (World.block_lt_of_cell? _ _ Y0.out) HGL.out)).trans Y0.out
                have o8 := OW.out.out t8 (fun b hb he => hgg (by rw [← he]; exact Option.some.inj hb))
                have kk8 := o8.cellAt HACC.out.symm (i := t) (by rw [HACC.out]; omega)
                have kf8 := o8.frozenAt HACC.out.symm t
                have hsz8 := t8.size
                have O8 := Lib.hid o8
                have T8 := Lib.hid (T7.out.trans t8)
                have R8h := Lib.hid R8
                clear GM t8d t8 o8 R8
                refine hK.out _ _ k8 (fun hS => ?_)
                clear hK K
                try simp only [Act.put, List.setIfInBounds_toArray, List.set_cons_zero, List.set_cons_succ]
                refine wpAnyH_take (i := 6) (oi := ⟨some 41, _, _, _, _, _⟩) (v := .int .u8 x) rfl (by kernel_rfl) (by kernel_rfl) (by kernel_rfl) (fun _ _ _ h => h) (Or.inl ⟨by rfl, fun W hW => by go_simp⟩) hS ?_
                try simp only [Act.put, List.setIfInBounds_toArray, List.set_cons_zero, List.set_cons_succ]
                refine wpAnyH_take (i := 7) (oi := ⟨some 42, _, _, _, _, _⟩) (v := .pointer (some ⟨gl, t, none⟩)) rfl (by kernel_rfl) (by kernel_rfl) (by kernel_rfl) (fun _ _ _ h => h) (Or.inl ⟨by rfl, fun W hW => by go_simp⟩) hS ?_
                try simp only [Act.put, List.setIfInBounds_toArray, List.set_cons_zero, List.set_cons_succ]
                refine wpAnyH_ready (rs := [8]) (by kernel_rfl) (by simp) ?_
                refine AllReadyH.cons rfl (fun K hK => ?_) AllReadyH.nil
                go_simp
                have k9 : (w8.setCell ⟨gl, t, none⟩ (.int .u8 x)).cell? ⟨0, i, none⟩ = some (.int .i64 (t : Int)) := by
                  refine (World.cell?_of_block (w := w8) (a := ⟨0, i, none⟩) (Below.heap_setCell w8 _ _ _ ?_)).trans k8
                  show 0 ≠ gl
                  intro he
                  have hu := (World.cell?_of_block (w := wr) (a := ⟨0, i, none⟩) rfl).trans Y0.out
                  have hz9 := World.block_lt_of_cell? _ _ (HL.out 0 (by decide))
                  have : 0 < w.heap.size := hz9
                  omega
                refine hK.out _ _ k9 (fun hS => ?_)
                clear hK K
                try simp only [Act.put, List.setIfInBounds_toArray, List.set_cons_zero, List.set_cons_succ]
                refine wpAnyH_done (by kernel_rfl) ?_ _
                go_wp2_with fail
                go_roundw
                case rel =>
                  have os := O8.out.stored HACC.out.symm t x
                  have t10 := (T8.out).then_ (TurnsIn.ofGrown (S := fun b => b = gl) os.2 fun b hb => (Option.some.inj hb).symm) (fun b hb he => absurd hb (by omega))
                  have r10 := R8h.out.out (TurnsIn.ofGrown (S := fun b => b = gl) os.2 fun b hb => (Option.some.inj hb).symm) (Ne.symm hgg) (fun b hb he => by have := HVN.out b hb; omega)
                  have h1 := HLT.out
                  have h2 := HF.out
                  refine ⟨i + 1, q + 3, acc.set t x, by omega, by go_num, os.1, by rw [List.length_set]; exact HACC.out, fun y hy => ?_, r10, t10, by have := os.2.size; omega, ?_⟩
                  · rcases List.mem_or_eq_of_mem_set hy with hy | rfl
                    · exact HOA.out y hy
                    · omega
                  · rw [show n0 - (i + 1) = f by omega]
                    exact Lib.hid HG8.out.symm
                case measure =>
                  have h1 := HLT.out
                  simp [intOf] <;> omega
              · have GM := Lib.hid (number_no 3 wr.drew (HP7.out.drewN 1) ⟨R7h.out.blk.drewN 1, R7h.out.own.drewN 1, R7h.out.le⟩ hob hbl (by omega) hx)
                have HE9 := Lib.hid (HG.out.symm.trans (bindG_miss _ (numG_no hx)))
                clear hx
                go_wp2_with fail
                refine wp_region_held_drew (S := (fun W' : World => W'.cell? ⟨0, i, none⟩ = some (.int .i64 (t : Int)))) (by kernel_rfl) Y0.out (fun hS => ?_)
                refine wpAnyH_take (i := 0) (oi := ⟨some 35, _, _, _, _, _⟩) (v := .slice (some ⟨gl, 0, none⟩) 19 19) rfl (by kernel_rfl) (by kernel_rfl) (by kernel_rfl) (fun _ _ _ h => h) (Or.inl ⟨by rfl, fun W hW => by go_simp⟩) hS ?_
                try simp only [Act.put, List.setIfInBounds_toArray, List.set_cons_zero, List.set_cons_succ]
                refine wpAnyH_take (i := 1) (oi := ⟨some 36, _, _, _, _, _⟩) (v := .int .i64 (i : Int)) rfl (by kernel_rfl) (by kernel_rfl) (by kernel_rfl) (fun _ _ _ h => h) (Or.inl ⟨by rfl, fun W hW => by go_simp⟩) hS ?_
                try simp only [Act.put, List.setIfInBounds_toArray, List.set_cons_zero, List.set_cons_succ]
                refine wpAnyH_take (i := 4) (oi := ⟨some 39, _, _, _, _, _⟩) (v := .pointer (some ⟨gp, 0, none⟩)) rfl (by kernel_rfl) (by kernel_rfl) (by kernel_rfl) (fun _ _ _ h => h) (Or.inl ⟨by rfl, fun W hW => by go_simp⟩) hS ?_
                try simp only [Act.put, List.setIfInBounds_toArray, List.set_cons_zero, List.set_cons_succ]
                refine wpAnyH_take (i := 2) (oi := ⟨some 37, _, _, _, _, _⟩) (v := .pointer (some ⟨0, i, none⟩)) rfl (by kernel_rfl) (by kernel_rfl) (by kernel_rfl) (fun _ _ _ h => h) (Or.inl ⟨by rfl, fun W hW => by go_simp⟩) hS ?_
                try simp only [Act.put, List.setIfInBounds_toArray, List.set_cons_zero, List.set_cons_succ]
                refine wpAnyH_take (i := 3) (oi := ⟨some 38, _, _, _, _, _⟩) (v := .int .i64 (t : Int)) rfl (by kernel_rfl) (by kernel_rfl) (by kernel_rfl) (fun _ _ _ h => h) (Or.inl ⟨by rfl, fun W hW => by have k1 : W.cell? ⟨0, i, none⟩ = some (.int .i64 (t : Int)) := hW; go_simp⟩) hS ?_
                try simp only [Act.put, List.setIfInBounds_toArray, List.set_cons_zero, List.set_cons_succ]
                refine wpAnyH_ready (rs := [5]) (by kernel_rfl) (by simp) ?_
                refine AllReadyH.cons rfl (fun K hK => ?_) AllReadyH.nil
                go_simp
                go_at_call 43
                refine GM.out.mono ?_
                rintro e w8 ⟨t8d, rfl, R8⟩
                have t8 : TurnsIn (· = g) wr w8 := ⟨t8d.os, t8d.tape, t8d.output, t8d.size, t8d.block⟩
                exact ⟨rfl, DynTo.miss HE9.out (T7.out.trans t8) R8⟩
            · have d5 : decide ((i : Int) < (n0 : Int)) = false := decide_eq_false (by omega)
              have d6 : decide (i < n0) = false := decide_eq_false hlt
              have hG1 := hG.out
              rw [show n0 - i = 0 by omega] at hG1
              have hG2 : dyn5 a d acc (bitsOf bs) q = r := hG1
              have HG := Lib.hid hG2
              clear hG hG1 hG2
              obtain ⟨m, hm⟩ : ∃ m, mayB acc = m := ⟨_, rfl⟩
              have hh := OW.out.opened
              obtain ⟨A0, c0, eA, hcA, hmA, hrA⟩ := hh
              injection eA with eA1 eA2 eA3
              subst eA1 eA3
              clear eA2
              have hrd : Holds wr wr.heap.size .u8 (some ⟨gl, 0, none⟩) acc := hrA
              cases m with
              | false =>
                have HE := Lib.hid (HG.out.symm.trans (by unfold dyn5; rw [hm]; exact bindG_bad _ rfl : dyn5 a d acc (bitsOf bs) q = .bad 11))
                have GT := Lib.hid (new_no (some ⟨gl, 0, none⟩) acc 19 wr HOA.out hcA hmA hrd hm)
                rw [HACC.out] at GT
                clear hm hrA hrd hcA hmA
                go_wp2_with fail
                refine GT.out.mono ?_
                rintro e w9 ⟨rfl, rfl⟩
                go_wp2_with fail
                refine (GY.out _).mono ?_
                rintro e w9 ⟨rfl, rfl⟩
                go_wp2_with fail
                exact ⟨rfl, DynTo.bad HE.out T7.out R7h.out⟩
              | true =>
                have HE := Lib.hid (HG.out.symm.trans (by unfold dyn5; rw [hm]; exact bindG_ok _ rfl : dyn5 a d acc (bitsOf bs) q = bindG (rowG acc (a + d + 258).toNat 320 []) (fun l => dyn7 a l) (bitsOf bs) q))
                have GT := Lib.hid (new_yes (some ⟨gl, 0, none⟩) acc 19 wr HOA.out hcA hmA hrd hm)
                rw [HACC.out] at GT
                unfold NewOk at GT
                have HM := Lib.hid hm
                have hq1 : (a + d + 258).toNat = ma + md := by have := HMA.out; have := HMD.out; omega
                rw [hq1] at HE
                have hwm : IntKind.i64.wrap ((ma : Int) + (md : Int)) = ((ma + md : Nat) : Int) := by rw [IntKind.wrap_i64]; omega
                clear hm hrA hrd hcA hmA hq1
                go_wp2_with fail
                refine GT.out.mono ?_
                rintro e w9 ⟨gt, vt, rfl, hgt, tb9, b9⟩
                have hp9 := HP7.out.below b9 HP7.out.lt
                have R9 := R7h.out.below b9
                have T9 := Lib.hid (T7.out.trans (TurnsIn.ofNew b9))
                go_wp2_with fail
                refine (GN.out _).mono ?_
                rintro e w10 ⟨rfl, hw10⟩
                have hw10' := hw10.symm
                clear hw10
                subst hw10'
                have GR := Lib.hid (row_any B g gp gt wr.heap.size v u1 u2 vt bs acc q (ma + md) w9 hp9 R9 hob hbl HM.out HOA.out (by rw [HACC.out]; omega) tb9 (by omega))
                unfold RowTo at GR
                have HP9 := Lib.hid hp9
                have R9h := Lib.hid R9
                have hs9 := b9.size
                obtain ⟨z, hz⟩ : ∃ z, rowG acc (ma + md) 320 [] (bitsOf bs) q = z := ⟨_, rfl⟩
                rw [hz] at GR
                have HZ := Lib.hid hz
                clear hz tb9 b9 hp9 R9 GT
                cases z with
                | miss =>
                  have HE2 := Lib.hid (HE.out.trans (bindG_miss _ HZ.out))
                  unfold missingE at GR
                  go_wp2_with fail
                  refine GR.out.mono ?_
                  rintro e w11 ⟨t11, rfl, q11, R11⟩
                  go_wp2_with fail
                  exact ⟨rfl, DynTo.miss HE2.out (T9.out.trans t11) R11⟩
                | bad why =>
                  have HE2 := Lib.hid (HE.out.trans (bindG_bad _ HZ.out))
                  unfold brokenE at GR
                  go_wp2_with fail
                  refine GR.out.mono ?_
                  rintro e w11 ⟨t11, rfl, q11, R11⟩
                  go_wp2_with fail
                  exact ⟨rfl, DynTo.bad HE2.out (T9.out.trans t11) R11⟩
                | ok l q11 =>
                  have HE2 := Lib.hid (HE.out.trans (bindG_ok _ HZ.out))
                  have hl := row_ok HB.out HM.out HOA.out (by rw [HACC.out]; omega) 320 (fun _ h => absurd h (by simp)) (by simp) (by simp; omega) HZ.out
                  have HLO := Lib.hid hl.1
                  have hll := hl.2
                  have HLL := Lib.hid hll
                  have hta : (a + 257).toNat = ma := by have := HMA.out; omega
                  have HE3 : Hid (r = if (!mayB (l.take ma) || !mayB (l.drop ma)) = true then .bad 11 else .ok (l.take ma, l.drop ma) q11) := Lib.hid (by
                    rw [HE2.out]
                    unfold dyn7
                    rw [hta]
                    cases (!mayB (l.take ma) || !mayB (l.drop ma)) <;> rfl)
                  clear hl HE2 hta
                  go_wp2_with fail
                  refine GR.out.mono ?_
                  rintro e w11 ⟨t11, R11, A11, c11, rfl, o11⟩
                  have T11 := Lib.hid (T9.out.trans t11)
                  have R11h := Lib.hid R11
                  have hs11 := t11.size
                  have O11 := Lib.hid o11
                  rw [hll]
                  rw [hll] at O11
                  clear t11 R11 o11 hll GR
                  go_wp2_with fail
                  refine wp_region_held_drew (S := (fun _ : World => True)) (by kernel_rfl) trivial (fun hS => ?_)
                  refine wpAnyH_take (i := 0) (oi := ⟨some 58, _, _, _, _, _⟩) (v := .int .i64 (ma : Int)) rfl (by kernel_rfl) (by kernel_rfl) (by kernel_rfl) (fun _ _ _ h => h) (Or.inl ⟨by rfl, fun W hW => by go_simp⟩) hS ?_
                  try simp only [Act.put, List.setIfInBounds_toArray, List.set_cons_zero, List.set_cons_succ]
                  refine wpAnyH_take (i := 2) (oi := ⟨some 60, _, _, _, _, _⟩) (v := .int .i64 (md : Int)) rfl (by kernel_rfl) (by kernel_rfl) (by kernel_rfl) (fun _ _ _ h => h) (Or.inl ⟨by rfl, fun W hW => by go_simp⟩) hS ?_
                  try simp only [Act.put, List.setIfInBounds_toArray, List.set_cons_zero, List.set_cons_succ]
                  refine wpAnyH_ready (rs := [1, 3]) (by kernel_rfl) (by simp) ?_
                  refine AllReadyH.cons rfl (fun K hK => ?_) (AllReadyH.cons rfl (fun K hK => ?_) AllReadyH.nil)
                  case' refine_1 =>
                    refine step_of_list (by simp [Region.wanted]) fun Q9 hn9 => ?_
                    refine wpList_make_ints _ rfl _ _ _ rfl elem8 ma ma rfl rfl rfl rfl (Nat.le_refl _) (by omega) ?_
                    intro w12 o12 b12 l12
                    refine hn9 _ _ ?_
                    clear hn9 Q9
                    change K (Act.put _ (some 59) _) _
                    refine hK.out _ _ trivial (fun hS => ?_)
                    clear hK K
                    try simp only [Act.put, List.setIfInBounds_toArray, List.set_cons_zero, List.set_cons_succ]
                    refine wpAnyH_take (i := 4) (oi := ⟨some 12, _, _, _, _, _⟩) (v := .slice (some ⟨w11.heap.size, 0, none⟩) ma ma) rfl (by kernel_rfl) (by kernel_rfl) (by kernel_rfl) (fun _ _ _ h => h) (Or.inl ⟨by rfl, fun W hW => by go_simp⟩) hS ?_
                    try simp only [Act.put, List.setIfInBounds_toArray, List.set_cons_zero, List.set_cons_succ]
                    refine wpAnyH_ready (rs := [3]) (by kernel_rfl) (by simp) ?_
                    refine AllReadyH.cons rfl (fun K hK => ?_) AllReadyH.nil
                    refine step_of_list (by simp [Region.wanted]) fun Q9 hn9 => ?_
                    refine wpList_make_ints _ rfl _ _ _ rfl elem8 md md rfl rfl rfl rfl (Nat.le_refl _) (by omega) ?_
                    intro w13 o13 b13 l13
                    refine hn9 _ _ ?_
                    clear hn9 Q9
                    change K (Act.put _ (some 61) _) _
                    refine hK.out _ _ trivial (fun hS => ?_)
                    clear hK K
                    try simp only [Act.put, List.setIfInBounds_toArray, List.set_cons_zero, List.set_cons_succ]
                    refine wpAnyH_take (i := 5) (oi := ⟨some 13, _, _, _, _, _⟩) (v := .slice (some ⟨w12.heap.size, 0, none⟩) md md) rfl (by kernel_rfl) (by kernel_rfl) (by kernel_rfl) (fun _ _ _ h => h) (Or.inl ⟨by rfl, fun W hW => by go_simp⟩) hS ?_
                    try simp only [Act.put, List.setIfInBounds_toArray, List.set_cons_zero, List.set_cons_succ]
                    refine wpAnyH_done (by kernel_rfl) ?_ _
                    have hs12 : w11.heap.size < w12.heap.size := l12
                    have hs13 : w12.heap.size < w13.heap.size := l13
                    have bw1 : Below w11.heap.size w11 w12 := ⟨b12.os, b12.tape, b12.output, b12.size, b12.block⟩
                    have o1' := (show Own w12 w11.heap.size 5 .u8 (.slice (some ⟨w11.heap.size, 0, none⟩) ma ma) (List.replicate ma 0) from o12).below b13
                    have o2' := o13.mono (Nat.le_of_lt hs12)
                    have bw2 := bw1.trans (b13.mono (Nat.le_of_lt hs12))
                    obtain ⟨ga, hga⟩ : ∃ ga, w11.heap.size = ga := ⟨_, rfl⟩
                    obtain ⟨gb, hgb⟩ : ∃ gb, w12.heap.size = gb := ⟨_, rfl⟩
                    have hne : ga ≠ gb := by omega
                    rw [show Value.slice (some ⟨w11.heap.size, 0, none⟩) ma ma = Value.slice (some ⟨ga, 0, none⟩) ma ma by rw [hga]] at o1'
                    rw [hgb] at o2'
                    rw [show Value.slice (some ⟨w11.heap.size, 0, none⟩) ma ma = Value.slice (some ⟨ga, 0, none⟩) ma ma by rw [hga], hgb]
                    have OA := Lib.hid o1'
                    have OB := Lib.hid o2'
                    have BN := Lib.hid bw2
                    clear hga hgb o12 o13 o1' o2' b12 b13 bw1 bw2 l12 l13
                  case' refine_2 =>
                    refine step_of_list (by simp [Region.wanted]) fun Q9 hn9 => ?_
                    refine wpList_make_ints _ rfl _ _ _ rfl elem8 md md rfl rfl rfl rfl (Nat.le_refl _) (by omega) ?_
                    intro w12 o12 b12 l12
                    refine hn9 _ _ ?_
                    clear hn9 Q9
                    change K (Act.put _ (some 61) _) _
                    refine hK.out _ _ trivial (fun hS => ?_)
                    clear hK K
                    try simp only [Act.put, List.setIfInBounds_toArray, List.set_cons_zero, List.set_cons_succ]
                    refine wpAnyH_ready (rs := [1]) (by kernel_rfl) (by simp) ?_
                    refine AllReadyH.cons rfl (fun K hK => ?_) AllReadyH.nil
                    refine step_of_list (by simp [Region.wanted]) fun Q9 hn9 => ?_
                    refine wpList_make_ints _ rfl _ _ _ rfl elem8 ma ma rfl rfl rfl rfl (Nat.le_refl _) (by omega) ?_
                    intro w13 o13 b13 l13
                    refine hn9 _ _ ?_
                    clear hn9 Q9
                    change K (Act.put _ (some 59) _) _
                    refine hK.out _ _ trivial (fun hS => ?_)
                    clear hK K
                    try simp only [Act.put, List.setIfInBounds_toArray, List.set_cons_zero, List.set_cons_succ]
                    refine wpAnyH_take (i := 4) (oi := ⟨some 12, _, _, _, _, _⟩) (v := .slice (some ⟨w12.heap.size, 0, none⟩) ma ma) rfl (by kernel_rfl) (by kernel_rfl) (by kernel_rfl) (fun _ _ _ h => h) (Or.inl ⟨by rfl, fun W hW => by go_simp⟩) hS ?_
                    try simp only [Act.put, List.setIfInBounds_toArray, List.set_cons_zero, List.set_cons_succ]
                    refine wpAnyH_take (i := 5) (oi := ⟨some 13, _, _, _, _, _⟩) (v := .slice (some ⟨w11.heap.size, 0, none⟩) md md) rfl (by kernel_rfl) (by kernel_rfl) (by kernel_rfl) (fun _ _ _ h => h) (Or.inl ⟨by rfl, fun W hW => by go_simp⟩) hS ?_
                    try simp only [Act.put, List.setIfInBounds_toArray, List.set_cons_zero, List.set_cons_succ]
                    refine wpAnyH_done (by kernel_rfl) ?_ _
                    have hs12 : w11.heap.size < w12.heap.size := l12
                    have hs13 : w12.heap.size < w13.heap.size := l13
                    have bw1 : Below w11.heap.size w11 w12 := ⟨b12.os, b12.tape, b12.output, b12.size, b12.block⟩
                    have o1' := (show Own w12 w11.heap.size 5 .u8 (.slice (some ⟨w11.heap.size, 0, none⟩) md md) (List.replicate md 0) from o12).below b13
                    have o2' := o13.mono (Nat.le_of_lt hs12)
                    have bw2 := bw1.trans (b13.mono (Nat.le_of_lt hs12))
                    obtain ⟨ga, hga⟩ : ∃ ga, w12.heap.size = ga := ⟨_, rfl⟩
                    obtain ⟨gb, hgb⟩ : ∃ gb, w11.heap.size = gb := ⟨_, rfl⟩
                    have hne : ga ≠ gb := by omega
                    rw [show Value.slice (some ⟨w11.heap.size, 0, none⟩) md md = Value.slice (some ⟨gb, 0, none⟩) md md by rw [hgb]] at o1'
                    rw [hga] at o2'
                    rw [show Value.slice (some ⟨w11.heap.size, 0, none⟩) md md = Value.slice (some ⟨gb, 0, none⟩) md md by rw [hgb], hga]
                    have OA := Lib.hid o2'
                    have OB := Lib.hid o1'
                    have BN := Lib.hid bw2
                    clear hga hgb o12 o13 o1' o2' b12 b13 bw1 bw2 l12 l13
                  all_goals
                    have hta1 : (l.take ma).length = ma := by rw [List.length_take, HLL.out]; omega
                    have htd1 : (l.drop ma).length = md := by rw [List.length_drop, HLL.out]; omega
                    have HTA := Lib.hid hta1
                    have HTD := Lib.hid htd1
                    clear hta1 htd1
                    have hrl0 : Holds w11 w11.heap.size .u8 A11 l := by obtain ⟨_, _, e, _, _, h⟩ := own_open O11.out; exact h
                    have hrl := hrl0.below BN.out
                    have hcap : ma + md ≤ c11 := by obtain ⟨_, _, e, h1, _, _⟩ := own_open O11.out; injection e with e1 e2 e3; rw [e3, ← HLL.out]; exact h1
                    have dcap : decide (c11 = ma) = false := decide_eq_false (by omega)
                    have hncap : ¬ c11 = ma := by omega
                    have oa := OA.out
                    have ob := OB.out
                    have hBb : w11.heap.size ≤ w13.heap.size := BN.out.size
                    have HRL := Lib.hid hrl
                    have hf := holds_from8 (q := ma) hrl (by rw [HLL.out]; exact hcap)
                    rw [if_neg hncap] at hf
                    have HFH := Lib.hid hf
                    clear hrl hrl0 hf hncap
                    go_upto_region 17 with (first
                      | (have _t := oa; refine wpList_copy_over rfl (.tmp 62) (.tmp 63) 22 rfl elem8 oa (by simp; omega) rfl (ys := l) (by rw [HLL.out]; rfl) HRL.out (by rw [HLL.out, List.length_replicate]; omega) hBb ?_; clear _t oa; intro w14 oa2 ga2 ba2; rw [List.length_replicate] at oa2; have ob2 := ob.kept ga2 (.inr (by intro he; injection he with he; exact hne he.symm)); have hsz14 := ba2.size; have HF2 := Lib.hid (HFH.out.below ba2); have OA2 := Lib.hid oa2; have BA2 := Lib.hid (BN.out.trans ba2); clear ob ba2 ga2 oa2)
                      | (have _t := ob2; refine wpList_copy_ints _ rfl (.tmp 65) (.tmp 68) 22 rfl elem8 ob2 rfl (ys := l.drop ma) (by rw [HTD.out]; rfl) HF2.out (by rw [HTD.out, List.length_replicate]; omega) (Nat.le_trans hBb hsz14) ?_; clear _t ob2; intro w15 ob3 gb3 bb3; have OB3 := Lib.hid ob3; have OA3 := Lib.hid (OA2.out.kept gb3 (.inr (by intro he; injection he with he; exact hne he))); have B15 := Lib.hid (BA2.out.trans bb3); clear ob3 gb3 bb3))
                    have R15 := Lib.hid (R11h.out.below B15.out)
                    have T15 := Lib.hid (T11.out.trans (TurnsIn.ofNew B15.out))
                    have hNw : w.heap.size ≤ w11.heap.size := T11.out.size
                    obtain ⟨_, _, ea, ha1, ha2, ha3⟩ := own_open OA3.out
                    obtain ⟨_, _, eb, hb1, hb2, hb3⟩ := own_open OB3.out
                    have ga0 := may_any (some ⟨ga, 0, none⟩) (l.take ma) ma w15 (HLO.out.head _) (by rw [HTA.out]; exact Nat.le_refl _) (by unfold maxLen; omega) ha3
                    have gb0 := may_any (some ⟨gb, 0, none⟩) (l.drop ma) md w15 (HLO.out.tail _) (by rw [HTD.out]; exact Nat.le_refl _) (by unfold maxLen; omega) (by
                      have : l.drop ma ++ (List.replicate md (0 : Int)).drop (l.drop ma).length = l.drop ma := by rw [HTD.out]; simp
                      rw [this] at hb3
                      exact hb3)
                    rw [HTA.out] at ga0
                    rw [HTD.out] at gb0
                    have OB4 : Hid (Own w15 w11.heap.size 5 .u8 (.slice (some ⟨gb, 0, none⟩) md md) (l.drop ma)) := Lib.hid (by
                      have : l.drop ma ++ (List.replicate md (0 : Int)).drop (l.drop ma).length = l.drop ma := by rw [HTD.out]; simp
                      have h := OB3.out
                      rw [this] at h
                      exact h)
                    obtain ⟨y1, hy1⟩ : ∃ y, mayB (l.take ma) = y := ⟨_, rfl⟩
                    obtain ⟨y2, hy2⟩ : ∃ y, mayB (l.drop ma) = y := ⟨_, rfl⟩
                    rw [hy1] at ga0
                    rw [hy2] at gb0
                    have HE4 := HE3.out
                    rw [hy1, hy2] at HE4
                    have HE5 := Lib.hid HE4
                    have GA := Lib.hid ga0
                    have GB := Lib.hid gb0
                    clear HE3 HE4 hy1 hy2 ga0 gb0 ea ha1 ha2 ha3 eb hb1 hb2 hb3
                    cases y1 with
                    | false =>
                      have HE6 := Lib.hid (show r = .bad 11 from HE5.out)
                      go_wp2_with fail
                      refine GA.out.mono ?_
                      rintro e w16 ⟨rfl, rfl⟩
                      go_wp2_with fail
                      refine (GY.out _).mono ?_
                      rintro e w16 ⟨rfl, rfl⟩
                      go_wp2_with fail
                      exact ⟨rfl, DynTo.bad HE6.out T15.out R15.out⟩
                    | true =>
                      cases y2 with
                      | false =>
                        have HE6 := Lib.hid (show r = .bad 11 from HE5.out)
                        go_wp2_with fail
                        refine GA.out.mono ?_
                        rintro e w16 ⟨rfl, rfl⟩
                        go_wp2_with fail
                        refine GB.out.mono ?_
                        rintro e w16 ⟨rfl, rfl⟩
                        go_wp2_with fail
                        refine (GY.out _).mono ?_
                        rintro e w16 ⟨rfl, rfl⟩
                        go_wp2_with fail
                        exact ⟨rfl, DynTo.bad HE6.out T15.out R15.out⟩
                      | true =>
                        have HE6 := Lib.hid (show r = .ok (l.take ma, l.drop ma) q11 from HE5.out)
                        go_wp2_with fail
                        refine GA.out.mono ?_
                        rintro e w16 ⟨rfl, rfl⟩
                        go_wp2_with fail
                        refine GB.out.mono ?_
                        rintro e w16 ⟨rfl, rfl⟩
                        go_wp2_with fail
                        refine (GN.out _).mono ?_
                        rintro e w16 ⟨rfl, hw16⟩
                        have hw16' := hw16.symm
                        clear hw16
                        subst hw16'
                        go_wp2_with fail
                        go_ret2
                        rw [HE6.out]
                        refine ⟨T15.out, R15.out, ga, gb, ?_, ?_, ?_⟩
                        · simp only [HTA.out, HTD.out]
                          rfl
                        · simp only [HTA.out]
                          exact OA3.out.mono hNw
                        · simp only [HTD.out]
                          exact OB4.out.mono hNw
        · have HE := Lib.hid (HR3.out.trans (dyn3_no hc _ _))
          have hor : (if decide (286 < a + 257) = true then true else decide (30 < d + 1)) = true := by
            by_cases h : 286 < a + 257
            · rw [if_pos (decide_eq_true h)]
            · rw [if_neg (by rw [decide_eq_true_eq]; exact h)]
              exact decide_eq_true (by omega)
          by_cases ca : 286 < a + 257
          · have d1 : decide (286 < a + 257) = true := decide_eq_true ca
            clear hc hor ca
            go_wp2_with fail
            refine (GY.out _).mono ?_
            rintro e w9 ⟨rfl, rfl⟩
            go_wp2_with fail
            exact ⟨rfl, DynTo.bad HE.out T3.out R3h.out⟩
          · have d1 : decide (286 < a + 257) = false := decide_eq_false ca
            have d2 : decide (30 < d + 1) = true := decide_eq_true (by omega)
            clear hc hor ca
            go_wp2_with fail
            refine (GY.out _).mono ?_
            rintro e w9 ⟨rfl, rfl⟩
            go_wp2_with fail
            exact ⟨rfl, DynTo.bad HE.out T3.out R3h.out⟩
      · have GM := Lib.hid (number_no 4 w2 HP2.out R2h.out hob hbl (by omega) hq3)
        have HE := Lib.hid (HR2.out.trans (bindG_miss _ (numG_no hq3)))
        clear hq3
        go_wp2_with fail
        refine GM.out.mono ?_
        rintro e w9 ⟨t9, rfl, R9⟩
        go_wp2_with fail
        exact ⟨rfl, DynTo.miss HE.out (T2.out.trans t9) R9⟩
    · have GM := Lib.hid (number_no 5 w1 HP1.out R1h.out hob hbl (by omega) hq2)
      have HE := Lib.hid (HR1.out.trans (bindG_miss _ (numG_no hq2)))
      clear hq2
      go_wp2_with fail
      refine GM.out.mono ?_
      rintro e w9 ⟨t9, rfl, R9⟩
      go_wp2_with fail
      exact ⟨rfl, DynTo.miss HE.out (T1.out.trans t9) R9⟩
  · have GM := Lib.hid (number_no 5 w HP.out R hob hbl (by omega) hq1)
    have HE := Lib.hid (HR.out.trans (bindG_miss _ (numG_no hq1)))
    clear hq1
    go_enter Tryd.func46, Tryd.ntmps46
    go_wp2_with fail
    refine GM.out.mono ?_
    rintro e w9 ⟨t9, rfl, R9⟩
    go_wp2_with fail
    exact ⟨rfl, DynTo.miss HE.out (t9) R9⟩
end Go.Proofs.YthflefdchgpbdaaDoor.Inf
