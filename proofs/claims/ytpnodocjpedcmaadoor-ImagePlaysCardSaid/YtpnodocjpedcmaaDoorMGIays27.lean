/-
  Layer 24, journal: what was put is got (plain). Conditions: as each theorem names.
  Layer 24, journal: which record is the last one, over what sectors read as; plain. Conditions: as each theorem names.
-/
import Derived.Test.YtpnodocjpedcmaaDoorMJrG
import Derived.Test.YtpnodocjpedcmaaDoorMGIays14
namespace Go.Proofs.YtpnodocjpedcmaaDoor.Jr
open Go.ChangeShapes Go.WideShapes Go.ChangeAt Go.RowKit Go.Proofs.YtpnodocjpedcmaaDoor.Kit Go.Proofs.YtpnodocjpedcmaaDoor.Oct
open Go.Proofs.YtpnodocjpedcmaaDoor.Sha (sumL sumL_length sumL_octets)

theorem seg_num {xs pre b post : List Int} {p n : Nat} (h : xs = pre ++ (b ++ post)) (hp : pre.length = p) (hb : b.length = n) : (xs.drop p).take n = b := by
  subst h hp hb; simp
theorem seg_one {xs pre post : List Int} {p : Nat} {z : Int} (h : xs = pre ++ (z :: post)) (hp : pre.length = p) : xs.getD p 0 = z := by
  subst h hp; simp
theorem val_be4 (x : Int) (hx : 0 ≤ x ∧ x ≤ 2147483647) : val (be 4 x) = x := by
  rw [val_be 4 x, show (256 : Int) ^ 4 = 4294967296 by decide]; omega

theorem got_put (r : Rec) (hr : r.Ok) (hm : r.may = true) : getE r.putL = 0 ∧ recOf r.putL = r ∧ r.putL.length = 99 ∧ Octets r.putL := by
  obtain ⟨ha, hs, hmd, hlen, hnl, hdn, hblk, hasz⟩ := Rec.may_is hm
  obtain ⟨l0, l1, l2, l3, l4, l5, l6, l7, l8, l9⟩ := r.q_length hr.man
  have hsum : ((sumL r.q9).take 8).length = 8 := by rw [List.length_take, sumL_length]; rfl
  have hL : r.putL.length = 99 := by unfold Rec.putL; rw [List.length_append, l9, hsum]
  have hO : Octets r.putL := octets_app (r.q9_octets hr) ((sumL_octets _).head 8)
  obtain ⟨s8, hs8⟩ : ∃ s, (sumL r.q9).take 8 = s := ⟨_, rfl⟩
  have e9 : r.putL = r.q9 ++ s8 := by rw [← hs8]; rfl
  have e8 : r.putL = r.q8 ++ (be 4 r.asz ++ s8) := by rw [e9, show r.q9 = r.q8 ++ be 4 r.asz from rfl, List.append_assoc]
  have e7 : r.putL = r.q7 ++ (be 4 r.blk ++ (be 4 r.asz ++ s8)) := by rw [e8, show r.q8 = r.q7 ++ be 4 r.blk from rfl, List.append_assoc]
  obtain ⟨t7, h7⟩ : ∃ t, be 4 r.blk ++ (be 4 r.asz ++ s8) = t := ⟨_, rfl⟩
  have e6 : r.putL = r.q6 ++ (be 8 r.at_ ++ t7) := by rw [e7, h7, show r.q7 = r.q6 ++ be 8 r.at_ from rfl, List.append_assoc]
  obtain ⟨t6, h6⟩ : ∃ t, be 8 r.at_ ++ t7 = t := ⟨_, rfl⟩
  have e5 : r.putL = r.q5 ++ (be 4 r.dn ++ t6) := by rw [e6, h6, show r.q6 = r.q5 ++ be 4 r.dn from rfl, List.append_assoc]
  obtain ⟨t5, h5⟩ : ∃ t, be 4 r.dn ++ t6 = t := ⟨_, rfl⟩
  have e4 : r.putL = r.q4 ++ (be 4 r.nl ++ t5) := by rw [e5, h5, show r.q5 = r.q4 ++ be 4 r.nl from rfl, List.append_assoc]
  obtain ⟨t4, h4⟩ : ∃ t, be 4 r.nl ++ t5 = t := ⟨_, rfl⟩
  have e3b : r.putL = (r.q3 ++ r.man) ++ (be 8 r.nv ++ t4) := by rw [e4, h4, show r.q4 = r.q3 ++ r.man ++ be 8 r.nv from rfl, List.append_assoc (r.q3 ++ r.man)]
  obtain ⟨t3, h3⟩ : ∃ t, be 8 r.nv ++ t4 = t := ⟨_, rfl⟩
  have e3 : r.putL = r.q3 ++ (r.man ++ t3) := by rw [e3b, h3, List.append_assoc]
  obtain ⟨t2, h2⟩ : ∃ t, r.man ++ t3 = t := ⟨_, rfl⟩
  have e2 : r.putL = r.q2 ++ (r.st :: (r.md :: t2)) := by rw [e3, h2, show r.q3 = r.q2 ++ [r.st, r.md] from rfl, List.append_assoc]; rfl
  have e2b : r.putL = (r.q2 ++ [r.st]) ++ (r.md :: t2) := by rw [e2, List.append_assoc]; rfl
  obtain ⟨t1, h1⟩ : ∃ t, (r.st :: (r.md :: t2)) = t := ⟨_, rfl⟩
  have e1 : r.putL = r.q1 ++ (be 4 r.len ++ t1) := by rw [e2, h1, show r.q2 = r.q1 ++ be 4 r.len from rfl, List.append_assoc]
  obtain ⟨t0, h0⟩ : ∃ t, be 4 r.len ++ t1 = t := ⟨_, rfl⟩
  have e0b : r.putL = (r.q0 ++ [r.act]) ++ (be 8 r.ver ++ t0) := by rw [e1, h0, show r.q1 = r.q0 ++ [r.act] ++ be 8 r.ver from rfl, List.append_assoc (r.q0 ++ [r.act])]
  obtain ⟨tv, hv⟩ : ∃ t, be 8 r.ver ++ t0 = t := ⟨_, rfl⟩
  have e0 : r.putL = r.q0 ++ (r.act :: tv) := by rw [e0b, hv, List.append_assoc]; rfl
  obtain ⟨ta, hta⟩ : ∃ t, (r.act :: tv) = t := ⟨_, rfl⟩
  have em : r.putL = [74, 82, 78, 76] ++ (be 8 r.seq ++ ta) := by rw [e0, hta, show r.q0 = [74, 82, 78, 76] ++ be 8 r.seq from rfl, List.append_assoc]
  have b8 := fun x => be_length 8 x
  have b4 := fun x => be_length 4 x
  have hrec : recOf r.putL = r := by
    have n1 : numA r.putL 4 8 = r.seq := by unfold numA; rw [seg_num (p := 4) em rfl (b8 _)]; exact val_be8 _ hr.seq
    have n2 : r.putL.getD 12 0 = r.act := seg_one e0 l0
    have n3 : numA r.putL 13 8 = r.ver := by unfold numA; rw [seg_num e0b (by rw [List.length_append, l0]; rfl) (b8 _)]; exact val_be8 _ hr.ver
    have n4 : numA r.putL 21 4 = r.len := by unfold numA; rw [seg_num e1 l1 (b4 _)]; exact val_be4 _ hlen
    have n5 : r.putL.getD 25 0 = r.st := seg_one e2 l2
    have n6 : r.putL.getD 26 0 = r.md := seg_one e2b (by rw [List.length_append, l2]; rfl)
    have n7 : (r.putL.drop 27).take 32 = r.man := seg_num e3 l3 hr.man
    have n8 : numA r.putL 59 8 = r.nv := by unfold numA; rw [seg_num e3b (by rw [List.length_append, l3, hr.man]) (b8 _)]; exact val_be8 _ hr.nv
    have n9 : numA r.putL 67 4 = r.nl := by unfold numA; rw [seg_num e4 l4 (b4 _)]; exact val_be4 _ hnl
    have n10 : numA r.putL 71 4 = r.dn := by unfold numA; rw [seg_num e5 l5 (b4 _)]; exact val_be4 _ hdn
    have n11 : numA r.putL 75 8 = r.at_ := by unfold numA; rw [seg_num e6 l6 (b8 _)]; exact val_be8 _ hr.at_
    have n12 : numA r.putL 83 4 = r.blk := by unfold numA; rw [seg_num e7 l7 (b4 _)]; exact val_be4 _ hblk
    have n13 : numA r.putL 87 4 = r.asz := by unfold numA; rw [seg_num e8 l8 (b4 _)]; exact val_be4 _ hasz
    unfold recOf
    rw [n1, n2, n3, n4, n5, n6, n7, n8, n9, n10, n11, n12, n13]
  refine ⟨?_, hrec, hL, hO⟩
  unfold getE
  have t4 : r.putL.take 4 = [74, 82, 78, 76] := by rw [em]; rfl
  have t91 : r.putL.take 91 = r.q9 := by rw [e9, List.take_left' l9]
  have d91 : (r.putL.drop 91).take 8 = (sumL r.q9).take 8 := by rw [e9, List.drop_left' l9, hs8, List.take_of_length_le (by rw [← hs8, hsum]; omega)]
  rw [if_neg (by omega), if_neg (by rw [t4]; exact fun h => h rfl), if_neg (by rw [t91, d91]; exact fun h => h rfl), hrec, if_pos hm]
theorem gotV_put (r : Rec) (hr : r.Ok) (hm : r.may = true) : getV r.putL = r := by
  obtain ⟨h1, h2, _, _⟩ := got_put r hr hm
  unfold getV
  rw [if_pos h1, h2]
end Go.Proofs.YtpnodocjpedcmaaDoor.Jr

namespace Go.Proofs.YtpnodocjpedcmaaDoor.Jr
open Go.ChangeShapes Go.WideShapes Go.ChangeAt Go.RowKit Go.Proofs.YtpnodocjpedcmaaDoor.Kit Go.Proofs.YtpnodocjpedcmaaDoor.Oct Go.Proofs.YtpnodocjpedcmaaDoor.Sec
open Go.Proofs.YtpnodocjpedcmaaDoor.Pt (Whole secP byteP rowP OkP ReadsP rowP_length piece chunkP chunkP_length padB manyP errS wrS OkW WritesP PRead PWrite On)

/-! ### what is read of sectors -/
def rowF (f : Int → List Int × Int) (i : Int) : List Int := if (f i).2 = 0 then (f i).1.take 99 else []
def GoodF (f : Int → List Int × Int) (i : Int) : Prop := getE (rowF f i) = 0 ∧ (getV (rowF f i)).seq % 2 = i
instance (f : Int → List Int × Int) (i : Int) : Decidable (GoodF f i) := inferInstanceAs (Decidable (_ ∧ _))
def stepF (f : Int → List Int × Int) (p : Rec × Bool) (i : Int) : Rec × Bool := if GoodF f i ∧ (p.2 = false ∨ p.1.seq < (getV (rowF f i)).seq) then (getV (rowF f i), true) else p
/-- The last record. -/
def lastF (f : Int → List Int × Int) : Rec := (stepF f (stepF f (rec0, false) 0) 1).1
/-- A device's sectors read as those of a journal whose last record is r, the k-th one. -/
structure StandsF (f : Int → List Int × Int) (r : Rec) (k : Nat) : Prop where
  seq : r.seq = k
  ok : r.Ok
  zero : k = 0 → r = rec0 ∧ ¬ GoodF f 0 ∧ ¬ GoodF f 1
  pos : 0 < k → GoodF f ((k % 2 : Nat) : Int) ∧ getV (rowF f ((k % 2 : Nat) : Int)) = r
  other : GoodF f (((k + 1) % 2 : Nat) : Int) → (getV (rowF f (((k + 1) % 2 : Nat) : Int))).seq < k

theorem lastF_of {f : Int → List Int × Int} {r : Rec} {k : Nat} (h : StandsF f r k) : lastF f = r := by
  obtain ⟨h1, _, h2, h3, h4⟩ := h
  unfold lastF
  rcases Nat.eq_zero_or_pos k with h0 | h0
  · obtain ⟨e, g0, g1⟩ := h2 h0
    unfold stepF
    rw [if_neg (fun c => g1 c.1), if_neg (fun c => g0 c.1), e]
  · obtain ⟨g, e⟩ := h3 h0
    rcases Nat.mod_two_eq_zero_or_one k with hk | hk
    · have hk1 : (k + 1) % 2 = 1 := by omega
      rw [hk] at g e
      rw [hk1] at h4
      have hs : stepF f (rec0, false) 0 = (r, true) := by
        unfold stepF
        rw [if_pos ⟨g, Or.inl rfl⟩]
        exact Prod.ext e rfl
      rw [hs]
      unfold stepF
      rw [if_neg]
      rintro ⟨c1, c2⟩
      have := h4 c1
      rcases c2 with c2 | c2
      · cases c2
      · simp only [h1] at c2
        have e1 : (((1 : Nat) : Int)) = 1 := rfl
        rw [e1] at this
        omega
    · have hk1 : (k + 1) % 2 = 0 := by omega
      rw [hk] at g e
      rw [hk1] at h4
      have hs : ∀ p : Rec × Bool, (p.2 = false ∨ p.1.seq < k) → (stepF f p 1).1 = r := by
        intro p hp
        unfold stepF
        have e' : getV (rowF f 1) = r := e
        rw [if_pos ⟨g, by rw [e', h1]; exact hp⟩]
        exact e'
      apply hs
      unfold stepF
      by_cases c : GoodF f 0
      · rw [if_pos ⟨c, Or.inl rfl⟩]
        exact Or.inr (h4 c)
      · rw [if_neg (fun x => c x.1)]
        exact Or.inl rfl

theorem good_no {f : Int → List Int × Int} {i : Int} (h : (f i).2 ≠ 0) : ¬ GoodF f i := by
  rintro ⟨c, _⟩
  unfold rowF at c
  rw [if_neg h] at c
  exact absurd c (by decide)
theorem rowF_put {f : Int → List Int × Int} {i : Int} {bs : List Int} {n : Nat} (hb : bs.length = 99) (h : f i = (chunkP n bs 0, 0)) (hn : 99 ≤ n) : rowF f i = bs := by
  unfold rowF
  rw [h, if_pos rfl]
  unfold chunkP padB
  rw [Nat.zero_mul, List.drop_zero, List.take_of_length_le (l := bs) (by omega), ← hb, List.take_left']
  rfl
theorem rowF_same {f g : Int → List Int × Int} {i : Int} (h : f i = g i) : rowF f i = rowF g i := by
  unfold rowF
  rw [h]
theorem goodF_same {f g : Int → List Int × Int} {i : Int} (h : f i = g i) : GoodF f i ↔ GoodF g i := by
  unfold GoodF
  rw [rowF_same h]
theorem stepF_same {f g : Int → List Int × Int} {i : Int} (h : f i = g i) (p : Rec × Bool) : stepF f p i = stepF g p i := by
  unfold stepF
  simp only [goodF_same h, rowF_same h]
theorem lastF_same {f g : Int → List Int × Int} (h0 : f 0 = g 0) (h1 : f 1 = g 1) : lastF f = lastF g := by
  unfold lastF
  rw [stepF_same h0, stepF_same h1]
theorem stands_same {f g : Int → List Int × Int} {r : Rec} {k : Nat} (h : StandsF f r k) (h0 : f 0 = g 0) (h1 : f 1 = g 1) : StandsF g r k := by
  have hh : ∀ n : Nat, n < 2 → f (n : Int) = g (n : Int) := by
    intro n hn
    have : n = 0 ∨ n = 1 := by omega
    rcases this with rfl | rfl
    · exact h0
    · exact h1
  refine ⟨h.seq, h.ok, fun hz => ?_, fun hp => ?_, fun ho => ?_⟩
  · obtain ⟨e, g0, g1⟩ := h.zero hz
    exact ⟨e, fun c => g0 ((goodF_same h0).2 c), fun c => g1 ((goodF_same h1).2 c)⟩
  · have e := hh (k % 2) (by omega)
    obtain ⟨a, b⟩ := h.pos hp
    exact ⟨(goodF_same e).1 a, by rw [← rowF_same e]; exact b⟩
  · have e := hh ((k + 1) % 2) (by omega)
    rw [← rowF_same e]
    exact h.other ((goodF_same e).2 ho)
/-- The next one is written. -/
theorem stands_next {f g : Int → List Int × Int} {r t : Rec} {k n : Nat} (h : StandsF f r k) (ht : t.Ok) (hm : t.may = true) (hq : t.seq = ((k + 1 : Nat) : Int)) (hn : 99 ≤ n)
    (hg : g (((k + 1) % 2 : Nat) : Int) = (chunkP n t.putL 0, 0)) (ho : g ((k % 2 : Nat) : Int) = f ((k % 2 : Nat) : Int)) : StandsF g t (k + 1) := by
  obtain ⟨e1, _, e3, _⟩ := got_put t ht hm
  have hr := rowF_put e3 hg hn
  refine ⟨hq, ht, fun hz => absurd hz (by omega), fun _ => ⟨⟨by rw [hr]; exact e1, ?_⟩, ?_⟩, ?_⟩
  · rw [hr, gotV_put t ht hm, hq]
    omega
  · rw [hr, gotV_put t ht hm]
  · have e : ((k + 1 + 1) % 2 : Nat) = k % 2 := by omega
    rw [e]
    intro c
    have c' := (goodF_same ho).1 c
    rw [rowF_same ho]
    rcases Nat.eq_zero_or_pos k with h0 | h0
    · obtain ⟨_, g0, _⟩ := h.zero h0
      subst h0
      exact absurd c' g0
    · rw [(h.pos h0).2, h.seq]
      omega
/-- The next one's sector is torn. -/
theorem stands_torn {f g : Int → List Int × Int} {r : Rec} {k : Nat} (h : StandsF f r k) (hg : (g (((k + 1) % 2 : Nat) : Int)).2 ≠ 0) (ho : g ((k % 2 : Nat) : Int) = f ((k % 2 : Nat) : Int)) : StandsF g r k := by
  refine ⟨h.seq, h.ok, fun hz => ?_, fun hp => ?_, fun c => absurd c (good_no hg)⟩
  · subst hz
    obtain ⟨e, g0, _⟩ := h.zero rfl
    exact ⟨e, fun c => g0 ((goodF_same ho).1 c), good_no hg⟩
  · obtain ⟨a, b⟩ := h.pos hp
    exact ⟨(goodF_same ho).2 a, by rw [rowF_same ho]; exact b⟩

/-! ### the document's reading: of whole sectors -/
theorem cut99 (xs : List Int) (a m : Nat) (h : a + m ≤ 99) : ((xs.take 99).drop a).take m = (xs.drop a).take m := by
  rw [List.drop_take, List.take_take, Nat.min_eq_left (by omega)]
theorem num99 (xs : List Int) (a m : Nat) (h : a + m ≤ 99) : numA (xs.take 99) a m = numA xs a m := by
  unfold numA
  rw [cut99 xs a m h]
theorem get99 (xs : List Int) (a : Nat) (h : a < 99) : (xs.take 99).getD a 0 = xs.getD a 0 := by
  rw [List.getD, List.getD, List.getElem?_take, if_pos h]
theorem rec99 (xs : List Int) : recOf (xs.take 99) = recOf xs := by
  unfold recOf
  rw [num99 xs 4 8 (by omega), get99 xs 12 (by omega), num99 xs 13 8 (by omega), num99 xs 21 4 (by omega), get99 xs 25 (by omega), get99 xs 26 (by omega), cut99 xs 27 32 (by omega), num99 xs 59 8 (by omega), num99 xs 67 4 (by omega), num99 xs 71 4 (by omega), num99 xs 75 8 (by omega), num99 xs 83 4 (by omega), num99 xs 87 4 (by omega)]
theorem getE99 (xs : List Int) (h : 99 ≤ xs.length) : getE (xs.take 99) = getE xs := by
  unfold getE
  rw [rec99, cut99 xs 91 8 (by omega), List.take_take, List.take_take, List.length_take]
  have e : (min 99 xs.length < 99) = (xs.length < 99) := by
    rw [Nat.min_eq_left h]
    simp
    omega
  simp only [e]
  rfl
theorem getV99 (xs : List Int) (h : 99 ≤ xs.length) : getV (xs.take 99) = getV xs := by
  unfold getV
  rw [getE99 xs h, rec99]
/-- The document's step. -/
def stepR (f : Int → List Int × Int) (p : Rec × Bool) (i : Int) : Rec × Bool :=
  if (f i).2 = 0 ∧ getE (f i).1 = 0 ∧ (getV (f i).1).seq % 2 = i ∧ (p.2 = false ∨ p.1.seq ≤ (getV (f i).1).seq) then (getV (f i).1, true) else p
theorem stepR_is {f : Int → List Int × Int} {i : Int} (hf : (f i).2 = 0 → 99 ≤ (f i).1.length) (p : Rec × Bool) (hp : p.2 = true → (p.1.seq - i) % 2 ≠ 0) : stepR f p i = stepF f p i := by
  unfold stepR stepF
  by_cases h0 : (f i).2 = 0
  · have hl := hf h0
    have hr : rowF f i = (f i).1.take 99 := by unfold rowF; rw [if_pos h0]
    have hg : GoodF f i ↔ (getE (f i).1 = 0 ∧ (getV (f i).1).seq % 2 = i) := by
      unfold GoodF
      rw [hr, getE99 _ hl, getV99 _ hl]
    have hv : getV (rowF f i) = getV (f i).1 := by rw [hr, getV99 _ hl]
    rw [hv]
    have hiff : ((f i).2 = 0 ∧ getE (f i).1 = 0 ∧ (getV (f i).1).seq % 2 = i ∧ (p.2 = false ∨ p.1.seq ≤ (getV (f i).1).seq)) ↔ (GoodF f i ∧ (p.2 = false ∨ p.1.seq < (getV (f i).1).seq)) := by
      rw [hg]
      constructor
      · rintro ⟨_, a, b, c⟩
        refine ⟨⟨a, b⟩, ?_⟩
        cases hp2 : p.2 with
        | false => exact Or.inl rfl
        | true =>
          rcases c with c | c
          · rw [hp2] at c; cases c
          · have := hp hp2
            exact Or.inr (by omega)
      · rintro ⟨⟨a, b⟩, c⟩
        refine ⟨h0, a, b, ?_⟩
        rcases c with c | c
        · exact Or.inl c
        · exact Or.inr (by omega)
    by_cases c : GoodF f i ∧ (p.2 = false ∨ p.1.seq < (getV (f i).1).seq)
    · rw [if_pos c, if_pos (hiff.2 c)]
    · rw [if_neg c, if_neg (fun x => c (hiff.1 x))]
  · rw [if_neg (fun c => h0 c.1), if_neg (fun c => good_no h0 c.1)]
theorem step0_seq (f : Int → List Int × Int) : (stepF f (rec0, false) 0).2 = true → (stepF f (rec0, false) 0).1.seq % 2 = 0 := by
  unfold stepF
  split
  · rename_i h
    intro _
    exact h.1.2
  · intro h
    cases h
/-- The document's last record is the program's. -/
theorem lastR_is {f : Int → List Int × Int} (h0 : (f 0).2 = 0 → 99 ≤ (f 0).1.length) (h1 : (f 1).2 = 0 → 99 ≤ (f 1).1.length) : (stepR f (stepR f (rec0, false) 0) 1).1 = lastF f := by
  rw [stepR_is h0 (rec0, false) (fun h => by cases h), stepR_is h1 _ (fun h => by have := step0_seq f h; omega)]
  rfl

/-! ### what a part reads and writes -/
theorem pread_rowF {s : Dv} (hs : 128 ≤ s.size) (hw : Whole s) {i : Int} {T : Nat} (hT : 99 ≤ T) {r : List Int × Int} (h : PRead s i T 0 99 r) : r.1 = rowF s.read i := by
  unfold PRead at h
  rw [if_pos (by omega)] at h
  have hsec : ∀ j, j < 99 → secP s i (0 + j) = s.read i := by
    intro j hj
    unfold secP
    rw [Nat.zero_add, Nat.div_eq_of_lt (by omega)]
    simp
  have e99 : (99 : Int).toNat = 99 := rfl
  have e0 : (0 : Int).toNat = 0 := rfl
  rw [e99, e0] at h
  unfold rowF
  rcases h with ⟨k, hk, h1, h2, rfl⟩ | ⟨h1, rfl⟩
  · rw [hsec k hk] at h2
    rw [if_neg h2]
  · have h0 : (s.read i).2 = 0 := by
      have := h1 0 (by omega)
      rwa [hsec 0 (by omega)] at this
    rw [if_pos h0]
    have hq : s.read i = ((s.read i).1, 0) := Prod.ext rfl h0
    have hl := (hw i _ hq).1
    have hp := piece (s := s) (F := i) (p := 0) (m := 99) hl (by rw [show secP s i 0 = s.read i from hsec 0 (by omega)]; exact hq) (by rw [Nat.zero_mod]; omega)
    rw [Nat.zero_mod, List.drop_zero] at hp
    exact hp.symm
theorem pwrite_sec {s : Dv} (hs : 128 ≤ s.size) {i : Int} {T : Nat} (hT : 99 ≤ T) {bs : List Int} (hb : bs.length = 99) {r : Int × Dv} (h : PWrite s i T 0 bs r) : r = s.write i (chunkP s.size bs 0) := by
  unfold PWrite at h
  rw [if_neg (by simp), if_pos (by rw [hb]; omega)] at h
  have e0 : (0 : Int).toNat / s.size = 0 := by
    show 0 / s.size = 0
    exact Nat.zero_div _
  rw [e0] at h
  have hm : manyP s.size bs = 1 := by
    unfold manyP
    rw [hb]
    exact (Nat.div_eq_of_lt_le (by omega) (by omega))
  rw [show i + ((0 : Nat) : Int) = i by omega] at h
  rcases h with ⟨k, hk, _, _, rfl⟩ | ⟨hok, rfl⟩
  · rw [hm] at hk
    obtain rfl : k = 0 := by omega
    unfold errS wrS wrS
    rw [show i + ((0 : Nat) : Int) = i by omega]
  · rw [hm] at hok ⊢
    have := hok 0 (by omega)
    unfold errS wrS at this
    unfold wrS wrS
    rw [show i + ((0 : Nat) : Int) = i by omega] at this ⊢
    exact Prod.ext this.symm rfl

/-! ### a record is written -/
def writeJ (s : Dv) (i : Int) (xs : List Int) : Int × Dv :=
  if s.sync.1 ≠ 0 then s.sync else if (s.sync.2.write i xs).1 ≠ 0 then s.sync.2.write i xs else (s.sync.2.write i xs).2.sync
/-- How a device reads whose sectors kept are these, and that is on, and on which nothing waits. -/
def readK (n c : Nat) (K : Sl) (i : Int) : List Int × Int := if i < 0 ∨ (c : Int) ≤ i then ([], 5) else
  match getS K i with
  | none => (List.replicate n 0, 0)
  | some none => ([], 7)
  | some (some xs) => (xs, 0)
theorem read_still {s : Dv} (h1 : s.off = false) (h2 : s.waits = []) (i : Int) : s.read i = readK s.size s.count s.kept i := by
  unfold Dv.read readK
  rw [h1, h2, if_neg (by decide)]
  rfl
/-- A device on which nothing waits. -/
structure Still (s : Dv) : Prop where
  ok : s.Ok
  off : s.off = false
  waits : s.waits = []
theorem down_same (s : Dv) : s.down.size = s.size ∧ s.down.count = s.count ∧ s.down.kept = s.kept ∧ s.down.waits = s.waits := by
  unfold Dv.down
  split <;> exact ⟨rfl, rfl, rfl, rfl⟩
theorem tick_same (s : Dv) : s.tick.size = s.size ∧ s.tick.count = s.count ∧ s.tick.kept = s.kept ∧ s.tick.waits = s.waits := by
  unfold Dv.tick
  split
  · exact ⟨rfl, rfl, rfl, rfl⟩
  · split
    · exact down_same s
    · exact ⟨rfl, rfl, rfl, rfl⟩
theorem tick_off {s : Dv} (h : s.fuse ≠ 0) : s.tick.off = s.off := by
  unfold Dv.tick
  split
  · rfl
  · first | rfl | rw [if_neg h]
/-- What lies kept, and waits, once a record's writing has gone as far as it goes: nothing of it, or it waits, or it is kept. -/
theorem writeJ_ends {s : Dv} (h : Still s) {i : Int} {xs : List Int} (h0 : 0 ≤ i) (h1 : i < s.count) (hx : xs.length = s.size) :
    ((writeJ s i xs).2.size = s.size ∧ (writeJ s i xs).2.count = s.count) ∧
    (((writeJ s i xs).1 = 8 ∧ (writeJ s i xs).2.kept = s.kept ∧ ((writeJ s i xs).2.waits = [] ∨ (writeJ s i xs).2.waits = [(i, some xs)])) ∨
      ((writeJ s i xs).1 = 0 ∧ (writeJ s i xs).2.kept = putS s.kept i (some xs) ∧ (writeJ s i xs).2.waits = [] ∧ (writeJ s i xs).2.off = false)) := by
  obtain ⟨t1, t2, t3, t4⟩ := tick_same s
  by_cases f0 : s.fuse = 0
  · have e : s.sync = (8, s.tick) := by unfold Dv.sync; rw [if_neg (by rw [h.off]; decide), if_pos f0]
    have ew : writeJ s i xs = (8, s.tick) := by unfold writeJ; rw [e, if_pos (show (8 : Int) ≠ 0 by decide)]
    rw [ew]
    exact ⟨⟨t1, t2⟩, Or.inl ⟨rfl, t3, Or.inl (t4.trans h.waits)⟩⟩
  have e : s.sync = (0, s.tick.flush) := by unfold Dv.sync; rw [if_neg (by rw [h.off]; decide), if_neg f0]
  obtain ⟨p, hp⟩ : ∃ p, p = s.tick.flush := ⟨_, rfl⟩
  have p1 : p.size = s.size := by rw [hp]; exact t1
  have p2 : p.count = s.count := by rw [hp]; exact t2
  have p3 : p.kept = s.kept := by rw [hp]; show merge s.tick.kept s.tick.waits = _; rw [t3, t4, h.waits]; rfl
  have p4 : p.waits = [] := by rw [hp]; rfl
  have p5 : p.off = false := by rw [hp]; show s.tick.off = false; rw [tick_off f0]; exact h.off
  rw [← hp] at e
  obtain ⟨u1, u2, u3, u4⟩ := tick_same (p.writes i xs)
  have v4 : (p.writes i xs).waits = [(i, some xs)] := by show putS p.waits i (some xs) = _; rw [p4]; rfl
  by_cases g0 : p.fuse = 0
  · have e2 : p.write i xs = (8, (p.writes i xs).tick) := by
      unfold Dv.write
      rw [if_neg (by rw [p5]; decide), if_neg (by omega), if_neg (fun c => c (by omega)), if_pos g0]
    have ew : writeJ s i xs = (8, (p.writes i xs).tick) := by unfold writeJ; rw [e, if_neg (show ¬ (0 : Int) ≠ 0 by decide)]; rw [e2, if_pos (show (8 : Int) ≠ 0 by decide)]
    rw [ew]
    refine ⟨⟨u1.trans p1, u2.trans p2⟩, Or.inl ⟨rfl, u3.trans p3, Or.inr (u4.trans v4)⟩⟩
  have e2 : p.write i xs = (0, { (p.writes i xs).tick with wr := p.wr + 1 }) := by
    unfold Dv.write
    rw [if_neg (by rw [p5]; decide), if_neg (by omega), if_neg (fun c => c (by omega)), if_neg g0]
  obtain ⟨q, hq⟩ : ∃ q, q = ({ (p.writes i xs).tick with wr := p.wr + 1 } : Dv) := ⟨_, rfl⟩
  have q1 : q.size = s.size := by rw [hq]; exact u1.trans p1
  have q2 : q.count = s.count := by rw [hq]; exact u2.trans p2
  have q3 : q.kept = s.kept := by rw [hq]; exact u3.trans p3
  have q4 : q.waits = [(i, some xs)] := by rw [hq]; exact u4.trans v4
  have q5 : q.off = false := by rw [hq]; show (p.writes i xs).tick.off = false; rw [tick_off (s := p.writes i xs) g0]; exact p5
  rw [← hq] at e2
  have ew : writeJ s i xs = q.sync := by unfold writeJ; rw [e, if_neg (show ¬ (0 : Int) ≠ 0 by decide)]; rw [e2, if_neg (show ¬ (0 : Int) ≠ 0 by decide)]
  rw [ew]
  obtain ⟨x1, x2, x3, x4⟩ := tick_same q
  by_cases k0 : q.fuse = 0
  · have e3 : q.sync = (8, q.tick) := by unfold Dv.sync; rw [if_neg (by rw [q5]; decide), if_pos k0]
    rw [e3]
    exact ⟨⟨x1.trans q1, x2.trans q2⟩, Or.inl ⟨rfl, x3.trans q3, Or.inr (x4.trans q4)⟩⟩
  · have e3 : q.sync = (0, q.tick.flush) := by unfold Dv.sync; rw [if_neg (by rw [q5]; decide), if_neg k0]
    rw [e3]
    refine ⟨⟨x1.trans q1, x2.trans q2⟩, Or.inr ⟨rfl, ?_, rfl, ?_⟩⟩
    · show merge q.tick.kept q.tick.waits = _
      rw [x3, x4, q3, q4]
      rfl
    · show q.tick.off = false
      rw [tick_off k0]
      exact q5
theorem writeJ_on {s : Dv} (h : On s) (hw : s.waits = []) {i : Int} {xs : List Int} (h0 : 0 ≤ i) (h1 : i < s.count) (hx : xs.length = s.size) :
    (writeJ s i xs).1 = 0 ∧ On (writeJ s i xs).2 ∧ (writeJ s i xs).2.waits = [] ∧ (writeJ s i xs).2.kept = putS s.kept i (some xs) ∧ (writeJ s i xs).2.size = s.size ∧ (writeJ s i xs).2.count = s.count ∧ (writeJ s i xs).2.offs = s.offs ∧ (writeJ s i xs).2.wr = s.wr + 1 := by
  have ht : ∀ t : Dv, t.fuse = -1 → t.tick = t := fun t h => by unfold Dv.tick; rw [if_pos h]
  have e : s.sync = (0, s.flush) := by unfold Dv.sync; rw [if_neg (by rw [h.off]; decide), if_neg (by rw [h.fuse]; decide), ht s h.fuse]
  have ef : s.flush = s := by
    unfold Dv.flush
    rw [hw]
    show ({ s with kept := s.kept, waits := [] } : Dv) = s
    rw [← hw]
  have ok1 : (s.writes i xs).Ok := h.ok.writes h0 h1
  have e2 : s.write i xs = (0, { s.writes i xs with wr := s.wr + 1 }) := by
    unfold Dv.write
    rw [if_neg (by rw [h.off]; decide), if_neg (by omega), if_neg (fun c => c hx), if_neg (by rw [h.fuse]; decide), ht (s.writes i xs) h.fuse]
  obtain ⟨q, hq⟩ : ∃ q, q = ({ s.writes i xs with wr := s.wr + 1 } : Dv) := ⟨_, rfl⟩
  have okq : q.Ok := by
    rw [hq]
    exact ⟨ok1.s1, ok1.s2, ok1.c1, ok1.c2, ok1.ku, ok1.wu, ok1.kr, ok1.wr_, ok1.wn, ok1.f1, ok1.f2, ok1.o1, by have := h.ok.w1; show 0 ≤ s.wr + 1; omega⟩
  have e3 : q.sync = (0, q.flush) := by unfold Dv.sync; rw [if_neg (by rw [hq]; show ¬ (s.off = true); rw [h.off]; decide), if_neg (by rw [hq]; show ¬ (s.fuse = 0); rw [h.fuse]; decide), ht q (by rw [hq]; exact h.fuse)]
  have ew : writeJ s i xs = (0, q.flush) := by unfold writeJ; rw [e, if_neg (show ¬ (0 : Int) ≠ 0 by decide)]; rw [ef, e2, ← hq, if_neg (show ¬ (0 : Int) ≠ 0 by decide)]; exact e3
  rw [ew]
  refine ⟨rfl, ⟨okq.flush, by show q.off = false; rw [hq]; exact h.off, by show q.fuse = -1; rw [hq]; exact h.fuse⟩, rfl, ?_, by rw [hq]; rfl, by rw [hq]; rfl, by rw [hq]; rfl, by rw [hq]; rfl⟩
  show merge q.kept q.waits = _
  rw [hq]
  show merge s.kept (putS s.waits i (some xs)) = _
  rw [hw]
  rfl

/-! ### behind a fall -/
theorem back_still {s : Dv} (picks : List Int) : (s.back picks).off = false ∧ (s.back picks).waits = [] ∧ (s.back picks).size = s.size ∧ (s.back picks).count = s.count ∧ (s.back picks).kept = backK s picks s.waits.length := by
  obtain ⟨d1, d2, _, _⟩ := down_same s
  exact ⟨rfl, rfl, d1, d2, rfl⟩
theorem readK_put {n c : Nat} {K : Sl} (hu : Up K) {i j : Int} {o : Option (List Int)} : readK n c (putS K i o) j = if j = i ∧ ¬ (j < 0 ∨ (c : Int) ≤ j) then (match o with | none => ([], 7) | some xs => (xs, 0)) else readK n c K j := by
  unfold readK
  rw [getS_putS hu]
  by_cases hr : j < 0 ∨ (c : Int) ≤ j
  · rw [if_pos hr, if_pos hr, if_neg (fun c => c.2 hr)]
  · rw [if_neg hr, if_neg hr]
    by_cases hj : j = i
    · rw [if_pos hj, if_pos ⟨hj, hr⟩]
      cases o <;> rfl
    · rw [if_neg hj, if_neg (fun c => hj c.1)]

/-- A record is written, no fuse. -/
theorem keeps_next {s : Dv} (h : On s) (hw : s.waits = []) {r t : Rec} {k : Nat} (hs : StandsF s.read r k) (hc : 2 ≤ s.count) (ht : t.Ok) (hm : t.may = true) (hq : t.seq = ((k + 1 : Nat) : Int)) :
    StandsF (writeJ s (((k + 1) % 2 : Nat) : Int) (chunkP s.size t.putL 0)).2.read t (k + 1) := by
  have hk2 : (k + 1) % 2 < 2 := Nat.mod_lt _ (by omega)
  have hk3 : k % 2 < 2 := Nat.mod_lt _ (by omega)
  obtain ⟨_, a2, a3, a4, a5, a6, _⟩ := writeJ_on h hw (i := (((k + 1) % 2 : Nat) : Int)) (xs := chunkP s.size t.putL 0) (by omega) (by omega) (chunkP_length _ _ _)
  have hn := h.ok.s1
  refine stands_next hs ht hm hq (n := s.size) (by omega) ?_ ?_
  · rw [read_still a2.off a3, a4, a5, a6, readK_put h.ok.ku, if_pos ⟨rfl, by omega⟩]
  · rw [read_still a2.off a3, a4, a5, a6, readK_put h.ok.ku, if_neg (by rintro ⟨e, _⟩; omega), read_still h.off hw]
/-- Whatever falls, the last record is the new one, or the one ahead of it. -/
theorem falls_last {s : Dv} (h : Still s) {r t : Rec} {k : Nat} (hs : StandsF s.read r k) (hc : 2 ≤ s.count) (ht : t.Ok) (hm : t.may = true) (hq : t.seq = ((k + 1 : Nat) : Int)) (picks : List Int) :
    (lastF ((writeJ s (((k + 1) % 2 : Nat) : Int) (chunkP s.size t.putL 0)).2.back picks).read = r ∨ lastF ((writeJ s (((k + 1) % 2 : Nat) : Int) (chunkP s.size t.putL 0)).2.back picks).read = t) ∧
      ((writeJ s (((k + 1) % 2 : Nat) : Int) (chunkP s.size t.putL 0)).1 = 0 → lastF ((writeJ s (((k + 1) % 2 : Nat) : Int) (chunkP s.size t.putL 0)).2.back picks).read = t) := by
  have hk2 : (k + 1) % 2 < 2 := Nat.mod_lt _ (by omega)
  have hk3 : k % 2 < 2 := Nat.mod_lt _ (by omega)
  have hn := h.ok.s1
  obtain ⟨⟨z1, z2⟩, hcase⟩ := writeJ_ends h (i := (((k + 1) % 2 : Nat) : Int)) (xs := chunkP s.size t.putL 0) (by omega) (by omega) (chunkP_length _ _ _)
  generalize writeJ s (((k + 1) % 2 : Nat) : Int) (chunkP s.size t.putL 0) = q at *
  obtain ⟨b1, b2, b3, b4, b5⟩ := back_still (s := q.2) picks
  have hread : ∀ j, (q.2.back picks).read j = readK s.size s.count (backK q.2 picks q.2.waits.length) j := fun j => by rw [read_still b1 b2, b3, b4, b5, z1, z2]
  have hold : ∀ j, s.read j = readK s.size s.count s.kept j := fun j => read_still h.off h.waits j
  have new_ : backK q.2 picks q.2.waits.length = putS s.kept (((k + 1) % 2 : Nat) : Int) (some (chunkP s.size t.putL 0)) → lastF (q.2.back picks).read = t := by
    intro e
    refine lastF_of (k := k + 1) (stands_next hs ht hm hq (n := s.size) (by omega) ?_ ?_)
    · rw [hread, e, readK_put h.ok.ku, if_pos ⟨rfl, by omega⟩]
    · rw [hread, e, readK_put h.ok.ku, if_neg (by rintro ⟨e, _⟩; omega), hold]
  have old_ : backK q.2 picks q.2.waits.length = s.kept → lastF (q.2.back picks).read = r := by
    intro e
    refine lastF_of (k := k) (stands_same hs ?_ ?_)
    · rw [hread, e, hold]
    · rw [hread, e, hold]
  have torn_ : backK q.2 picks q.2.waits.length = putS s.kept (((k + 1) % 2 : Nat) : Int) none → lastF (q.2.back picks).read = r := by
    intro e
    refine lastF_of (k := k) (stands_torn hs ?_ ?_)
    · rw [hread, e, readK_put h.ok.ku, if_pos ⟨rfl, by omega⟩]
      decide
    · rw [hread, e, readK_put h.ok.ku, if_neg (by rintro ⟨e, _⟩; omega), hold]
  rcases hcase with ⟨c1, c2, c3 | c3⟩ | ⟨c1, c2, c3, _⟩
  · refine ⟨Or.inl (old_ ?_), fun c => absurd (c1.symm.trans c) (by decide)⟩
    rw [c3]
    show backK q.2 picks 0 = _
    exact c2
  · have e : backK q.2 picks q.2.waits.length = backStep picks s.kept 0 ((((k + 1) % 2 : Nat) : Int), some (chunkP s.size t.putL 0)) := by
      rw [c3]
      show backK q.2 picks (0 + 1) = _
      rw [backK_next, c3]
      show backStep picks q.2.kept 0 _ = _
      rw [c2]
      rfl
    refine ⟨?_, fun c => absurd (c1.symm.trans c) (by decide)⟩
    unfold backStep at e
    split at e
    · exact Or.inr (new_ e)
    · split at e
      · exact Or.inl (torn_ e)
      · exact Or.inl (old_ e)
  · have e : backK q.2 picks q.2.waits.length = putS s.kept (((k + 1) % 2 : Nat) : Int) (some (chunkP s.size t.putL 0)) := by
      rw [c3]
      exact c2
    exact ⟨Or.inr (new_ e), fun _ => new_ e⟩
/-- Nothing was written: the last one stays. -/
theorem falls_none {s : Dv} (h : Still s) {r : Rec} {k : Nat} (hs : StandsF s.read r k) (picks : List Int) : lastF (s.back picks).read = r := by
  obtain ⟨b1, b2, b3, b4, b5⟩ := back_still (s := s) picks
  have e : backK s picks s.waits.length = s.kept := by rw [h.waits]; rfl
  have hh : ∀ j, (s.back picks).read j = s.read j := fun j => by rw [read_still b1 b2, b3, b4, b5, e, read_still h.off h.waits]
  refine lastF_of (k := k) (stands_same hs (hh 0).symm (hh 1).symm)
/-- A new device's journal. -/
theorem stands_new {n c : Nat} (hn : 128 ≤ n) (hc : 2 ≤ c) : StandsF (Dv.new n c).read rec0 0 := by
  have hr : ∀ j : Int, 0 ≤ j → j < 2 → (Dv.new n c).read j = (List.replicate n 0, 0) := by
    intro j h0 h1
    rw [read_still rfl rfl]
    unfold readK
    have e1 : (Dv.new n c).count = c := rfl
    rw [if_neg (by rw [e1]; omega)]
    rfl
  have hbad : ∀ j : Int, 0 ≤ j → j < 2 → ¬ GoodF (Dv.new n c).read j := by
    rintro j h0 h1 ⟨e, _⟩
    unfold rowF at e
    rw [hr j h0 h1, if_pos rfl] at e
    simp only [List.take_replicate, Nat.min_eq_left (show 99 ≤ n by omega)] at e
    unfold getE at e
    rw [if_neg (by rw [List.length_replicate]; omega), if_pos (by rw [List.take_replicate]; decide)] at e
    exact absurd e (by decide)
  exact ⟨rfl, rec0_ok, fun _ => ⟨rfl, hbad 0 (by omega) (by omega), hbad 1 (by omega) (by omega)⟩, fun h => absurd h (by omega), fun h => absurd h (hbad 1 (by omega) (by omega))⟩
end Go.Proofs.YtpnodocjpedcmaaDoor.Jr
