/-
  Layer 24, journal: what was put is got (plain). Conditions: as each theorem names.
-/
import Derived.Test.YtpnodocjpedcmaaDoorMJrG
namespace Go.Proofs.YtpnodocjpedcmaaDoor.Jr
open Go.ChangeShapes Go.WideShapes Go.ChangeAt Go.RowKit Go.Proofs.YtpnodocjpedcmaaDoor.Kit Go.Proofs.YtpnodocjpedcmaaDoor.Oct
open Go.Proofs.YtpnodocjpedcmaaDoor.Sha (sumL sumL_length sumL_octets)

theorem seg_num {xs pre b post : List Int} {p n : Nat} (h : xs = pre ++ (b ++ post)) (hp : pre.length = p) (hb : b.length = n) : (xs.drop p).take n = b := by
  subst h hp hb; simp
theorem seg_one {xs pre post : List Int} {p : Nat} {z : Int} (h : xs = pre ++ (z :: post)) (hp : pre.length = p) : xs.getD p 0 = z := by
  subst h hp; simp
theorem val_be4 (x : Int) (hx : 0 ≤ x ∧ x ≤ 2147483647) : val (be 4 x) = x := by
  rw [val_be 4 x, show (256 : Int) ^ 4 = 4294967296 by decide]; omega

theorem got_put (r : Rec) (hr : r.Ok) (hm : r.may = true) : getE r.putL = 0 ∧ recOf r.putL = r ∧ r.putL.length = 99 ∧ Octets r.putL := by
  obtain ⟨ha, hs, hmd, hlen, hnl, hdn, hblk, hasz⟩ := Rec.may_is hm
  obtain ⟨l0, l1, l2, l3, l4, l5, l6, l7, l8, l9⟩ := r.q_length hr.man
  have hsum : ((sumL r.q9).take 8).length = 8 := by rw [List.length_take, sumL_length]; rfl
  have hL : r.putL.length = 99 := by unfold Rec.putL; rw [List.length_append, l9, hsum]
  have hO : Octets r.putL := octets_app (r.q9_octets hr) ((sumL_octets _).head 8)
  obtain ⟨s8, hs8⟩ : ∃ s, (sumL r.q9).take 8 = s := ⟨_, rfl⟩
  have e9 : r.putL = r.q9 ++ s8 := by rw [← hs8]; rfl
  have e8 : r.putL = r.q8 ++ (be 4 r.asz ++ s8) := by rw [e9, show r.q9 = r.q8 ++ be 4 r.asz from rfl, List.append_assoc]
  have e7 : r.putL = r.q7 ++ (be 4 r.blk ++ (be 4 r.asz ++ s8)) := by rw [e8, show r.q8 = r.q7 ++ be 4 r.blk from rfl, List.append_assoc]
  obtain ⟨t7, h7⟩ : ∃ t, be 4 r.blk ++ (be 4 r.asz ++ s8) = t := ⟨_, rfl⟩
  have e6 : r.putL = r.q6 ++ (be 8 r.at_ ++ t7) := by rw [e7, h7, show r.q7 = r.q6 ++ be 8 r.at_ from rfl, List.append_assoc]
  obtain ⟨t6, h6⟩ : ∃ t, be 8 r.at_ ++ t7 = t := ⟨_, rfl⟩
  have e5 : r.putL = r.q5 ++ (be 4 r.dn ++ t6) := by rw [e6, h6, show r.q6 = r.q5 ++ be 4 r.dn from rfl, List.append_assoc]
  obtain ⟨t5, h5⟩ : ∃ t, be 4 r.dn ++ t6 = t := ⟨_, rfl⟩
  have e4 : r.putL = r.q4 ++ (be 4 r.nl ++ t5) := by rw [e5, h5, show r.q5 = r.q4 ++ be 4 r.nl from rfl, List.append_assoc]
  obtain ⟨t4, h4⟩ : ∃ t, be 4 r.nl ++ t5 = t := ⟨_, rfl⟩
  have e3b : r.putL = (r.q3 ++ r.man) ++ (be 8 r.nv ++ t4) := by rw [e4, h4, show r.q4 = r.q3 ++ r.man ++ be 8 r.nv from rfl, List.append_assoc (r.q3 ++ r.man)]
  obtain ⟨t3, h3⟩ : ∃ t, be 8 r.nv ++ t4 = t := ⟨_, rfl⟩
  have e3 : r.putL = r.q3 ++ (r.man ++ t3) := by rw [e3b, h3, List.append_assoc]
  obtain ⟨t2, h2⟩ : ∃ t, r.man ++ t3 = t := ⟨_, rfl⟩
  have e2 : r.putL = r.q2 ++ (r.st :: (r.md :: t2)) := by rw [e3, h2, show r.q3 = r.q2 ++ [r.st, r.md] from rfl, List.append_assoc]; rfl
  have e2b : r.putL = (r.q2 ++ [r.st]) ++ (r.md :: t2) := by rw [e2, List.append_assoc]; rfl
  obtain ⟨t1, h1⟩ : ∃ t, (r.st :: (r.md :: t2)) = t := ⟨_, rfl⟩
  have e1 : r.putL = r.q1 ++ (be 4 r.len ++ t1) := by rw [e2, h1, show r.q2 = r.q1 ++ be 4 r.len from rfl, List.append_assoc]
  obtain ⟨t0, h0⟩ : ∃ t, be 4 r.len ++ t1 = t := ⟨_, rfl⟩
  have e0b : r.putL = (r.q0 ++ [r.act]) ++ (be 8 r.ver ++ t0) := by rw [e1, h0, show r.q1 = r.q0 ++ [r.act] ++ be 8 r.ver from rfl, List.append_assoc (r.q0 ++ [r.act])]
  obtain ⟨tv, hv⟩ : ∃ t, be 8 r.ver ++ t0 = t := ⟨_, rfl⟩
  have e0 : r.putL = r.q0 ++ (r.act :: tv) := by rw [e0b, hv, List.append_assoc]; rfl
  obtain ⟨ta, hta⟩ : ∃ t, (r.act :: tv) = t := ⟨_, rfl⟩
  have em : r.putL = [74, 82, 78, 76] ++ (be 8 r.seq ++ ta) := by rw [e0, hta, show r.q0 = [74, 82, 78, 76] ++ be 8 r.seq from rfl, List.append_assoc]
  have b8 := fun x => be_length 8 x
  have b4 := fun x => be_length 4 x
  have hrec : recOf r.putL = r := by
    have n1 : numA r.putL 4 8 = r.seq := by unfold numA; rw [seg_num (p := 4) em rfl (b8 _)]; exact val_be8 _ hr.seq
    have n2 : r.putL.getD 12 0 = r.act := seg_one e0 l0
    have n3 : numA r.putL 13 8 = r.ver := by unfold numA; rw [seg_num e0b (by rw [List.length_append, l0]; rfl) (b8 _)]; exact val_be8 _ hr.ver
    have n4 : numA r.putL 21 4 = r.len := by unfold numA; rw [seg_num e1 l1 (b4 _)]; exact val_be4 _ hlen
    have n5 : r.putL.getD 25 0 = r.st := seg_one e2 l2
    have n6 : r.putL.getD 26 0 = r.md := seg_one e2b (by rw [List.length_append, l2]; rfl)
    have n7 : (r.putL.drop 27).take 32 = r.man := seg_num e3 l3 hr.man
    have n8 : numA r.putL 59 8 = r.nv := by unfold numA; rw [seg_num e3b (by rw [List.length_append, l3, hr.man]) (b8 _)]; exact val_be8 _ hr.nv
    have n9 : numA r.putL 67 4 = r.nl := by unfold numA; rw [seg_num e4 l4 (b4 _)]; exact val_be4 _ hnl
    have n10 : numA r.putL 71 4 = r.dn := by unfold numA; rw [seg_num e5 l5 (b4 _)]; exact val_be4 _ hdn
    have n11 : numA r.putL 75 8 = r.at_ := by unfold numA; rw [seg_num e6 l6 (b8 _)]; exact val_be8 _ hr.at_
    have n12 : numA r.putL 83 4 = r.blk := by unfold numA; rw [seg_num e7 l7 (b4 _)]; exact val_be4 _ hblk
    have n13 : numA r.putL 87 4 = r.asz := by unfold numA; rw [seg_num e8 l8 (b4 _)]; exact val_be4 _ hasz
    unfold recOf
    rw [n1, n2, n3, n4, n5, n6, n7, n8, n9, n10, n11, n12, n13]
  refine ⟨?_, hrec, hL, hO⟩
  unfold getE
  have t4 : r.putL.take 4 = [74, 82, 78, 76] := by rw [em]; rfl
  have t91 : r.putL.take 91 = r.q9 := by rw [e9, List.take_left' l9]
  have d91 : (r.putL.drop 91).take 8 = (sumL r.q9).take 8 := by rw [e9, List.drop_left' l9, hs8, List.take_of_length_le (by rw [← hs8, hsum]; omega)]
  rw [if_neg (by omega), if_neg (by rw [t4]; exact fun h => h rfl), if_neg (by rw [t91, d91]; exact fun h => h rfl), hrec, if_pos hm]
theorem gotV_put (r : Rec) (hr : r.Ok) (hm : r.may = true) : getV r.putL = r := by
  obtain ⟨h1, h2, _, _⟩ := got_put r hr hm
  unfold getV
  rw [if_pos h1, h2]
end Go.Proofs.YtpnodocjpedcmaaDoor.Jr
