/-
  Layer 7, part: Write: contract. Conditions: as each theorem names.
-/
import Derived.Test.YtpnodocjpedcmaaDoorPaD
import Derived.Laws.CopyOwn
namespace Go.Proofs.YtpnodocjpedcmaaDoor.Pt
open Go.ChangeShapes Go.WideShapes Go.ChangeAt Go.RowKit Go.Proofs.YtpnodocjpedcmaaDoor.Kit Go.Proofs.YtpnodocjpedcmaaDoor.Sec

/-- copy(v, ys), ys of any length. -/
theorem wpList_copy_some {P : Program} {w : World} {ops : Array Oper} {rest : List Oper} {o : Oper} {a : Act} {Q : Exit → Act → World → Prop} (hgd : o.guard = none) (d s : Operand) (t : TypeId)
    (ho : o.op = .call { callee := .builtin .copy, args := #[d, s], argTypes := #[t, t] }) {e : TypeId} {k : IntKind} {bytes : Nat} (he : IntElem P t e k bytes)
    {B B' : Nat} {v : Value} {xs ys : List Int} (hown : Own w B e k v xs) (hd : a.eval d = v) {A : Option Addr} {c : Nat} (hs : a.eval s = .slice A ys.length c) (hr : Holds w B' k A ys)
    (hx : 0 < xs.length) (hy : 0 < ys.length) (hbase : B ≤ w.heap.size)
    (h : ∀ w', Own w' B e k v (ys.take xs.length ++ xs.drop ys.length) → w.grownBy w' v.ownBlock → Below B w w' → wpList P ops Q rest (a.put o.dst (goInt (ys.take xs.length).length)) w') :
    wpList P ops Q (o :: rest) a w := by
  obtain ⟨ht, hinfo, hb8⟩ := he
  obtain ⟨i, hi, hz, hsi, hby⟩ := info_parts hinfo
  have hsz : (P.info? e).map (·.size) = some 1 := by rw [hi]; simp [hsi]
  obtain ⟨b, off, rfl, hb, hc⟩ := hr hy
  rcases hown.2 with ⟨rfl, h1⟩ | ⟨g, cap, cur, rfl, hbg, hg, hnc, hcm, hcs, htake⟩
  · omega
  · have hzl : (ys.take xs.length).length ≤ xs.length := by rw [List.length_take]; omega
    have hz0 : 0 < (ys.take xs.length).length := by rw [List.length_take]; omega
    have hdr : xs.drop ys.length = xs.drop (ys.take xs.length).length := by
      rw [List.length_take]
      by_cases hh : xs.length ≤ ys.length
      · rw [List.drop_of_length_le hh, List.drop_of_length_le (by omega)]
      · rw [Nat.min_eq_right (by omega)]
    rw [hdr] at h
    have hgz : ∀ j, j < (ys.take xs.length).length → (ys.take xs.length).getD j 0 = ys.getD j 0 := fun j hj => by
      rw [List.length_take] at hj
      rw [List.getD, List.getD, List.getElem?_take, if_pos (by omega)]
    have hmin : (ys.take xs.length).length = Nat.min ys.length xs.length := by rw [List.length_take]; exact Nat.min_comm _ _
    have hzy : (ys.take xs.length).length ≤ ys.length := by rw [List.length_take]; omega
    generalize ys.take xs.length = zs at *
    refine wpList_copy_own hgd d s t t ho e ht hsz g 0 xs.length cap ⟨b, off, none⟩ ys.length c hd hs cur e hg (zs.map (Value.int k)) (by rw [List.length_map]; exact hmin) ?_ (by simp; omega) (ints_one k zs) ?_
    · intro j u hu
      obtain ⟨hj, rfl⟩ := get_ints hu
      rw [add_plain, hgz j hj]
      exact hc j (by omega)
    · have hlen : (zs ++ xs.drop zs.length).length = xs.length := by simp; omega
      have hgrown : w.grownBy (w.setRow g (cur.toList.take 0 ++ (zs.map (Value.int k) ++ cur.toList.drop (0 + (zs.map (Value.int k)).length))).toArray) (some g) :=
        ⟨rfl, rfl, rfl, by simp [World.setRow], fun j _ hj => setRow_other w g j _ (fun e => hj (by rw [e]))⟩
      rw [show goInt (zs.map (Value.int k)).length = goInt zs.length by simp]
      refine h _ ?_ hgrown (below_of_grown hgrown hbase fun g' hg' => by simp at hg'; omega)
      refine ⟨by simp, .inr ⟨g, cap, _, by rw [hlen], hbg, setRow_heap w g _ _ e _ hg, by omega, hcm, ?_, ?_⟩⟩
      · simp; omega
      · rw [hlen]
        simp only [Nat.mul_one] at htake ⊢
        simp only [List.take_zero, List.nil_append, Nat.zero_add, List.length_map, List.map_append, List.map_drop]
        rw [List.take_append, List.length_map, List.take_of_length_le (by simp; omega), ← htake, List.drop_take]

def PWrite (s : Dv) (F : Int) (T : Nat) (x : Int) (bs : List Int) (r : Int × Dv) : Prop :=
  if x.tmod s.size ≠ 0 then r = (1, s) else if 0 ≤ x ∧ x ≤ T ∧ 0 ≤ (bs.length : Int) ∧ (bs.length : Int) ≤ T - x then WritesP s (F + (x.toNat / s.size : Nat)) bs r else r = (5, s)
/-- Behind k writes. -/
structure WGoing (I : Nat → Prop) (w0 w : World) (a mk mw : Nat) (s : Dv) (i : Int) (bs : List Int) (k : Nat) (A : Option Addr) : Prop where
  d : DvAt w I a mk mw (wrS s i bs k)
  t : TurnsIn (DSet a mk mw) w0 w
  ok : OkW s i bs k
  r : Holds w w0.heap.size .u8 A (bs.drop (k * s.size))

set_option maxRecDepth 100000 in
set_option maxHeartbeats 6400000 in
theorem pwrite_any (I : Nat → Prop) (p a mk mw : Nat) (F C : Int) (T : Nat) (s : Dv) (x : Int) (A : Option Addr) (bs : List Int) (c : Nat) (w : World) (hp : PartAt w p a F C) (h : DvAt w I a mk mw s) (hI : ∀ g, w.heap.size ≤ g → I g) (hl : Lies s F C T) (hx : -9223372036854775808 ≤ x ∧ x ≤ 9223372036854775807)
    (hbl : bs.length ≤ 1000000) (hbc : bs.length ≤ c) (hcm : c ≤ maxLen) (hbo : Octets bs) (hr : Holds w w.heap.size .u8 A bs) (hof : s.offs ≤ 100000000) (hwr : s.wr ≤ 100000000) :
    Calls Tryd.prog 54 #[.pointer (some ⟨p, 0, none⟩), .int .i64 x, .slice A bs.length c] w fun e w' => ∃ r, PWrite s F T x bs r ∧ e = .returned (.int .i64 r.1) ∧ DvAt w' I a mk mw r.2 ∧ TurnsIn (DSet a mk mw) w w' := by
  have GS := Lib.hid (size_any I a mk mw s w h)
  have x0 : w.cell? ⟨p, 0, none⟩ = some (.pointer (some ⟨a, 0, none⟩)) := hp.cell 0
  have hs1 := h.ok.s1
  have hs2 := h.ok.s2
  unfold PWrite
  by_cases hm : x.tmod s.size = 0
  · simp only [if_neg (not_not_intro hm)]
    have b0 : (x.tmod (s.size : Int) != 0) = false := by rw [hm]; rfl
    have hsz : ¬ s.size = 0 := by omega
    have GH := Lib.hid (has_any I p a mk mw F C T s x bs.length w hp h hl hx)
    by_cases hin : 0 ≤ x ∧ x ≤ (T : Int) ∧ 0 ≤ (bs.length : Int) ∧ (bs.length : Int) ≤ (T : Int) - x
    · rw [decide_eq_true hin] at GH
      obtain ⟨b, rfl⟩ : ∃ b : Nat, x = (b : Int) := ⟨x.toNat, by omega⟩
      simp only [if_pos hin, Int.toNat_natCast]
      have hT := hl.most h.ok
      have HL := Lib.hid hl
      have HD1 := Lib.hid (fun W (t : TurnsIn (DSet a mk mw) w W) => (Block.out hp t (h.not_cells hp (by decide)) : PartAt W p a F C))
      have HDB := Lib.hid h
      have HR := Lib.hid (fun W (t : TurnsIn (DSet a mk mw) w W) => h.holds t hr (Nat.le_refl _))
      have HI := Lib.hid hI
      have HOK := Lib.hid h.ok
      have hcnt : (s.count : Int) ≤ 1048576 := by have := h.ok.c2; omega
      have HFC := hl.fc
      have HF0 := hl.f0
      have hCS := hl.t
      have HNear := Lib.hid (fun k => wrS_near s (F + ((b / s.size : Nat) : Int)) bs k)
      obtain ⟨z, hz⟩ : ∃ z, s.size = z := ⟨_, rfl⟩
      have HZ := Lib.hid hz
      rw [hz] at hm b0 hsz hs1 hs2 GS hCS HNear ⊢
      obtain ⟨i0, hi0⟩ : ∃ i0, F + ((b / z : Nat) : Int) = i0 := ⟨_, rfl⟩
      rw [hi0] at HNear ⊢
      have HI0 := Lib.hid hi0
      clear hp h hr hI hl hx hz hi0
      go_enter Tryd.func54, Tryd.ntmps54
      go_wp2_with (first
        | (have _t := x0; go_at_call 57; (with_reducible refine GS.out.mono ?_); rintro e w1 ⟨rfl, rfl⟩; clear x0)
        | (go_at_call 76; (with_reducible refine GH.out.mono ?_); rintro e w1 ⟨rfl, k1, hk1⟩
           have T1 : TurnsIn (DSet a mk mw) w w1 := by rw [hk1]; exact (TurnsIn.refl _ w).drewN k1
           have D1 : DvAt w1 I a mk mw s := by rw [hk1]; exact HDB.out.below (below_draws (Below.refl _ _) k1)
           have x1 : w1.cell? ⟨p, 0, none⟩ = some (.pointer (some ⟨a, 0, none⟩)) := (HD1.out _ T1).cell 0
           clear hk1 GH))
      refine (size_any I a mk mw s _ D1).mono ?_
      rintro e w2 ⟨rfl, rfl⟩
      rw [HZ.out]
      go_wp2_with fail
      have HT1 := Lib.hid T1
      have HDD := Lib.hid D1
      clear T1 D1 x1
      go_loopw [1, 2] (fun q v wr => ∃ (P k : Nat) (A' : Option Addr) (c' : Nat), P = b + k * z ∧ k ≤ manyP z bs ∧ q = .int .i64 (P : Int) ∧ v = .slice A' (bs.drop (k * z)).length c' ∧ (bs.drop (k * z)).length ≤ c' ∧ c' ≤ maxLen ∧ WGoing I w wr a mk mw s i0 bs k A') (fun q _ _ => b + bs.length + z - (intOf q).toNat)
      case atStart => exact ⟨b, 0, A, c, by omega, Nat.zero_le _, rfl, by simp, by simpa using hbc, hcm, ⟨HDD.out, HT1.out, fun j hj => absurd hj (by omega), by rw [Nat.zero_mul]; exact HR.out _ HT1.out⟩⟩
      case round =>
        clear HDD HT1
        obtain ⟨P, k, A', c', hP, hk, rfl, rfl, hc1, hc2, G⟩ := hrel
        have hmany := manyP_iff (show 0 < z by omega) bs k
        have hdl : (bs.drop (k * z)).length = bs.length - k * z := List.length_drop
        have HPk := Lib.hid hP
        have HMy := Lib.hid hmany
        obtain ⟨R, hR⟩ : ∃ R, bs.drop (k * z) = R := ⟨_, rfl⟩
        rw [hR] at hc1 hdl ⊢
        have hHR : Holds wr w.heap.size .u8 A' R := by have := G.r; rwa [HZ.out, hR] at this
        by_cases hlt : 0 < R.length
        · have d0 : decide ((0 : Int) < (R.length : Int)) = true := decide_eq_true (by omega)
          have hkm : k < manyP z bs := hmany.2 (by omega)
          obtain ⟨Q, hQ⟩ : ∃ Q : Nat, P / z = Q := ⟨_, rfl⟩
          have hQk : Q = b / z + k := by rw [← hQ, hP, Nat.add_mul_div_right _ _ (by omega)]
          have hq11 : (P : Int).tdiv (z : Int) = (Q : Int) := by rw [← hQ]; exact (Int.ofNat_tdiv P z).symm
          have hPT : (Q : Int) < C := by
            have h1 : P / z * z ≤ P := Nat.div_mul_le_self _ _
            rw [hQ] at h1
            have h2 : ((Q * z : Nat) : Int) < C * (z : Int) := by omega
            rw [Int.natCast_mul] at h2
            exact Int.lt_of_mul_lt_mul_right h2 (by omega)
          obtain ⟨n, hn⟩ : ∃ n, (R.take z).length = n := ⟨_, rfl⟩
          have hn1 : n = min z R.length := by rw [← hn, List.length_take]
          have hch : R.take z ++ (List.replicate z (0 : Int)).drop R.length = chunkP z bs k := by
            unfold chunkP padB
            rw [hR, List.drop_replicate, hn]
            congr 2
            omega
          have HCH := Lib.hid hch
          have HN := Lib.hid hn
          obtain ⟨n1, n2, n3, n4⟩ := HNear.out k
          have hk6 : k ≤ 1000000 := by
            have : k * 1 ≤ k * z := Nat.mul_le_mul_left k (by omega)
            omega
          have GWR := Lib.hid (fun W gb (hd : DvAt W I a mk mw (wrS s i0 bs k)) (hsz : w.heap.size ≤ W.heap.size) (hh : Holds W W.heap.size .u8 (some ⟨gb, 0, none⟩) (chunkP z bs k)) => (by
            have := write_any I a mk mw (wrS s i0 bs k) (F + (Q : Int)) (some ⟨gb, 0, none⟩) (chunkP z bs k) z W hd (fun g hg => HI.out g (by omega)) (by omega) (by rw [chunkP_length]; omega) (chunkP_octets hbo k) hh (by omega) (by omega)
            have e1 : F + (Q : Int) = i0 + (k : Int) := by have := HI0.out; omega
            have e2 : (wrS s i0 bs k).write (F + (Q : Int)) (chunkP z bs k) = (errS s i0 bs k, wrS s i0 bs (k + 1)) := by
              rw [e1]
              have h := HZ.out
              subst h
              rfl
            rw [chunkP_length, e2] at this
            exact this : Calls Tryd.prog 12 #[.pointer (some ⟨a, 0, none⟩), .int .i64 (F + (Q : Int)), .slice (some ⟨gb, 0, none⟩) z z] W (Sec.Leaves I a mk mw W (wrS s i0 bs (k + 1)) (.int .i64 (errS s i0 bs k)))))
          obtain ⟨E, hEe⟩ : ∃ E, errS s i0 bs k = E := ⟨_, rfl⟩
          rw [hEe] at GWR
          have HEe := Lib.hid hEe
          clear hEe
          have HQk := Lib.hid hQk
          have HN1 := Lib.hid hn1
          clear hQk hn1
          have HG := Lib.hid G
          have hHR2 := hHR
          obtain ⟨gA, oA, rfl, hgA, -⟩ := hHR2 hlt
          have HDL := Lib.hid hdl
          have HRR := Lib.hid hR
          clear hP hmany hR G hdl
          go_wp2_with (first
            | (at_make; refine wpList_make_ints _ rfl _ _ _ rfl elem8 z z rfl rfl rfl rfl (Nat.le_refl _) (by omega) ?_; intro w3 own3 hb3 hz3
               have own3 : Own w3 w.heap.size 5 .u8 (.slice (some ⟨wr.heap.size, 0, none⟩) z z) (List.replicate z 0) := own3.mono HG.out.t.size
               have hwz := HG.out.t.size)
            | (have _t := own3; (refine wpList_copy_some rfl (.tmp 42) (.tmp 43) 22 rfl elem8 own3 rfl rfl (hHR.below (hb3.mono hwz)) (by rw [List.length_replicate]; omega) hlt (by omega) ?_); clear _t; intro w4 own4 g4 hb4
               rw [List.length_replicate, HCH.out] at own4
               rw [List.length_replicate, HN.out]))
          have Bw : Below wr.heap.size wr w4 := hb3.trans (below_of_grown g4 (Nat.le_of_lt hz3) (fun g hg => by simp [Value.ownBlock] at hg; omega))
          have HT4 : Hid (TurnsIn (DSet a mk mw) w w4) := Lib.hid (HG.out.t.trans (.ofNew Bw))
          have HP4 := Lib.hid (HD1.out _ HT4.out)
          have HD4 := Lib.hid ((HG.out.d.below Bw).below (below_draws (Below.refl _ _) 1))
          have hsz4 : w.heap.size ≤ w4.drew.heap.size := HT4.out.size
          have hh4 : Hid (Holds w4.drew w4.drew.heap.size .u8 (some ⟨wr.heap.size, 0, none⟩) (chunkP z bs k)) := Lib.hid (by
            obtain ⟨A9, c9, he9, -, -, hh9⟩ := own4.opened
            injection he9 with e1 e2 e3
            subst e1
            exact hh9)
          have HHR := Lib.hid hHR
          clear own4 own3 g4 hb4 hb3 hz3 hHR
          have hRn : n ≤ R.length ∧ 0 < n ∧ n ≤ z := by have := HN1.out; omega
          clear hlt
          refine wp_region_held_drew (S := (fun W => PartAt W p a F C)) (by kernel_rfl) HP4.out (fun hS => ?_)
          refine wpAnyH_take (i := 0) (oi := ⟨some 45, _, _, _, _, _⟩) (v := .pointer (some ⟨p, 0, none⟩)) rfl (by kernel_rfl) (by kernel_rfl) (by kernel_rfl) (fun _ _ _ h => h) (Or.inl ⟨by rfl, fun W hW => by go_simp⟩) hS ?_
          try simp only [Act.put, List.setIfInBounds_toArray, List.set_cons_zero, List.set_cons_succ]
          refine wpAnyH_take (i := 4) (oi := ⟨some 49, _, _, _, _, _⟩) (v := .pointer (some ⟨p, 0, none⟩)) rfl (by kernel_rfl) (by kernel_rfl) (by kernel_rfl) (fun _ _ _ h => h) (Or.inl ⟨by rfl, fun W hW => by go_simp⟩) hS ?_
          try simp only [Act.put, List.setIfInBounds_toArray, List.set_cons_zero, List.set_cons_succ]
          refine wpAnyH_take (i := 9) (oi := ⟨some 54, _, _, _, _, _⟩) (v := .int .i64 (P : Int)) rfl (by kernel_rfl) (by kernel_rfl) (by kernel_rfl) (fun _ _ _ h => h) (Or.inl ⟨by rfl, fun W hW => by go_simp⟩) hS ?_
          try simp only [Act.put, List.setIfInBounds_toArray, List.set_cons_zero, List.set_cons_succ]
          refine wpAnyH_take (i := 10) (oi := ⟨some 55, _, _, _, _, _⟩) (v := .int .i64 (z : Int)) rfl (by kernel_rfl) (by kernel_rfl) (by kernel_rfl) (fun _ _ _ h => h) (Or.inl ⟨by rfl, fun W hW => by go_simp⟩) hS ?_
          try simp only [Act.put, List.setIfInBounds_toArray, List.set_cons_zero, List.set_cons_succ]
          refine wpAnyH_take (i := 13) (oi := ⟨some 58, _, _, _, _, _⟩) (v := .slice (some ⟨wr.heap.size, 0, none⟩) z z) rfl (by kernel_rfl) (by kernel_rfl) (by kernel_rfl) (fun _ _ _ h => h) (Or.inl ⟨by rfl, fun W hW => by go_simp⟩) hS ?_
          try simp only [Act.put, List.setIfInBounds_toArray, List.set_cons_zero, List.set_cons_succ]
          refine wpAnyH_take (i := 1) (oi := ⟨some 46, _, _, _, _, _⟩) (v := .pointer (some ⟨p, 0, none⟩)) rfl (by kernel_rfl) (by kernel_rfl) (by kernel_rfl) (fun _ _ _ h => h) (Or.inl ⟨by rfl, fun W hW => by go_simp⟩) hS ?_
          try simp only [Act.put, List.setIfInBounds_toArray, List.set_cons_zero, List.set_cons_succ]
          refine wpAnyH_take (i := 5) (oi := ⟨some 50, _, _, _, _, _⟩) (v := .pointer (some ⟨p, 0, none⟩)) rfl (by kernel_rfl) (by kernel_rfl) (by kernel_rfl) (fun _ _ _ h => h) (Or.inl ⟨by rfl, fun W hW => by go_simp⟩) hS ?_
          try simp only [Act.put, List.setIfInBounds_toArray, List.set_cons_zero, List.set_cons_succ]
          refine wpAnyH_take (i := 11) (oi := ⟨some 56, _, _, _, _, _⟩) (v := .int .i64 (Q : Int)) rfl (by kernel_rfl) (by kernel_rfl) (by kernel_rfl) (fun _ _ _ h => h) (Or.inl ⟨by rfl, fun W hW => by go_simp; first | exact IntWalk.i64_in _ (by omega) | (rw [hq11]; exact IntWalk.i64_in _ (by omega))⟩) hS ?_
          try simp only [Act.put, List.setIfInBounds_toArray, List.set_cons_zero, List.set_cons_succ]
          refine wpAnyH_take (i := 2) (oi := ⟨some 47, _, _, _, _, _⟩) (v := .pointer (some ⟨p, 0, none⟩)) rfl (by kernel_rfl) (by kernel_rfl) (by kernel_rfl) (fun _ _ _ h => h) (Or.inl ⟨by rfl, fun W hW => by go_simp⟩) hS ?_
          try simp only [Act.put, List.setIfInBounds_toArray, List.set_cons_zero, List.set_cons_succ]
          refine wpAnyH_take (i := 6) (oi := ⟨some 51, _, _, _, _, _⟩) (v := .pointer (some ⟨p, 1, none⟩)) rfl (by kernel_rfl) (by kernel_rfl) (by kernel_rfl) (fun _ _ _ h => h) (Or.inl ⟨by rfl, fun W hW => by go_simp⟩) hS ?_
          try simp only [Act.put, List.setIfInBounds_toArray, List.set_cons_zero, List.set_cons_succ]
          refine wpAnyH_take (i := 3) (oi := ⟨some 48, _, _, _, _, _⟩) (v := .pointer (some ⟨a, 0, none⟩)) rfl (by kernel_rfl) (by kernel_rfl) (by kernel_rfl) (fun _ _ _ h => h) (Or.inl ⟨by rfl, fun W hW => by have q0 : W.cell? ⟨p, 0, none⟩ = some (.pointer (some ⟨a, 0, none⟩)) := Block.cell hW 0; have q1 : W.cell? ⟨p, 1, none⟩ = some (.int .i64 F) := Block.cell hW 1; go_simp⟩) hS ?_
          try simp only [Act.put, List.setIfInBounds_toArray, List.set_cons_zero, List.set_cons_succ]
          refine wpAnyH_take (i := 7) (oi := ⟨some 52, _, _, _, _, _⟩) (v := .pointer (some ⟨p, 1, none⟩)) rfl (by kernel_rfl) (by kernel_rfl) (by kernel_rfl) (fun _ _ _ h => h) (Or.inl ⟨by rfl, fun W hW => by go_simp⟩) hS ?_
          try simp only [Act.put, List.setIfInBounds_toArray, List.set_cons_zero, List.set_cons_succ]
          refine wpAnyH_take (i := 8) (oi := ⟨some 53, _, _, _, _, _⟩) (v := .int .i64 F) rfl (by kernel_rfl) (by kernel_rfl) (by kernel_rfl) (fun _ _ _ h => h) (Or.inl ⟨by rfl, fun W hW => by have q0 : W.cell? ⟨p, 0, none⟩ = some (.pointer (some ⟨a, 0, none⟩)) := Block.cell hW 0; have q1 : W.cell? ⟨p, 1, none⟩ = some (.int .i64 F) := Block.cell hW 1; go_simp⟩) hS ?_
          try simp only [Act.put, List.setIfInBounds_toArray, List.set_cons_zero, List.set_cons_succ]
          refine wpAnyH_take (i := 12) (oi := ⟨some 57, _, _, _, _, _⟩) (v := .int .i64 (F + (Q : Int))) rfl (by kernel_rfl) (by kernel_rfl) (by kernel_rfl) (fun _ _ _ h => h) (Or.inl ⟨by rfl, fun W hW => by go_simp; exact IntWalk.i64_in _ (by omega)⟩) hS ?_
          try simp only [Act.put, List.setIfInBounds_toArray, List.set_cons_zero, List.set_cons_succ]
          refine wpAnyH_ready (rs := [14]) (by kernel_rfl) (by simp) ?_
          refine AllReadyH.cons rfl (fun K hK => ?_) AllReadyH.nil
          go_simp
          go_at_call 12
          refine (GWR.out w4.drew wr.heap.size HD4.out hsz4 hh4.out).mono ?_
          rintro e x1 ⟨rfl, D5, T5⟩
          have HT5 := (HT4.out.drewN 1).trans T5
          have HP5 := HD1.out _ HT5
          refine hK.out _ _ HP5 (fun hS => ?_)
          clear hK K
          try simp only [Act.put, List.setIfInBounds_toArray, List.set_cons_zero, List.set_cons_succ]
          refine wpAnyH_ready (rs := [15]) (by kernel_rfl) (by simp) ?_
          refine AllReadyH.cons rfl (fun K hK => ?_) AllReadyH.nil
          go_simp
          refine hK.out _ _ HP5 (fun hS => ?_)
          clear hK K
          try simp only [Act.put, List.setIfInBounds_toArray, List.set_cons_zero, List.set_cons_succ]
          refine wpAnyH_done (by kernel_rfl) ?_ _
          have HHR5 : Holds x1 w.heap.size .u8 (some ⟨gA, oA, none⟩) R := HG.out.d.holds ((TurnsIn.ofNew Bw).drewN 1 |>.trans T5) HHR.out HG.out.t.size
          have HD5 := Lib.hid D5
          clear D5 T5 HP5
          have hHT5 := Lib.hid HT5
          clear HT5 HP4 HD4 hh4 hsz4 HHR GWR
          by_cases hE : E = 0
          · subst hE
            have HOK6 : Hid (OkW s i0 bs (k + 1)) := Lib.hid (fun j hj => by
              rcases Nat.lt_or_ge j k with h | h
              · exact HG.out.ok j h
              · obtain rfl : j = k := by omega
                exact HEe.out)
            have HK1 : Hid (k + 1 ≤ manyP z bs) := Lib.hid hkm
            have hnext : Hid ((bs.drop ((k + 1) * z)).length = R.length - n ∧ (n < R.length → bs.drop ((k + 1) * z) = R.drop n)) := Lib.hid (by
              have h1 := HN1.out
              have h2 := HDL.out
              have h3 : (k + 1) * z = k * z + z := by rw [Nat.add_mul, Nat.one_mul]
              refine ⟨by rw [List.length_drop, h3]; omega, fun h => ?_⟩
              have h4 : n = z := by omega
              rw [h3, ← List.drop_drop, HRR.out, h4])
            have hnc : (n : Int) ≤ (R.length : Int) := by omega
            have hR5 : Hid (∀ A'', (n < R.length → A'' = some ⟨gA, oA + n, none⟩) → Holds x1 w.heap.size .u8 A'' (bs.drop ((k + 1) * s.size))) := Lib.hid (fun A'' hA => by
              rw [HZ.out]
              intro hp0
              rw [hnext.out.1] at hp0
              rw [hnext.out.2 (by omega), hA (by omega)]
              have := HHR5.sub n (R.length - n) (by omega)
              rw [List.take_of_length_le (by rw [List.length_drop]; omega)] at this
              exact this (by rw [List.length_drop]; omega))
            clear HHR5
            have hw64 := Lib.hid (IntWalk.wrap64_in ((P : Int) + (z : Int)) (by have := HPk.out; have := HDL.out; omega))
            have HP6 : Hid (P + z = b + (k + 1) * z) := Lib.hid (by have := HPk.out; rw [Nat.add_mul, Nat.one_mul]; omega)
            have HPL : Hid (P < b + bs.length) := Lib.hid (by have := HPk.out; have := HDL.out; omega)
            have HC : Hid (R.length ≤ c' ∧ c' ≤ maxLen) := Lib.hid ⟨hc1, hc2⟩
            by_cases hcn : c' = n
            · have hRn2 : R.length = n := by omega
              go_wp2_with fail
              go_roundw
              case rel => exact ⟨P + z, k + 1, some ⟨gA, oA, none⟩, 0, HP6.out, HK1.out, by first | (rw [hw64.out, Int.natCast_add]; done) | (rw [hw64.out]; rfl), (by rw [hnext.out.1, hRn2, Nat.sub_self]), by rw [hnext.out.1, hRn2, Nat.sub_self]; exact Nat.le_refl _, Nat.zero_le _, HD5.out, hHT5.out, HOK6.out, hR5.out _ (fun h => absurd h (by omega))⟩
              case measure =>
                have h9 := HPL.out
                rw [hw64.out]
                simp only [intOf]
                omega
            · go_wp2_with fail
              go_roundw
              case rel => exact ⟨P + z, k + 1, some ⟨gA, oA + n, none⟩, c' - n, HP6.out, HK1.out, by first | (rw [hw64.out, Int.natCast_add]; done) | (rw [hw64.out]; rfl), by rw [hnext.out.1], by rw [hnext.out.1]; have := HC.out.1; omega, Nat.le_trans (Nat.sub_le _ _) HC.out.2, HD5.out, hHT5.out, HOK6.out, hR5.out _ (fun _ => rfl)⟩
              case measure =>
                have h9 := HPL.out
                rw [hw64.out]
                simp only [intOf]
                omega
          · have d1 : (E != 0) = true := by simpa using hE
            go_wp2_with fail
            go_ret
            exact ⟨(E, wrS s i0 bs (k + 1)), Or.inl ⟨k, by rw [HZ.out]; exact hkm, HG.out.ok, by rw [HEe.out]; exact hE, by rw [HEe.out]⟩, rfl, HD5.out, hHT5.out⟩
        · have hR0 : R.length = 0 := by omega
          have hkm : k = manyP z bs := by
            rcases Nat.lt_or_ge k (manyP z bs) with h | h
            · have := hmany.1 h
              omega
            · omega
          clear hHR hlt hdl hP hmany hR
          go_wp2_with fail
          go_ret
          refine ⟨(0, wrS s i0 bs k), Or.inr ⟨?_, ?_⟩, rfl, G.d, G.t⟩
          · rw [HZ.out, ← hkm]; exact G.ok
          · rw [HZ.out, ← hkm]
    · rw [decide_eq_false hin] at GH
      simp only [if_neg hin]
      have HD := Lib.hid h
      clear h hr hp hI hl
      go_enter Tryd.func54, Tryd.ntmps54
      go_wp2_with (first
        | (go_at_call 57; (with_reducible refine GS.out.mono ?_); rintro e w1 ⟨rfl, rfl⟩)
        | (go_at_call 76; (with_reducible refine GH.out.mono ?_); rintro e w1 ⟨rfl, k1, hk1⟩
           have B1 : Below w.heap.size w w1 := by rw [hk1]; exact below_draws (Below.refl _ _) k1
           clear hk1 GH))
      go_ret
      exact ⟨_, rfl, rfl, HD.out.below B1, .ofNew B1⟩
  · simp only [if_pos hm]
    have b0 : (x.tmod (s.size : Int) != 0) = true := by simpa using hm
    have hsz : ¬ s.size = 0 := by omega
    have HD := Lib.hid h
    clear h hr hp hI hl
    go_enter Tryd.func54, Tryd.ntmps54
    go_wp2_with (go_at_call 57; (with_reducible refine GS.out.mono ?_); rintro e w1 ⟨rfl, rfl⟩)
    go_ret
    exact ⟨_, rfl, rfl, HD.out, TurnsIn.refl _ _⟩
end Go.Proofs.YtpnodocjpedcmaaDoor.Pt
