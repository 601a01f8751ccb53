/-
  Layer 24, journal: Write: contract. Conditions: as each theorem names.
-/
import Derived.Test.YtpnodocjpedcmaaDoorMGIays29
import Derived.StillTailTactics
namespace Go.Proofs.YtpnodocjpedcmaaDoor.Jr
open Go.ChangeShapes Go.WideShapes Go.ChangeAt Go.RowKit Go.Proofs.YtpnodocjpedcmaaDoor.Kit Go.Proofs.YtpnodocjpedcmaaDoor.Sec
open Go.Proofs.YtpnodocjpedcmaaDoor.Sha (LaidS)
open Go.Proofs.YtpnodocjpedcmaaDoor.Pt (PartAt Lies chunkP chunkP_length PWrite)

/-- A record with another number. -/
def Rec.num (r : Rec) (k : Int) : Rec := { r with seq := k }
theorem Rec.num_ok {r : Rec} (h : r.Ok) {k : Int} (h0 : 0 ≤ k) (h1 : k < 18446744073709551616) : (r.num k).Ok := ⟨⟨h0, h1⟩, h.act, h.ver, h.len, h.st, h.md, h.man, h.mano, h.nv, h.nl, h.dn, h.at_, h.blk, h.asz⟩
theorem cells_set0 (r : Rec) (v : Int) : r.cells.toArray.setIfInBounds 0 (.int .u64 v) = (r.num v).cells.toArray := by
  simp [Rec.cells, Rec.num]
/-- The blocks of a journal and its device. -/
def JSet (a mk mw j b : Nat) : Prop := DSet a mk mw b ∨ b = j
/-- What a journal's Write of a record leaves: the device, and the journal's last record. -/
def Wrote (I : Nat → Prop) (a mk mw j p0 p1 : Nat) (q : Int × Dv) (last t : Rec) (w : World) (e : Ending) (w' : World) : Prop :=
  e = .returned (.int .i64 q.1) ∧ DvAt w' I a mk mw q.2 ∧ JAt w' j a p0 p1 (if q.1 = 0 then t else last) ∧ TurnsIn (JSet a mk mw j) w w'

theorem sync_code (s : Dv) : s.sync.1 = 0 ∨ s.sync.1 = 8 := by
  unfold Dv.sync
  split
  · exact Or.inr rfl
  · split
    · exact Or.inr rfl
    · exact Or.inl rfl
theorem write_code {s : Dv} {i : Int} {xs : List Int} (h0 : 0 ≤ i) (h1 : i < s.count) (hx : xs.length = s.size) : (s.write i xs).1 = 0 ∨ (s.write i xs).1 = 8 := by
  unfold Dv.write
  split
  · exact Or.inr rfl
  · rw [if_neg (by omega), if_neg (fun c => c hx)]
    split
    · exact Or.inr rfl
    · exact Or.inl rfl
theorem sync_near (s : Dv) : s.sync.2.offs ≤ s.offs + 1 ∧ s.sync.2.wr = s.wr ∧ s.sync.2.size = s.size ∧ s.sync.2.count = s.count := by
  have hd := Pt.down_near s
  have ht : s.tick.offs ≤ s.offs + 1 ∧ s.tick.wr = s.wr ∧ s.tick.size = s.size ∧ s.tick.count = s.count := by
    unfold Dv.tick
    split
    · exact ⟨by omega, rfl, rfl, rfl⟩
    · split
      · exact hd
      · exact ⟨by show s.offs ≤ _; omega, rfl, rfl, rfl⟩
  unfold Dv.sync
  split
  · exact ⟨by show s.offs ≤ _; omega, rfl, rfl, rfl⟩
  · split
    · exact ht
    · exact ht

theorem TurnsIn.jd {w w' : World} {a mk mw j : Nat} (h : TurnsIn (DSet a mk mw) w w') : TurnsIn (JSet a mk mw j) w w' := h.mono fun _ _ h => Or.inl h

set_option maxRecDepth 100000 in
set_option maxHeartbeats 12800000 in
theorem jwrite_no (j a p0 p1 : Nat) (last r : Rec) (w : World) (hj : JAt w j a p0 p1 last) (hr : r.Ok) (h0 : 0 ≤ last.seq ∧ last.seq ≤ 1000000) (hm : (r.num (last.seq + 1)).may = false) (hL : LaidS w) :
    Calls Tryd.prog 21 #[.pointer (some ⟨j, 0, none⟩), .agg r.cells.toArray] w fun e w' => e = .returned (.int .i64 3) ∧ Below w.heap.size w w' := by
  have hok : (r.num (last.seq + 1)).Ok := Rec.num_ok hr (by omega) (by omega)
  have GP : Hid (∀ W, Below w.heap.size w W → Calls Tryd.prog 40 #[.agg (r.num (last.seq + 1)).cells.toArray] W (Gives2 [] 3 W)) := Lib.hid (fun W hb => by
    have := jput_any (r.num (last.seq + 1)) hok W (hL.below hb)
    unfold Rec.putV Rec.putE at this
    rw [hm] at this
    exact this)
  have HL := Lib.hid ((r.num (last.seq + 1)).cells_length hok.man)
  have B1 := below_last w (.cells r.cells.toArray 50)
  have J1 := hj.alloc (.cells r.cells.toArray 50)
  have N1 : Block (w.alloc (.cells r.cells.toArray 50)) w.heap.size 50 r.cells.toArray := Block.new w _ _
  have hset := cells_set0 r (last.seq + 1)
  have q0 : (w.alloc (.cells r.cells.toArray 50)).cell? ⟨j, 3, none⟩ = some (.int .u64 last.seq) := by
    have := J1.j.c3 0
    rw [this]
    rfl
  have q1 : (w.alloc (.cells r.cells.toArray 50)).cell? ⟨w.heap.size, 0, none⟩ = some (.int .u64 r.seq) := RecAt.front N1 |>.1
  have q2 := N1.frozen 0
  have hw1 : IntKind.u64.wrap (last.seq + 1) = last.seq + 1 := IntWalk.u64_in _ (by omega)
  have N2 : Block (w.alloc (.cells (r.num (last.seq + 1)).cells.toArray 50)) w.heap.size 50 (r.num (last.seq + 1)).cells.toArray := Block.new w _ _
  have B2 := below_last w (.cells (r.num (last.seq + 1)).cells.toArray 50)
  have R2 := block_range N2
  obtain ⟨L, hLL⟩ : ∃ L, (r.num (last.seq + 1)).cells = L := ⟨_, rfl⟩
  rw [hLL] at GP HL B2 R2 hset
  obtain ⟨Z, hZ⟩ : ∃ Z, r.cells.toArray = Z := ⟨_, rfl⟩
  rw [hZ] at q0 q1 q2 hset ⊢
  have HS := Lib.hid hset
  have HW1 := Lib.hid hw1
  obtain ⟨k, hk⟩ : ∃ k, last.seq = k := ⟨_, rfl⟩
  rw [hk] at q0 HS h0 HW1
  clear hw1 hset hLL hZ hk N1 N2 J1 B1 hj hok hm
  go_enter Tryd.func21, Tryd.ntmps21
  go_upto_region 4 with fail
  first | rw [HS.out] | (rw [HW1.out]; rw [HS.out])
  obtain ⟨V, hV⟩ : ∃ V, V = w.alloc (.cells L.toArray 50) := ⟨_, rfl⟩
  rw [← hV] at B2 R2 ⊢
  clear hV q0 q1 q2
  go_wp2_with (first
    | (refine wpList_load_midV (by rfl) _ _ rfl w.heap.size 0 rfl L R2 Tryd.underlying50 rfl (by rw [HL.out]; kernel_rfl) ?_)
    | (go_at_call 40; (with_reducible refine (GP.out _ B2).mono ?_); rintro e w2 ⟨A2, c2, rfl, hl2, hm2, hr2, hb2⟩))
  go_ret
  exact ⟨rfl, B2.trans (hb2.mono B2.size)⟩

theorem dv_ne_j {I : Nat → Prop} {a mk mw j p0 p1 : Nat} {s : Dv} {r : Rec} {w : World} (h : DvAt w I a mk mw s) (hj : JAt w j a p0 p1 r) : a ≠ j ∧ mk ≠ j ∧ mw ≠ j := by
  have := h.not_cells hj.j (by decide)
  exact ⟨fun e => this (Or.inl e.symm), fun e => this (Or.inr (Or.inl e.symm)), fun e => this (Or.inr (Or.inr e.symm))⟩
theorem JAt.no_row {a j p0 p1 : Nat} {r : Rec} {w : World} (hj : JAt w j a p0 p1 r) (cs : Array Value) (f : Nat × Nat) : w.heap[j]? ≠ some (.cells cs 5 f) := by
  intro e
  have h := hj.j
  unfold JBlk Block at h
  rw [h] at e
  injection e with e
  injection e with _ e _
  exact absurd e (by decide)
theorem write_near1 (s : Dv) (i : Int) (xs : List Int) : (s.write i xs).2.offs ≤ s.offs + 1 ∧ (s.write i xs).2.wr ≤ s.wr + 1 ∧ (s.write i xs).2.size = s.size ∧ (s.write i xs).2.count = s.count := Pt.write_near s i xs

set_option maxRecDepth 100000 in
set_option maxHeartbeats 12800000 in
theorem jwrite_yes (I : Nat → Prop) (j a p0 p1 mk mw : Nat) (s : Dv) (last r : Rec) (w : World) (hj : JAt w j a p0 p1 last) (h : DvAt w I a mk mw s) (hI : ∀ g, w.heap.size ≤ g → I g) (hr : r.Ok) (hlm : last.man.length = 32) (h0 : 0 ≤ last.seq ∧ last.seq ≤ 1000000) (hm : (r.num (last.seq + 1)).may = true)
    (hc : 2 ≤ s.count) (hof : s.offs ≤ 90000000) (hwr : s.wr ≤ 90000000) (hL : LaidS w) :
    Calls Tryd.prog 21 #[.pointer (some ⟨j, 0, none⟩), .agg r.cells.toArray] w (Wrote I a mk mw j p0 p1 (writeJ s ((last.seq + 1) % 2) (chunkP s.size (r.num (last.seq + 1)).putL 0)) last (r.num (last.seq + 1)) w) := by
  have hok : (r.num (last.seq + 1)).Ok := Rec.num_ok hr (by omega) (by omega)
  obtain ⟨_, _, hpl, hpo⟩ := got_put _ hok hm
  have GP : Hid (∀ W, Below w.heap.size w W → Calls Tryd.prog 40 #[.agg (r.num (last.seq + 1)).cells.toArray] W (Gives2 (r.num (last.seq + 1)).putL 0 W)) := Lib.hid (fun W hb => by
    have := jput_any (r.num (last.seq + 1)) hok W (hL.below hb)
    unfold Rec.putV Rec.putE at this
    rw [hm] at this
    exact this)
  have HL := Lib.hid ((r.num (last.seq + 1)).cells_length hok.man)
  have HO := Lib.hid (r.num (last.seq + 1)).cells_one
  have HLL := Lib.hid (last.cells_length hlm)
  have B1 := below_last w (.cells r.cells.toArray 50)
  have J1 := hj.alloc (.cells r.cells.toArray 50)
  have N1 : Block (w.alloc (.cells r.cells.toArray 50)) w.heap.size 50 r.cells.toArray := Block.new w _ _
  have hset := cells_set0 r (last.seq + 1)
  have q0 : (w.alloc (.cells r.cells.toArray 50)).cell? ⟨j, 3, none⟩ = some (.int .u64 last.seq) := by
    have := J1.j.c3 0
    rw [this]
    rfl
  have q1 : (w.alloc (.cells r.cells.toArray 50)).cell? ⟨w.heap.size, 0, none⟩ = some (.int .u64 r.seq) := RecAt.front N1 |>.1
  have q2 := N1.frozen 0
  have hw1 : IntKind.u64.wrap (last.seq + 1) = last.seq + 1 := IntWalk.u64_in _ (by omega)
  have N2 : Block (w.alloc (.cells (r.num (last.seq + 1)).cells.toArray 50)) w.heap.size 50 (r.num (last.seq + 1)).cells.toArray := Block.new w _ _
  have B2 := below_last w (.cells (r.num (last.seq + 1)).cells.toArray 50)
  have J2 := hj.alloc (.cells (r.num (last.seq + 1)).cells.toArray 50)
  have D2 := h.alloc (.cells (r.num (last.seq + 1)).cells.toArray 50)
  have HC0 : Hid ((r.num (last.seq + 1)).cells[0]? = some (.int .u64 (last.seq + 1))) := Lib.hid rfl
  obtain ⟨X, hX⟩ : ∃ X, chunkP s.size (r.num (last.seq + 1)).putL 0 = X := ⟨_, rfl⟩
  have HX := Lib.hid hX
  have hXl : X.length = s.size := by rw [← hX]; exact chunkP_length _ _ _
  rw [hX]
  clear hX
  have HT : Hid (r.num (last.seq + 1) = r.num (last.seq + 1)) := Lib.hid rfl
  generalize r.num (last.seq + 1) = t at *
  obtain ⟨L, hLL⟩ : ∃ L, t.cells = L := ⟨_, rfl⟩
  rw [hLL] at GP HL HO B2 J2 D2 N2 hset HC0
  obtain ⟨Z, hZ⟩ : ∃ Z, r.cells.toArray = Z := ⟨_, rfl⟩
  rw [hZ] at q0 q1 q2 hset ⊢
  have HS := Lib.hid hset
  have HW1 := Lib.hid hw1
  obtain ⟨k, hk⟩ : ∃ k, last.seq = k := ⟨_, rfl⟩
  rw [hk] at q0 HS h0 HW1 HC0
  have HLS := Lib.hid hLL
  have HK := Lib.hid hk
  rw [hk]
  obtain ⟨q, hq⟩ : ∃ q, writeJ s ((k + 1) % 2) X = q := ⟨_, rfl⟩
  rw [hq]
  have HQ := Lib.hid hq
  clear hq
  obtain ⟨ys, hys⟩ : ∃ ys, t.putL = ys := ⟨_, rfl⟩
  rw [hys] at GP HX hpl hpo
  have hsz := h.ok.s1
  have hsn := sync_near s
  have GS : Hid (∀ W u, u.offs ≤ 1000000000 → DvAt W I a mk mw u → Calls Tryd.prog 53 #[.pointer (some ⟨a, 0, none⟩)] W (Sec.Leaves I a mk mw W u.sync.2 (.int .i64 u.sync.1))) := Lib.hid (fun W u ho hd => sync_any I a mk mw u W hd ho)
  have GW : Hid (∀ (W : World) (p i : Nat) (A : Option Addr) (c : Nat) (u : Dv), i < 2 → PartAt W p a i 1 → DvAt W I a mk mw u → w.heap.size ≤ W.heap.size → u.size = s.size → u.count = s.count → u.offs ≤ s.offs + 10 → u.wr ≤ s.wr + 10 → ys.length ≤ c → c ≤ maxLen → Holds W W.heap.size .u8 A ys →
      Calls Tryd.prog 54 #[.pointer (some ⟨p, 0, none⟩), .int .i64 0, .slice A ys.length c] W (Sec.Leaves I a mk mw W (u.write i X).2 (.int .i64 (u.write i X).1))) := Lib.hid (fun W p i A c u hi hp hd hle hus huc huo huw hcl hcm hh => by
    have hl : Lies u i 1 u.size := ⟨by omega, by omega, by omega, by omega⟩
    refine (Pt.pwrite_any I p a mk mw i 1 u.size u 0 A ys c W hp hd (fun g hg => hI g (by omega)) hl (by omega) (by omega) hcl hcm hpo hh (by omega) (by omega)).mono ?_
    rintro e w' ⟨q, hq, he, hd', ht⟩
    have hq2 := pwrite_sec (by rw [hus]; exact hsz) (by rw [hus]; omega) hpl hq
    rw [hus, HX.out] at hq2
    subst hq2
    exact ⟨he, hd', ht⟩)
  have HXL := Lib.hid hXl
  clear hw1 hset hLL hZ hk hys N1 J1 B1 hj hok hm h hI hpl hpo hXl
  go_enter Tryd.func21, Tryd.ntmps21
  go_upto_region 4 with fail
  first | rw [HS.out] | (rw [HW1.out]; rw [HS.out])
  obtain ⟨V, hV⟩ : ∃ V, V = w.alloc (.cells L.toArray 50) := ⟨_, rfl⟩
  rw [← hV] at B2 J2 D2 N2 ⊢
  have R2 := block_range N2
  clear hV q0 q1 q2
  have j0 := J2.j.c0
  rcases sync_code s with he1 | he1
  · have GS1 := Lib.hid (fun W (hd : DvAt W I a mk mw s) => GS.out W s (by omega) hd)
    rw [he1] at GS1
    have HE1 := Lib.hid he1
    clear he1
    go_upto_region 10 with (first
      | (refine wpList_load_midV (by rfl) _ _ rfl w.heap.size 0 rfl L R2 Tryd.underlying50 rfl (by rw [HL.out]; kernel_rfl) ?_)
      | (go_at_call 40; (with_reducible refine (GP.out _ B2).mono ?_); rintro e w2 ⟨A2, c2, rfl, hl2, hm2, hr2, hb2⟩; have J3 := J2.below hb2; have D3 := D2.below hb2; clear j0; have j0 := J3.j.c0)
      | (have _t := J3; go_at_call 53; (with_reducible refine (GS1.out _ D3).mono ?_); clear _t; rintro e w3 ⟨rfl, D4, T4⟩; have J4 := J3.turn D3 T4; clear j0))
    have N4 : Block w3 w.heap.size 50 L.toArray := Block.dset D3 T4 (N2.below hb2 N2.lt) (by decide)
    have H4 : Holds w3 w3.heap.size .u8 A2 ys := (D3.holds T4 hr2 (Nat.le_refl _)).more T4.size
    have U4 : TurnsIn (JSet a mk mw j) w w3 := (TurnsIn.ofNew B2).trans ((TurnsIn.ofNew hb2).trans (TurnsIn.jd T4))
    have n0 : w3.cell? ⟨w.heap.size, 0, none⟩ = some (.int .u64 (k + 1)) := (Block.cell N4 0).trans (by simpa using HC0.out)
    have j1 := J4.j.c1
    have j2 := J4.j.c2
    obtain ⟨s1, hs1⟩ : ∃ s1, s.sync.2 = s1 := ⟨_, rfl⟩
    rw [hs1] at D4 hsn
    have HS1 := Lib.hid hs1
    have GZ : Hid (∀ (W : World) (p i : Nat), i < 2 → PartAt W p a i 1 → DvAt W I a mk mw s1 → w.heap.size ≤ W.heap.size → Holds W W.heap.size .u8 A2 ys → Calls Tryd.prog 54 #[.pointer (some ⟨p, 0, none⟩), .int .i64 0, .slice A2 ys.length c2] W (Sec.Leaves I a mk mw W (s1.write i X).2 (.int .i64 (s1.write i X).1))) := Lib.hid (fun W p i hi hp hd hle hh => GW.out W p i A2 c2 s1 hi hp hd hle (by omega) (by omega) (by omega) (by omega) hl2 hm2 hh)
    clear GS1 GW hs1 hr2 D3 J3 hb2 T4 R2 N2 J2 D2 B2 GP HC0
    have hkp : (k + 1) % 2 = 0 ∨ (k + 1) % 2 = 1 := by omega
    obtain ⟨p, i, hpi⟩ : ∃ (p i : Nat), ((k + 1) % 2 = 0 ∧ p = p0 ∧ i = 0) ∨ ((k + 1) % 2 = 1 ∧ p = p1 ∧ i = 1) := by
      rcases hkp with e | e
      · exact ⟨p0, 0, Or.inl ⟨e, rfl, rfl⟩⟩
      · exact ⟨p1, 1, Or.inr ⟨e, rfl, rfl⟩⟩
    have hki : (k + 1) % 2 = i := by rcases hpi with ⟨e, _, rfl⟩ | ⟨e, _, rfl⟩ <;> exact e
    have hPA : PartAt w3 p a i 1 := by
      rcases hpi with ⟨_, rfl, rfl⟩ | ⟨_, rfl, rfl⟩
      · exact J4.p0
      · exact J4.p1
    have hi2 : i < 2 := by omega
    have GZ1 := Lib.hid (GZ.out w3.drew p i hi2 (Block.drewN hPA 1) (D4.below (below_draws (Below.refl _ _) 1)) U4.size H4)
    have hcode := write_code (s := s1) (i := (i : Int)) (xs := X) (by omega) (by omega) (by rw [HXL.out]; omega)
    have hwn := write_near1 s1 i X
    have HW0 : Hid (writeJ s ((k + 1) % 2) X = if (s1.write i X).1 ≠ 0 then s1.write i X else (s1.write i X).2.sync) := Lib.hid (by
      unfold writeJ
      rw [if_neg (by rw [HE1.out]; decide), HS1.out, hki])
    rw [HQ.out] at HW0
    have D4d : DvAt w3.drew I a mk mw s1 := D4.below (below_draws (Below.refl _ _) 1)
    have J4d : JAt w3.drew j a p0 p1 last := J4.below (below_draws (Below.refl _ _) 1)
    have N4d : Block w3.drew w.heap.size 50 L.toArray := Block.drewN N4 1
    have U4d : TurnsIn (JSet a mk mw j) w w3.drew := U4.drewN 1
    obtain ⟨E2, hE2⟩ : ∃ E2, (s1.write i X).1 = E2 := ⟨_, rfl⟩
    obtain ⟨s2, hs2⟩ : ∃ s2, (s1.write i X).2 = s2 := ⟨_, rfl⟩
    have hq2 : s1.write i X = (E2, s2) := Prod.ext hE2 hs2
    rw [hE2, hs2] at GZ1
    rw [hE2] at hcode
    rw [hs2] at hwn
    rw [hq2] at HW0
    have GS2 := Lib.hid (fun W (hd : DvAt W I a mk mw s2) => GS.out W s2 (by omega) hd)
    clear hE2 hs2 hq2 GZ hkp hPA hki GS
    have ht1 : (k + 1).tmod 2 = (k + 1) % 2 := Int.tmod_eq_emod_of_nonneg (by omega)
    rcases hpi with ⟨e, rfl, rfl⟩ | ⟨e, rfl, rfl⟩
    all_goals
      rw [e] at ht1
      go_still_tail 9, (by kernel_rfl)
      change wpList _ _ _ _ _ w3.drew
      clear e ht1 n0 j1 j2 D4 J4 N4 U4 H4
      generalize w3.drew = w4 at *
      rcases hcode with he2 | he2
      case inr =>
        rw [he2] at GZ1 HW0
        have HWJ : Hid (q = (8, s2)) := Lib.hid (by rw [HW0.out, if_pos (show (8 : Int) ≠ 0 by decide)])
        clear he2 HW0
        go_wp2_with (go_at_call 54; (with_reducible refine GZ1.out.mono ?_); rintro e w5 ⟨rfl, D5, T5⟩; have J5 := J4d.turn D4d T5)
        go_ret
        obtain rfl := HWJ.out
        refine ⟨rfl, D5, ?_, U4d.trans (TurnsIn.jd T5)⟩
        rw [if_neg (show ¬ (8 : Int) = 0 by decide)]
        exact J5
      case inl =>
        rw [he2] at GZ1 HW0
        have HWJ : Hid (q = s2.sync) := Lib.hid (by rw [HW0.out, if_neg (show ¬ (0 : Int) ≠ 0 by decide)])
        clear he2 HW0
        rcases sync_code s2 with he3 | he3
        case inr =>
          rw [he3] at GS2
          have HE3 := Lib.hid he3
          clear he3
          go_wp2_with (first
            | (go_at_call 54; (with_reducible refine GZ1.out.mono ?_); rintro e w5 ⟨rfl, D5, T5⟩; have J5 := J4d.turn D4d T5; have j0 := J5.j.c0)
            | (have _t := J5; go_at_call 53; (with_reducible refine (GS2.out _ D5).mono ?_); clear _t; rintro e w6 ⟨rfl, D6, T6⟩; have J6 := J5.turn D5 T6))
          go_ret
          obtain rfl := HWJ.out
          refine ⟨by rw [HE3.out]; rfl, D6, ?_, (U4d.trans (TurnsIn.jd T5)).trans (TurnsIn.jd T6)⟩
          rw [if_neg (by rw [HE3.out]; decide)]
          exact J6
        case inl =>
          rw [he3] at GS2
          have HE3 := Lib.hid he3
          clear he3
          go_wp2_with (first
            | (go_at_call 54; (with_reducible refine GZ1.out.mono ?_); rintro e w5 ⟨rfl, D5, T5⟩; have J5 := J4d.turn D4d T5; have N5 : Block w5 w.heap.size 50 L.toArray := Block.dset D4d T5 N4d (by decide); have j0 := J5.j.c0)
            | (have _t := J5; go_at_call 53; (with_reducible refine (GS2.out _ D5).mono ?_); clear _t; rintro e w6 ⟨rfl, D6, T6⟩; have J6 := J5.turn D5 T6; have R6 : w6.rangeAt w.heap.size 0 L := block_range (Block.dset D5 T6 N5 (by decide)))
            | (have _t := J6; refine wpList_load_midV (by rfl) _ _ rfl w.heap.size 0 rfl L R6 Tryd.underlying50 rfl (by rw [HL.out]; kernel_rfl) ?_)
            | (have _t := J6; refine wpList_store_last rfl _ _ _ rfl J6.j HLL.out HL.out rfl rfl (by kernel_rfl) HO.out ?_; clear _t; intro w7 X7 g7))
          go_ret
          have J7 := J6.stored (by rw [← HLS.out] at X7; exact X7) g7
          have D7 : DvAt w7 I a mk mw s2.sync.2 := D6.out (S := fun b => b = j) (TurnsIn.ofGrown g7 fun b hb => by injection hb with hb; exact hb.symm) (fun e => by have := dv_ne_j D6 J6; exact this.1 e) (fun e => (dv_ne_j D6 J6).2.1 e) (fun e => (dv_ne_j D6 J6).2.2 e) (fun b hb _ cs f hx => by subst hb; exact J6.no_row cs f hx)
          obtain rfl := HWJ.out
          refine ⟨by rw [HE3.out]; rfl, D7, ?_, ((U4d.trans (TurnsIn.jd T5)).trans (TurnsIn.jd T6)).trans (TurnsIn.ofGrown g7 fun b hb => by injection hb with hb; exact Or.inr hb.symm)⟩
          rw [if_pos HE3.out]
          exact J7
  · have GS1 := Lib.hid (fun W (hd : DvAt W I a mk mw s) => GS.out W s (by omega) hd)
    rw [he1] at GS1
    have HWJ : Hid (q = s.sync) := Lib.hid (by rw [← HQ.out]; unfold writeJ; rw [if_pos (by rw [he1]; decide)])
    have HE1 := Lib.hid he1
    clear he1
    go_wp2_with (first
      | (refine wpList_load_midV (by rfl) _ _ rfl w.heap.size 0 rfl L R2 Tryd.underlying50 rfl (by rw [HL.out]; kernel_rfl) ?_)
      | (go_at_call 40; (with_reducible refine (GP.out _ B2).mono ?_); rintro e w2 ⟨A2, c2, rfl, hl2, hm2, hr2, hb2⟩; have J3 := J2.below hb2; have D3 := D2.below hb2; clear j0; have j0 := J3.j.c0)
      | (have _t := J3; go_at_call 53; (with_reducible refine (GS1.out _ D3).mono ?_); clear _t; rintro e w3 ⟨rfl, D4, T4⟩; have J4 := J3.turn D3 T4))
    go_ret
    obtain rfl := HWJ.out
    refine ⟨by rw [HE1.out]; rfl, D4, ?_, (TurnsIn.ofNew B2).trans ((TurnsIn.ofNew hb2).trans (TurnsIn.jd T4))⟩
    rw [if_neg (by rw [HE1.out]; decide)]
    exact J4
end Go.Proofs.YtpnodocjpedcmaaDoor.Jr
