/-
  Layer 6, sector: Write: contract. Conditions: as each theorem names.
-/
import Derived.Test.YtpnodocjpedcmaaDoorMGIays0
import Derived.Deep.RegionWith
import Derived.Deep.CutRange
import Derived.Deep.DeepCutAuto
import Derived.Deep.CutBlock
namespace Go.Proofs.YtpnodocjpedcmaaDoor.Sec
open Go.ChangeShapes Go.WideShapes Go.ChangeAt Go.RowKit Go.Proofs.YtpnodocjpedcmaaDoor.Kit Go.Maps

/-- What a write leaves, and the error's number. -/
def Dv.writes (s : Dv) (i : Int) (xs : List Int) : Dv := { s with waits := putS s.waits i (some xs) }
def Dv.write (s : Dv) (i : Int) (xs : List Int) : Int × Dv :=
  if s.off = true then (8, s) else if i < 0 ∨ (s.count : Int) ≤ i then (5, s) else if xs.length ≠ s.size then (3, s) else
  if s.fuse = 0 then (8, (s.writes i xs).tick) else (0, { (s.writes i xs).tick with wr := s.wr + 1 })
theorem Dv.Ok.writes {s : Dv} (h : s.Ok) {i : Int} {xs : List Int} (h0 : 0 ≤ i) (h1 : i < s.count) : (s.writes i xs).Ok := by
  refine ⟨h.s1, h.s2, h.c1, h.c2, h.ku, h.wu.putS i (some xs), h.kr, fun p hp => ?_, fun p hp => ?_, h.f1, h.f2, h.o1, h.w1⟩
  · rcases mem_putS hp with rfl | hp
    · exact ⟨h0, h1⟩
    · exact h.wr_ p hp
  · rcases mem_putS hp with rfl | hp
    · exact fun e => by cases e
    · exact h.wn p hp
theorem Dv.Ok.tick {s : Dv} (h : s.Ok) : s.tick.Ok := by
  unfold Dv.tick
  split
  · exact h
  · split
    · exact h.down
    · exact ⟨h.s1, h.s2, h.c1, h.c2, h.ku, h.wu, h.kr, h.wr_, h.wn, by have := h.f1; show -1 ≤ s.fuse - 1; omega, by have := h.f2; show s.fuse - 1 ≤ _; omega, h.o1, h.w1⟩
theorem Dv.tick_wr (s : Dv) : s.tick.wr = s.wr := by
  unfold Dv.tick Dv.down
  split
  · rfl
  · split
    · split <;> rfl
    · rfl
theorem waits_few {s : Dv} (h : s.Ok) : s.waits.length < 1000000000 := by
  have := up_length s.waits 0 h.wu h.wr_
  have := h.c2
  omega
theorem kept_few {s : Dv} (h : s.Ok) : s.kept.length < 1000000000 := by
  have := up_length s.kept 0 h.ku h.kr
  have := h.c2
  omega
/-- A sector is put to wait. -/
theorem DvAt.wait {w w' : World} {I : Nat → Prop} {a mk mw : Nat} {s : Dv} (h : DvAt w I a mk mw s) {i : Int} {xs : List Int} (h0 : 0 ≤ i) (h1 : i < s.count) (hm : MapAt w' I RW mw s.size (putS s.waits i (some xs))) (t : w.mapTurned w' mw) :
    DvAt w' I a mk mw (s.writes i xs) ∧ TurnsIn (DSet a mk mw) w w' := by
  have tn : TurnsIn (fun x => x = mw) w w' := TurnsIn.ofGrown (row := some mw) t.grown fun x hx => (Option.some.inj hx).symm
  have hr : ∀ b, b = mw → I b → ∀ cs f, w.heap[b]? ≠ some (.cells cs 5 f) := fun b hb _ => h.no_row b (Or.inr (Or.inr hb))
  exact ⟨⟨h.blk.out tn h.ne_w, h.k.out tn h.ne hr, hm, h.ne, h.ok.writes h0 h1⟩, tn.mono fun b _ hb => Or.inr (Or.inr hb)⟩

set_option maxRecDepth 100000 in
set_option maxHeartbeats 3200000 in
theorem write_any (I : Nat → Prop) (a mk mw : Nat) (s : Dv) (i : Int) (A : Option Addr) (xs : List Int) (c : Nat) (w : World) (h : DvAt w I a mk mw s) (hI : ∀ g, w.heap.size ≤ g → I g) (hi : -9223372036854775808 ≤ i ∧ i ≤ 9223372036854775807)
    (hx : xs.length ≤ 1000000000) (ho : Octets xs) (hr : Holds w w.heap.size .u8 A xs) (hof : s.offs ≤ 1000000000) (hwr : s.wr ≤ 1000000000) :
    Calls Tryd.prog 12 #[.pointer (some ⟨a, 0, none⟩), .int .i64 i, .slice A xs.length c] w (Leaves I a mk mw w (s.write i xs).2 (.int .i64 (s.write i xs).1)) := by
  have GI := Lib.hid (isOn_any I a mk mw s w h)
  have HSame : ∀ E, Leaves I a mk mw w s (.int .i64 E) (.returned (.int .i64 E)) w := fun E => ⟨rfl, h, TurnsIn.refl _ _⟩
  have HN := Lib.hid HSame
  clear HSame
  obtain ⟨c0, c1, c2, c3, c4, c5, c6, c7⟩ := h.reads
  have hs1 := h.ok.s1
  have hs2 := h.ok.s2
  have hc2 := h.ok.c2
  unfold Dv.write
  cases hoff : s.off with
  | true =>
    rw [if_pos rfl]
    rw [hoff] at GI
    clear h
    go_enter Tryd.func12, Tryd.ntmps12
    go_wp2_with (go_at_call 41; (with_reducible refine GI.out.mono ?_); rintro e w1 ⟨rfl, rfl⟩)
    go_ret
    exact HN.out 8
  | false =>
    rw [if_neg (by decide)]
    rw [hoff] at GI
    by_cases hlo : i < 0
    · rw [if_pos (Or.inl hlo)]
      have d1 : decide (i < 0) = true := decide_eq_true hlo
      clear h
      go_enter Tryd.func12, Tryd.ntmps12
      go_wp2_with (go_at_call 41; (with_reducible refine GI.out.mono ?_); rintro e w1 ⟨rfl, rfl⟩)
      go_ret
      exact HN.out 5
    · have d1 : decide (i < 0) = false := decide_eq_false hlo
      by_cases hhi : (s.count : Int) ≤ i
      · rw [if_pos (Or.inr hhi)]
        have d2 : decide ((s.count : Int) ≤ i) = true := decide_eq_true hhi
        clear h
        go_enter Tryd.func12, Tryd.ntmps12
        go_wp2_with (go_at_call 41; (with_reducible refine GI.out.mono ?_); rintro e w1 ⟨rfl, rfl⟩)
        go_ret
        exact HN.out 5
      · have d2 : decide ((s.count : Int) ≤ i) = false := decide_eq_false hhi
        rw [if_neg (by omega)]
        by_cases hlen : xs.length = s.size
        · rw [if_neg (fun e => e hlen)]
          obtain ⟨b, off, rfl, hb, hc⟩ := hr (by omega)
          have GC := Lib.hid (fun W (hB : Below w.heap.size w W) => clone_any b off xs c W hx ((hr.below hB).more hB.size))
          have hStore : ∀ W v, Below w.heap.size w W → Own W w.heap.size 5 .u8 v xs → ∃ W', (Instr.mapUpdate 89 (.map (some mw)) (.int .i64 i) v).run Tryd.prog W = .ok () W' ∧ DvAt W' I a mk mw (s.writes i xs) ∧ TurnsIn (DSet a mk mw) w W' := by
            intro W v hB own
            obtain ⟨g, cap, rfl, hg, hg2, _⟩ := own.form (by omega)
            have D := h.below hB
            rw [hlen] at own ⊢
            obtain ⟨W', h1, h2, h3⟩ := D.wt.store Tryd.underlying89 h.ok.wu (waits_few h.ok) i hi _ (some xs) (GoodV.waits (hI g hg) hlen ho (own.mono (Nat.zero_le _)))
            obtain ⟨D2, T2⟩ := D.wait (by omega) (by omega) h2 h3
            exact ⟨W', h1, D2, (TurnsIn.ofNew hB).trans T2⟩
          obtain ⟨F, hF⟩ : ∃ F : World → Value → World, ∀ W v, Below w.heap.size w W → Own W w.heap.size 5 .u8 v xs → (Instr.mapUpdate 89 (.map (some mw)) (.int .i64 i) v).run Tryd.prog W = .ok () (F W v) ∧ DvAt (F W v) I a mk mw (s.writes i xs) ∧ TurnsIn (DSet a mk mw) w (F W v) :=
            ⟨fun W v => @Classical.epsilon World ⟨w⟩ (fun W' => (Instr.mapUpdate 89 (.map (some mw)) (.int .i64 i) v).run Tryd.prog W = .ok () W' ∧ DvAt W' I a mk mw (s.writes i xs) ∧ TurnsIn (DSet a mk mw) w W'), fun W v hB own => Classical.epsilon_spec (hStore W v hB own)⟩
          have HStore := Lib.hid hF
          clear hF
          have B0 := Below.refl w.heap.size w
          obtain ⟨R, hR⟩ : ∃ R : Int × Dv, (if s.fuse = 0 then (8, (s.writes i xs).tick) else (0, { (s.writes i xs).tick with wr := s.wr + 1 })) = R := ⟨_, rfl⟩
          rw [hR]
          have HR := Lib.hid hR
          clear hR
          have b1 : ((xs.length : Int) != (s.size : Int)) = false := by rw [hlen]; simp
          have b2 : ((xs.length : Int) == (s.size : Int)) = true := by rw [hlen]; simp
          have HLen := Lib.hid hlen
          have HD := Lib.hid h
          have hal := h.lt.1
          clear hStore h hlen hr
          go_enter Tryd.func12, Tryd.ntmps12
          go_wp2_with (go_at_call 41; (with_reducible refine GI.out.mono ?_); rintro e w1 ⟨rfl, rfl⟩)
          go_cut [0] (fun p wx => p = .pointer (some ⟨a, 0, none⟩) ∧ DvAt wx I a mk mw (s.writes i xs) ∧ TurnsIn (DSet a mk mw) w wx)
          case first =>
            go_region_with (go_at_call 42; refine (GC.out _ (by first | exact B0 | exact below_draws B0 _)).mono ?_; rintro e w1 ⟨v, rfl, own, hb⟩; have q3 := (HD.out.below (w' := w1) ⟨hb.os, hb.tape, hb.output, hb.size, hb.block⟩).reads.2.2.2.1; have e1 := (HStore.out w1 v ⟨hb.os, hb.tape, hb.output, hb.size, hb.block⟩ own).1)
            all_goals
              have hS := HStore.out w1 v ⟨hb.os, hb.tape, hb.output, hb.size, hb.block⟩ own
              go_wp2_with fail
              go_meet
              exact ⟨rfl, hS.2.1, hS.2.2⟩
          case rest =>
            clear c0 c1 c2 c3 c4 c5 c6 c7 b1 b2
            obtain ⟨rfl, D, T⟩ := hcut
            have GB := Lib.hid (blows_any I a mk mw (s.writes i xs) _ D hof)
            have hbl : (s.writes i xs).blown = decide (s.fuse = 0) := rfl
            rw [hbl] at GB
            have hw1 := D.ok.w1
            have hw0 : 0 ≤ s.wr := hw1
            by_cases hf : s.fuse = 0
            · rw [decide_eq_true hf] at GB
              rw [if_pos hf] at HR
              go_wp2_with (go_at_call 43; (with_reducible refine GB.out.mono ?_); rintro e w4 ⟨rfl, hd, ht⟩)
              go_ret
              rw [← HR.out]
              exact ⟨rfl, hd, T.trans ht⟩
            · rw [decide_eq_false hf] at GB
              rw [if_neg hf] at HR
              have hok := D.ok.tick
              have HTW := Lib.hid ((s.writes i xs).tick_wr)
              have HF : ∀ w4, DvAt w4 I a mk mw (s.writes i xs).tick → w4.cell? ⟨a, 7, none⟩ = some (.int .u64 s.wr) ∧ w4.frozen? ⟨a, 7, none⟩ = false ∧ DvAt (w4.setCell ⟨a, 7, none⟩ (.int .u64 (s.wr + 1))) I a mk mw { (s.writes i xs).tick with wr := s.wr + 1 } ∧ TurnsIn (DSet a mk mw) w4 (w4.setCell ⟨a, 7, none⟩ (.int .u64 (s.wr + 1))) := by
                intro w4 hd
                have r7 := hd.reads.2.2.2.2.2.2.2
                rw [(s.writes i xs).tick_wr] at r7
                obtain ⟨q1, q2⟩ := hd.field 7 (.int .u64 (s.wr + 1)) { (s.writes i xs).tick with wr := s.wr + 1 } rfl rfl rfl rfl ⟨hok.s1, hok.s2, hok.c1, hok.c2, hok.ku, hok.wu, hok.kr, hok.wr_, hok.wn, hok.f1, hok.f2, hok.o1, by show 0 ≤ s.wr + 1; omega⟩
                exact ⟨r7, hd.free 7, q1, q2⟩
              have HF' := Lib.hid HF
              clear HF hok D hf hw1 hbl
              generalize (s.writes i xs).tick = s2 at *
              go_wp2_with (go_at_call 43; (with_reducible refine GB.out.mono ?_); rintro e w4 ⟨rfl, hd, ht⟩; obtain ⟨r7, f7, q1, q2⟩ := HF'.out w4 hd)
              go_ret
              rw [← HR.out]
              exact ⟨rfl, q1, T.trans (ht.trans q2)⟩
        · rw [if_pos hlen]
          have b1 : ((xs.length : Int) != (s.size : Int)) = true := by simpa using (fun e : (xs.length : Int) = s.size => hlen (by omega))
          have b2 : ((xs.length : Int) == (s.size : Int)) = false := by simpa using (fun e : (xs.length : Int) = s.size => hlen (by omega))
          clear h hlen
          go_enter Tryd.func12, Tryd.ntmps12
          go_wp2_with (go_at_call 41; (with_reducible refine GI.out.mono ?_); rintro e w1 ⟨rfl, rfl⟩)
          go_ret
          exact HN.out 3
end Go.Proofs.YtpnodocjpedcmaaDoor.Sec
