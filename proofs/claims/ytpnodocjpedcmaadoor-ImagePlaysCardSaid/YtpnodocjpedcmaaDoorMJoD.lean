/-
  Layer 24: a text's bytes; the document's last record: contracts. Conditions: as each theorem names.
-/
import Derived.Test.YtpnodocjpedcmaaDoorMGIays32
import Derived.Laws.IdiomStrings
namespace Go.Proofs.YtpnodocjpedcmaaDoor.Jr
open Go.ChangeShapes Go.WideShapes Go.ChangeAt Go.RowKit Go.Proofs.YtpnodocjpedcmaaDoor.Kit
open Go.Proofs.YtpnodocjpedcmaaDoor.Sec (Dv RDv GivesS rread_any)
open Go.Proofs.YtpnodocjpedcmaaDoor.Sha (LaidS)
open Go.Proofs.YtpnodocjpedcmaaDoor.Pt (Whole whole_of)

theorem holds_row {w : World} {t : TypeId} {xs : List Int} (ho : Octets xs) (c : Nat) (m : Nat × Nat) : Holds (w.alloc (.cells (bytesRow (strOfNums xs) c) t m)) (w.alloc (.cells (bytesRow (strOfNums xs) c) t m)).heap.size .u8 (some ⟨w.heap.size, 0, none⟩) xs := by
  intro _
  refine ⟨w.heap.size, 0, rfl, by simp, fun j hj => ?_⟩
  have h1 := World.cell?_alloc_mark w (bytesRow (strOfNums xs) c) t m (0 + j)
  rw [h1]
  have hs : j < (strOfNums xs).data.size := by simpa [strOfNums] using hj
  rw [Nat.zero_add, bytesRow_at _ _ _ hs]
  have hx := ho (xs[j]) (List.getElem_mem hj)
  have e : (strOfNums xs).data[j] = UInt8.ofNat xs[j].toNat := by simp [strOfNums]
  rw [e, List.getD, List.getElem?_eq_getElem hj]
  have key : ∀ z : Int, 0 ≤ z → z ≤ 255 → ((UInt8.ofNat z.toNat).toNat : Int) = z := by
    intro z h0 h1
    rw [UInt8.toNat_ofNat', Nat.mod_eq_of_lt (by omega)]
    omega
  rw [key _ hx.1 hx.2]
  rfl
/-- '[]byte(s)'. -/
theorem wpList_bytes_of {P : Program} {w : World} {ops : Array Oper} {rest : List Oper} {o : Oper} {a : Act} {Q : Exit → Act → World → Prop} (hgd : o.guard = none) (src dst e : TypeId) (x : Operand) (ho : o.op = .convert src dst x)
    {xs : List Int} (hx : a.eval x = .string (strOfNums xs)) (hs : P.underlying src = some .string) (hd : P.underlying dst = some (.slice e)) (he : P.underlying e = some (.int .u8)) (hoc : Octets xs) (hl : xs.length ≤ maxLen)
    (hK : ∀ A c w', xs.length ≤ c → c ≤ maxLen → Holds w' w'.heap.size .u8 A xs → Below w.heap.size w w' → wpList P ops Q rest (a.put o.dst (.slice A xs.length c)) w') : wpList P ops Q (o :: rest) a w := by
  refine wpList_plain hgd fun K hK' => ?_
  unfold Oper.wp
  simp only [execOp, ho, Sem.run_bind, Sem.run_pure]
  rw [hx]
  have hr := run_bytes_of_string (P := P) w src dst e (strOfNums xs) hs hd he
  rw [hr]
  rw [strOfNums_size]
  have hc1 := grownCap_ge w xs.length 0 e
  have hc2 := grownCap_le_maxLen w xs.length 0 e hl
  generalize grownCap w xs.length 0 e = c at *
  refine hK' _ _ (hK _ c _ hc1 hc2 (holds_row (w := w.drew) hoc c _) ?_)
  exact (below_draws (Below.refl _ _) 1).alloc (Nat.le_refl _) _

def uptoR (f : Int → List Int × Int) : Nat → Rec × Bool
  | 0 => (rec0, false)
  | n + 1 => stepR f (uptoR f n) n
theorem uptoR_ok {s : Dv} (hw : Whole s) : ∀ n, (uptoR s.read n).1.Ok
  | 0 => rec0_ok
  | n + 1 => by
    show (stepR s.read (uptoR s.read n) n).1.Ok
    unfold stepR
    split
    · rename_i h
      exact getV_ok (hw n (s.read n).1 (Prod.ext rfl h.1)).2
    · exact uptoR_ok hw n
theorem uptoR_last {s : Dv} (hs : 128 ≤ s.size) (hw : Whole s) : (uptoR s.read 2).1 = lastF s.read :=
  lastR_is (fun h => by have := (hw 0 (s.read 0).1 (Prod.ext rfl h)).1; omega) (fun h => by have := (hw 1 (s.read 1).1 (Prod.ext rfl h)).1; omega)
theorem cases_ge (E q u : Int) (f : Bool) (n : Nat) (m : Int) (hm1 : m = n) : (E ≠ 0 ∧ (E == 0) = false) ∨ (E = 0 ∧ (E == 0) = true ∧ ((q % 2 ≠ n ∧ (q % 2 == m) = false) ∨ (q % 2 = n ∧ (q % 2 == m) = true ∧ (f = false ∨ (f = true ∧ ((u ≤ q ∧ decide (u ≤ q) = true) ∨ (¬ u ≤ q ∧ decide (u ≤ q) = false))))))) := by
  by_cases a1 : E = 0
  · refine Or.inr ⟨a1, by simp [a1], ?_⟩
    by_cases a2 : q % 2 = n
    · refine Or.inr ⟨a2, by rw [hm1]; simp [a2], ?_⟩
      cases f
      · exact Or.inl rfl
      · refine Or.inr ⟨rfl, ?_⟩
        by_cases a3 : u ≤ q
        · exact Or.inl ⟨a3, by simpa using a3⟩
        · exact Or.inr ⟨a3, by simpa using a3⟩
    · exact Or.inl ⟨a2, by rw [hm1]; simpa using a2⟩
  · exact Or.inl ⟨a1, by simpa using a1⟩

/-- Between the sectors that the document reads. -/
structure RGo (w W : World) (dc : Array Value) (r : Rec) : Prop where
  x : Block W w.heap.size 31 dc
  z : Block W (w.heap.size + 1) 50 rec0.cells.toArray
  l : Block W (w.heap.size + 1 + 1) 50 r.cells.toArray
  b : Below w.heap.size w W
theorem RGo.below {w W W' : World} {dc : Array Value} {r : Rec} (h : RGo w W dc r) (hb : Below W.heap.size W W') : RGo w W' dc r :=
  ⟨h.x.below hb h.x.lt, Block.below h.z hb (Block.lt h.z), Block.below h.l hb (Block.lt h.l), h.b.trans (hb.mono h.b.size)⟩
theorem RGo.stored {w W W' : World} {dc : Array Value} {r t : Rec} (h : RGo w W dc r) (h1 : Block W' (w.heap.size + 1 + 1) 50 t.cells.toArray) (g : W.grownBy W' (some (w.heap.size + 1 + 1))) : RGo w W' dc t :=
  ⟨h.x.grown g (by intro e; injection e with e; omega), Block.grown h.z g (by intro e; injection e with e; omega), h1, h.b.trans (below_of_grown g h.b.size fun b hb => by injection hb with hb; omega)⟩
theorem RGo.start (w : World) (dc : Array Value) : RGo w (((w.alloc (.cells dc 31)).alloc (.cells rec0.cells.toArray 50)).alloc (.cells rec0.cells.toArray 50)) dc rec0 := by
  refine ⟨((Block.new w _ _).alloc _).alloc _, ?_, ?_, (((Below.refl _ _).alloc (Nat.le_refl _) _).alloc (by simp) _).alloc (by simp; omega) _⟩
  · have := (Block.new (w.alloc (.cells dc 31)) 50 rec0.cells.toArray).alloc (.cells rec0.cells.toArray 50)
    rwa [show (w.alloc (.cells dc 31)).heap.size = w.heap.size + 1 by simp] at this
  · have := Block.new ((w.alloc (.cells dc 31)).alloc (.cells rec0.cells.toArray 50)) 50 rec0.cells.toArray
    rwa [show ((w.alloc (.cells dc 31)).alloc (.cells rec0.cells.toArray 50)).heap.size = w.heap.size + 1 + 1 by simp] at this

set_option maxRecDepth 100000 in
set_option maxHeartbeats 12800000 in
/-- The document's last record. -/
theorem rlast_any (v : Value) (s : Dv) (w : World) (h : RDv w v s) (hok : s.Ok) (hw : Whole s) (hz : s.size ≤ 1000) :
    Calls Tryd.prog 19 #[v] w fun e w' => e = .returned (.agg (lastF s.read).cells.toArray) ∧ Below w.heap.size w w' := by
  have hR := fun W (hb : Below w.heap.size w W) i => rread_any v s i W (h.below hb) hok
  have hs := hok.s1
  have hs2 := hok.s2
  have hlast := uptoR_last hs hw
  obtain ⟨Ak, ck, Aw, cw, rfl, _⟩ := h
  have HDC : Hid (∃ l : List Value, l.length = 8 ∧ (Sec.dCells Ak ck Aw cw s) = l.toArray) := Lib.hid ⟨_, rfl, rfl⟩
  obtain ⟨dl, hdl, hde⟩ := HDC.out
  rw [hde] at hR ⊢
  have HD := Lib.hid hdl
  have HR := Lib.hid hR
  have HLA := Lib.hid hlast
  have S0 := RGo.start w dl.toArray
  have HB := Lib.hid zero_build
  have HZ := Lib.hid (show rec0.cells.length = 44 from rec0.cells_length rfl)
  have HZO := Lib.hid rec0.cells_one
  clear HDC hdl hde hR hlast
  go_enter Tryd.func19, Tryd.ntmps19
  go_wp2_with (first
    | (refine wpList_build_known rfl _ _ rfl (.agg rec0.cells.toArray) ?_ ?_; (intro W; have hw9 := HB.out W; simpa [Act.eval] using hw9))
    | (have _t := S0; refine wpList_store_blk rfl _ _ _ rfl (ds := rec0.cells) S0.l rfl rfl (by simp) (by rw [HZ.out]; kernel_rfl) HZO.out ?_; clear _t; intro w9 N9 g9; have S1 := S0.stored N9 g9; clear S0 N9 g9))
  go_loopw [5, 4] (fun i f W => ∃ n : Nat, n ≤ 2 ∧ i = .int .i64 n ∧ f = .bool (uptoR s.read n).2 ∧ RGo w W dl.toArray (uptoR s.read n).1) (fun i _ _ => (2 - intOf i).toNat)
  case atStart => exact ⟨0, by omega, rfl, rfl, S1⟩
  case round =>
    obtain ⟨n, hn, rfl, rfl, S⟩ := hrel
    clear S1
    by_cases hlt : n < 2
    case neg =>
      obtain rfl : n = 2 := by omega
      have d1 : decide (((2 : Nat) : Int) < 2) = false := by decide
      have hro := uptoR_ok hw 2
      rw [HLA.out] at S hro
      have HL := Lib.hid ((lastF s.read).cells_length hro.man)
      have HO := Lib.hid (lastF s.read).cells_one
      have R := block_range S.l
      have Z := S.z
      have B := S.b
      clear hro S
      obtain ⟨L, hL⟩ : ∃ L, (lastF s.read).cells = L := ⟨_, rfl⟩
      rw [hL] at HL HO R
      have HLE := Lib.hid hL
      clear hL
      go_wp2_with (first
        | (refine wpList_load_midV (by rfl) _ _ rfl (w.heap.size + 1 + 1) 0 rfl L R Tryd.underlying50 rfl (by rw [HL.out]; kernel_rfl) ?_)
        | (have _t := Z; refine wpList_store_blk rfl _ _ _ rfl (ds := L) Z rfl rfl (by rw [HL.out]; rfl) (by rw [HL.out]; kernel_rfl) HO.out ?_; clear _t; intro w9 r9 g9))
      refine bodyPost_ret (v := .agg L.toArray) (results_cell_row rfl _ _ (w.heap.size + 1) 50 _ (0, 0) _ rfl r9 Tryd.underlying50 rfl (by rw [show L.toArray.size = 44 from HL.out]; kernel_rfl)) rfl ⟨by rw [HLE.out], ?_⟩
      exact B.trans (below_of_grown g9 B.size fun b hb => by injection hb with hb; omega)
    case pos =>
      have hro := uptoR_ok hw n
      have HX9 := Lib.hid (HR.out wr S.b n)
      obtain ⟨m, hmn⟩ : ∃ m : Int, (n = 0 ∧ m = 0) ∨ (n = 1 ∧ m = 1) := by
        have : n = 0 ∨ n = 1 := by omega
        rcases this with e | e
        · exact ⟨0, Or.inl ⟨e, rfl⟩⟩
        · exact ⟨1, Or.inr ⟨e, rfl⟩⟩
      have hm1 : m = n := by rcases hmn with ⟨rfl, rfl⟩ | ⟨rfl, rfl⟩ <;> rfl
      by_cases he : (s.read n).2 = 0
      case neg =>
        have HY : Hid (uptoR s.read (n + 1) = uptoR s.read n) := Lib.hid (by
          show stepR s.read (uptoR s.read n) n = _
          unfold stepR
          rw [if_neg (fun c => he c.1)])
        have e1 : ((s.read n).2 != 0) = true := by rw [bne_iff_ne]; exact he
        have RD := block_range (L := dl) S.x
        have HS := Lib.hid S
        clear S hm1 he hro
        rcases hmn with ⟨rfl, rfl⟩ | ⟨rfl, rfl⟩
        all_goals
          generalize (s.read _).2 = E at *
          generalize (s.read _).1 = xs at *
          go_wp2_with (first
            | (refine wpList_load_midV (by rfl) _ _ rfl w.heap.size 0 rfl dl RD Tryd.underlying31 rfl (by rw [HD.out]; kernel_rfl) ?_)
            | (go_at_call 51; refine HX9.out.mono ?_; rintro e w1 ⟨rfl, hb1⟩; have S1 := HS.out.below hb1))
          go_roundw
          case rel => first | (refine ⟨0 + 1, by omega, by go_num, ?_, ?_⟩ <;> rw [HY.out]; exact S1) | (refine ⟨1 + 1, by omega, by go_num, ?_, ?_⟩ <;> rw [HY.out]; exact S1)
          case measure => simp [intOf] <;> omega
      case pos =>
        obtain ⟨hxl, hxo⟩ := hw n (s.read n).1 (Prod.ext rfl he)
        have hok9 := getV_ok hxo
        have HY1 : Hid (((getE (s.read n).1 = 0 ∧ (getV (s.read n).1).seq % 2 = n) ∧ ((uptoR s.read n).2 = false ∨ (uptoR s.read n).1.seq ≤ (getV (s.read n).1).seq)) → uptoR s.read (n + 1) = (getV (s.read n).1, true)) := Lib.hid (fun c => by
          show stepR s.read (uptoR s.read n) n = _
          unfold stepR
          rw [if_pos ⟨he, c.1.1, c.1.2, c.2⟩])
        have HY2 : Hid (¬ ((getE (s.read n).1 = 0 ∧ (getV (s.read n).1).seq % 2 = n) ∧ ((uptoR s.read n).2 = false ∨ (uptoR s.read n).1.seq ≤ (getV (s.read n).1).seq)) → uptoR s.read (n + 1) = ((uptoR s.read n).1, (uptoR s.read n).2)) := Lib.hid (fun c => by
          show stepR s.read (uptoR s.read n) n = _
          unfold stepR
          rw [if_neg (fun x => c ⟨⟨x.2.1, x.2.2.1⟩, x.2.2.2⟩)])
        have GG := Lib.hid (fun W A c h1 h2 h3 => rjget_any A (s.read n).1 c W h1 h2 (by omega) hxo h3)
        have HL := Lib.hid ((getV (s.read n).1).cells_length hok9.man)
        have HO := Lib.hid (getV (s.read n).1).cells_one
        have HC0 : Hid ((getV (s.read n).1).cells[0]? = some (.int .u64 (getV (s.read n).1).seq)) := Lib.hid rfl
        have HU0 : Hid ((uptoR s.read n).1.cells[0]? = some (.int .u64 (uptoR s.read n).1.seq)) := Lib.hid rfl
        have hq := hok9.seq
        have hu := hro.seq
        have HUL := Lib.hid ((uptoR s.read n).1.cells_length hro.man)
        have HM1 := Lib.hid hm1
        have RD := block_range (L := dl) S.x
        have HS := Lib.hid S
        have HXO := Lib.hid hxo
        have hmx : (s.read n).1.length ≤ maxLen := by unfold maxLen; omega
        have HMX := Lib.hid hmx
        rw [he] at HX9
        clear S hm1 he hro hok9 hxo hmx hxl
        generalize (uptoR s.read n).1 = l at *
        generalize (uptoR s.read n).2 = f at *
        generalize getV (s.read n).1 = r at *
        generalize getE (s.read n).1 = E at *
        generalize (s.read n).1 = xs at *
        rcases hmn with ⟨rfl, rfl⟩ | ⟨rfl, rfl⟩
        all_goals
          go_upto_region 9 with (first
            | (refine wpList_load_midV (by rfl) _ _ rfl w.heap.size 0 rfl dl RD Tryd.underlying31 rfl (by rw [HD.out]; kernel_rfl) ?_)
            | (go_at_call 51; refine HX9.out.mono ?_; rintro e w1 ⟨rfl, hb1⟩; have S1 := HS.out.below hb1)
            | (have _t := S1; refine wpList_bytes_of rfl _ _ 5 _ rfl (xs := xs) rfl Tryd.underlying9 Tryd.underlying22 Tryd.underlying5 HXO.out HMX.out ?_; clear _t; intro A2 c2 w2 k1 k2 k3 hb2; have S2 := S1.below hb2)
            | (have _t := S2; go_at_call 52; (with_reducible refine (GG.out _ A2 c2 k1 k2 k3).mono ?_); clear _t; rintro e w3 ⟨rfl, hb3⟩; have S3 := S2.below hb3)
            | (have _t := S3; refine wpList_store_blk rfl _ _ _ rfl (ds := r.cells) (Block.new w3 50 rec0.cells.toArray) rfl rfl (by rw [HL.out]; rfl) (by rw [HL.out]; kernel_rfl) HO.out ?_; clear _t; intro w6 N6 g6; have S6 := S3.below ((below_last w3 _).trans (below_of_grown g6 (below_last w3 _).size fun b hb => by injection hb with hb; omega))))
          have n0 : w6.cell? ⟨w3.heap.size, 0, none⟩ = some (.int .u64 r.seq) := (Block.cell N6 0).trans (by simpa using HC0.out)
          have n3 : w6.cell? ⟨w.heap.size + 1 + 1, 0, none⟩ = some (.int .u64 l.seq) := (Block.cell S6.l 0).trans (by simpa using HU0.out)
          have hmm : r.seq.tmod 2 = r.seq % 2 := Int.tmod_eq_emod_of_nonneg (by omega)
          have hne : w3.heap.size ≠ w.heap.size + 1 + 1 := by have := Block.lt S3.l; omega
          have SW6 := Lib.hid S6
          have RN6 := block_range N6
          clear g6 S6 N6 S3 S2 S1 hb1 hb2 hb3 HC0 HU0 RD HX9 GG k1 k2 k3
          generalize r.seq = q at *
          generalize l.seq = u at *
          have hcs := cases_ge E q u f _ _ HM1.out
          clear HM1
          have hw0 : IntKind.u64.wrap 0 = 0 := by decide
          have hw1 : IntKind.u64.wrap 1 = 1 := by decide
          rcases hcs with ⟨b1, e1⟩ | ⟨b1, e1, ⟨b2, e2⟩ | ⟨b2, e2, b3 | ⟨b3, ⟨b4, e4⟩ | ⟨b4, e4⟩⟩⟩⟩
          case' inl => have HY := Lib.hid (HY2.out (fun c => b1 c.1.1))
          case' inr.inl => have HY := Lib.hid (HY2.out (fun c => b2 c.1.2))
          case' inr.inr.inl => have HY := Lib.hid (HY1.out ⟨⟨b1, b2⟩, Or.inl b3⟩); subst b3
          case' inr.inr.inr.inl => have HY := Lib.hid (HY1.out ⟨⟨b1, b2⟩, Or.inr b4⟩); subst b3
          case' inr.inr.inr.inr => have HY := Lib.hid (HY2.out (fun c => c.2.elim (fun c => absurd (b3.symm.trans c) (by decide)) b4)); subst b3
          all_goals
            first
              | clear b1 b2 b4
              | clear b1 b2
              | clear b1
            clear HY1 HY2
            have SW := SW6.out
            go_wp2_with (first
              | (refine wpList_load_midV (by rfl) _ _ rfl w3.heap.size 0 rfl r.cells RN6 Tryd.underlying50 rfl (by rw [HL.out]; kernel_rfl) ?_)
              | (have _t := SW; refine wpList_store_blk rfl _ _ _ rfl (ds := r.cells) SW.l rfl rfl (by rw [HL.out]; exact HUL.out.symm) (by rw [HL.out]; kernel_rfl) HO.out ?_; clear _t; intro w7 N7 g7; have SE := SW.stored N7 g7; clear N7 g7 SW))
            first
              | (have SF := SE; clear SE)
              | (have SF := SW; clear SW)
            go_roundw
            case rel => first | (refine ⟨0 + 1, by omega, by go_num, ?_, ?_⟩ <;> rw [HY.out]; exact SF) | (refine ⟨1 + 1, by omega, by go_num, ?_, ?_⟩ <;> rw [HY.out]; exact SF)
            case measure => simp [intOf] <;> omega
end Go.Proofs.YtpnodocjpedcmaaDoor.Jr
