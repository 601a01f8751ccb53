/-
  Layer 1, sha: bytes taken: contract. Conditions: as each theorem names.
-/
import Derived.Test.YtpnodocjpedcmaaDoorMGIays6
namespace Go.Proofs.YtpnodocjpedcmaaDoor.Sha
open Go.ChangeShapes Go.WideShapes Go.ChangeAt Go.RowKit Go.Proofs.YtpnodocjpedcmaaDoor.Kit

/-- What a slice reads lies in another block. -/
def Far (g : Nat) (A : Option Addr) (xs : List Int) : Prop := 0 < xs.length → ∀ a, A = some a → a.block ≠ g
theorem holds_from {w : World} {B : Nat} {k : IntKind} {A : Option Addr} {c q : Nat} {xs : List Int} (h : Holds w B k A xs) (hc : xs.length ≤ c) : Holds w B k (if c = q then A else A.map fun x => x.add q) (xs.drop q) := by
  intro hx
  rw [List.length_drop] at hx
  obtain ⟨b, off, rfl, hb, hcs⟩ := h (by omega)
  rw [if_neg (by omega)]
  refine ⟨b, off + q, by simp only [Option.map_some, Addr.add]; split <;> simp_all, hb, fun j hj => ?_⟩
  rw [List.length_drop] at hj
  rw [Nat.add_assoc, hcs (q + j) (by omega)]
  simp [List.getD]
theorem Far.from_ {g : Nat} {A : Option Addr} {c q : Nat} {xs : List Int} (h : Far g A xs) (hc : xs.length ≤ c) : Far g (if c = q then A else A.map fun x => x.add q) (xs.drop q) := by
  intro hx a ha
  rw [List.length_drop] at hx
  rw [if_neg (by omega)] at ha
  cases A with
  | none => simp at ha
  | some x =>
    have := h (by omega) x rfl
    simp only [Option.map_some, Option.some.injEq] at ha
    subst ha
    unfold Addr.add
    split <;> exact this
/-- What lies in another block stays. -/
theorem holds_far {w w' : World} {k : IntKind} {A : Option Addr} {xs : List Int} {g : Nat} (h : Holds w w.heap.size k A xs) (hf : Far g A xs) (ho : TurnsIn (· = g) w w') : Holds w' w'.heap.size k A xs := by
  intro hx
  obtain ⟨b, off, rfl, hb, hc⟩ := h hx
  refine ⟨b, off, rfl, Nat.lt_of_lt_of_le hb ho.size, fun j hj => ?_⟩
  have hne : b ≠ g := hf hx _ rfl
  exact (World.cell?_of_block (ho.block b hb hne)).trans (hc j hj)

/-- copy into the middle of a block. -/
theorem wpList_copy_mid {P : Program} {w : World} {ops : Array Oper} {rest : List Oper} {o : Oper} {a : Act} {Q : Exit → Act → World → Prop} (hgd : o.guard = none) (d s : Operand) (t : TypeId)
    (ho : o.op = .call { callee := .builtin .copy, args := #[d, s], argTypes := #[t, t] }) {e : TypeId} {k : IntKind} {bytes : Nat} (he : IntElem P t e k bytes)
    {g off dLen dCap : Nat} (hd : a.eval d = .slice (some ⟨g, off, none⟩) dLen dCap) {B : Nat} {A : Option Addr} {ys : List Int} {c : Nat} (hs : a.eval s = .slice A ys.length c) (hr : Holds w B k A ys)
    {tg : TypeId} {cur : List Value} (hg : Block w g tg cur.toArray) (hfit : off + dLen ≤ cur.length)
    (h : ∀ w', Block w' g tg (cur.take off ++ ((ys.take dLen).map (Value.int k) ++ cur.drop (off + (ys.take dLen).length))).toArray → w.grownBy w' (some g) → wpList P ops Q rest (a.put o.dst (goInt (ys.take dLen).length)) w') :
    wpList P ops Q (o :: rest) a w := by
  obtain ⟨ht, hinfo, hb8⟩ := he
  obtain ⟨i, hi, hz, hsi, hby⟩ := info_parts hinfo
  have hsz : (P.info? e).map (·.size) = some 1 := by rw [hi]; simp [hsi]
  have hmin : (ys.take dLen).length = Nat.min ys.length dLen := by rw [List.length_take]; exact Nat.min_comm _ _
  rcases Nat.eq_zero_or_pos (Nat.min ys.length dLen) with h0 | h0
  · have e0 : ys.take dLen = [] := List.eq_nil_of_length_eq_zero (by omega)
    refine wpList_copy_nothing hgd d s t t ho e ht hsz _ _ _ _ _ _ hd hs h0 ?_
    have := h w (by rw [e0]; simpa using hg) (World.grownBy.refl w _)
    rw [e0] at this
    exact this
  · have hyl : 0 < ys.length := by rw [← hmin, List.length_take] at h0; omega
    obtain ⟨b, o2, rfl, hb, hc⟩ := hr hyl
    refine wpList_copy_own hgd d s t t ho e ht hsz g off dLen dCap ⟨b, o2, none⟩ ys.length c hd hs cur.toArray tg hg ((ys.take dLen).map (Value.int k)) (by rw [List.length_map, hmin]) ?_ (by simp; omega) (ints_one k _) ?_
    · intro j u hu
      obtain ⟨hj, rfl⟩ := get_ints hu
      rw [List.length_take] at hj
      rw [add_plain, hc j (by omega)]
      simp [List.getD, show j < dLen by omega]
    · have hh := h (w.setRow g (cur.take off ++ ((ys.take dLen).map (Value.int k) ++ cur.drop (off + (ys.take dLen).length))).toArray) (setRow_heap w g _ _ tg _ hg)
        ⟨rfl, rfl, rfl, by simp [World.setRow], fun j _ hj => setRow_other w g j _ (fun e => hj (by rw [e]))⟩
      simpa using hh

theorem HB.copied {w : World} {g : Nat} {st rest : List Int} {n : Int} {zs : List Int} {q : Nat} (hs : st.length = 8) (hr : rest.length = 64) (hq : q + zs.length ≤ 64)
    (h : Block w g 154 ((hcells st rest n).take (8 + q) ++ (zs.map (Value.int .u8) ++ (hcells st rest n).drop (8 + q + zs.length))).toArray) : HB w g st (rest.take q ++ (zs ++ rest.drop (q + zs.length))) n := by
  rw [hcells_splice hs hr hq] at h
  exact h

theorem elem8 : IntElem Tryd.prog 22 5 .u8 1 := ⟨Tryd.underlying22, by kernel_rfl, by decide⟩

/-- mix, of a hash's own block. -/
theorem mix_own {g : Nat} {S blk : List Int} {N : Int} (hS : St8 S) (hbl : blk.length = 64) (hbo : Octets blk) (W : World) (h : HB W g S blk N) (hL : LaidS W) :
    Calls Tryd.prog 88 #[arrV .u32 S, .slice (some ⟨g, 8, none⟩) 64 64] W fun e w' => e = .returned (arrV .u32 (mixS S blk)) ∧ Below W.heap.size W w' ∧ HB w' g S blk N :=
  (mix_any S hS _ blk 64 W hbl (by omega) (by unfold maxLen; omega) hbo (h.restHolds hS.1 hbl) hL).mono fun _ _ ⟨he, hb⟩ => ⟨he, hb, h.below hb h.lt⟩

/-- mix, of bytes elsewhere. -/
theorem mix_far {g : Nat} {S blk rest : List Int} {N : Int} {A : Option Addr} {c : Nat} (hS : St8 S) (hbl : blk.length = 64) (hbo : Octets blk) (W : World) (hc : 64 ≤ c) (hm : c ≤ 2 ^ 63 - 1) (hH : Holds W W.heap.size .u8 A blk) (h : HB W g S rest N) (hL : LaidS W) :
    Calls Tryd.prog 88 #[arrV .u32 S, .slice A 64 c] W fun e w' => e = .returned (arrV .u32 (mixS S blk)) ∧ Below W.heap.size W w' ∧ HB w' g S rest N :=
  (mix_any S hS _ blk c W hbl hc (by unfold maxLen; omega) hbo hH hL).mono fun _ _ ⟨he, hb⟩ => ⟨he, hb, h.below hb h.lt⟩
theorem holds_take {w : World} {B : Nat} {k : IntKind} {A : Option Addr} {q : Nat} {xs : List Int} (h : Holds w B k A xs) : Holds w B k A (xs.take q) := by
  intro hx
  rw [List.length_take] at hx
  obtain ⟨b, off, rfl, hb, hcs⟩ := h (by omega)
  refine ⟨b, off, rfl, hb, fun j hj => ?_⟩
  rw [List.length_take] at hj
  rw [hcs j (by omega)]
  simp [List.getD, show j < q by omega]

theorem eight_sets (w : World) (g : Nat) (v0 v1 v2 v3 v4 v5 v6 v7 : Value) : ((((((((w.setCell ⟨g, 0, none⟩ v0).setCell ⟨g, 1, none⟩ v1).setCell ⟨g, 2, none⟩ v2).setCell ⟨g, 3, none⟩ v3).setCell ⟨g, 4, none⟩ v4).setCell ⟨g, 5, none⟩ v5).setCell ⟨g, 6, none⟩ v6).setCell ⟨g, 7, none⟩ v7) = w.setCells g 0 [v0, v1, v2, v3, v4, v5, v6, v7] := rfl

theorem st_cells {w : World} {g : Nat} {a b c d e f x y : Int} {rest : List Int} {N : Int} (h : HB w g [a, b, c, d, e, f, x, y] rest N) :
    (w.cell? ⟨g, 0, none⟩ = some (.int .u32 a) ∧ w.cell? ⟨g, 1, none⟩ = some (.int .u32 b) ∧ w.cell? ⟨g, 2, none⟩ = some (.int .u32 c) ∧ w.cell? ⟨g, 3, none⟩ = some (.int .u32 d) ∧
    w.cell? ⟨g, 4, none⟩ = some (.int .u32 e) ∧ w.cell? ⟨g, 5, none⟩ = some (.int .u32 f) ∧ w.cell? ⟨g, 6, none⟩ = some (.int .u32 x) ∧ w.cell? ⟨g, 7, none⟩ = some (.int .u32 y)) ∧
    (w.frozen? ⟨g, 0, none⟩ = false ∧ w.frozen? ⟨g, 1, none⟩ = false ∧ w.frozen? ⟨g, 2, none⟩ = false ∧ w.frozen? ⟨g, 3, none⟩ = false ∧
    w.frozen? ⟨g, 4, none⟩ = false ∧ w.frozen? ⟨g, 5, none⟩ = false ∧ w.frozen? ⟨g, 6, none⟩ = false ∧ w.frozen? ⟨g, 7, none⟩ = false) :=
  ⟨⟨h.stCell rfl (i := 0) (by omega), h.stCell rfl (i := 1) (by omega), h.stCell rfl (i := 2) (by omega), h.stCell rfl (i := 3) (by omega), h.stCell rfl (i := 4) (by omega), h.stCell rfl (i := 5) (by omega), h.stCell rfl (i := 6) (by omega), h.stCell rfl (i := 7) (by omega)⟩,
   ⟨h.frozen 0, h.frozen 1, h.frozen 2, h.frozen 3, h.frozen 4, h.frozen 5, h.frozen 6, h.frozen 7⟩⟩

theorem turns_drew {S : Nat → Prop} {w w' : World} (h : TurnsIn S w w') : TurnsIn S w w'.drew := ⟨h.os, h.tape, h.output, h.size, h.block⟩

theorem turns_cells (g : Nat) (w : World) (vs : List Value) : TurnsIn (· = g) w (w.setCells g 0 vs) := TurnsIn.ofGrown (setCells_grown g vs 0 w) fun b hb => by injection hb with hb; exact hb.symm

/-- How far the loop over whole blocks is. -/
def WRel (g : Nat) (xs bs : List Int) (w : World) (v : Value) (wr : World) : Prop :=
  ∃ (ys zs : List Int) (A' : Option Addr) (c' : Nat) (rest : List Int), v = .slice A' zs.length c' ∧ xs ++ bs = ys ++ zs ∧ ys.length % 64 = 0 ∧ zs.length ≤ c' ∧ c' ≤ maxLen ∧ Octets zs ∧ Holds wr wr.heap.size .u8 A' zs ∧ Far g A' zs ∧
    HB wr g (stateL ys) rest ((xs.length : Int) + bs.length) ∧ rest.length = 64 ∧ TurnsIn (· = g) w wr
/-- How many are left. -/
def leftOf (v : Value) : Nat := match v with | .slice _ n _ => n | _ => 0

theorem LaidS.turns {w w' : World} {g : Nat} (hL : LaidS w) (ht : TurnsIn (· = g) w w') (hg0 : g ≠ 0) : LaidS w' := fun k hk => by
  rw [← hL k hk]
  exact World.cell?_of_block (ht.block _ (hL.lt (by rw [cubes_length]; omega)) (fun e => hg0 e.symm))

set_option maxRecDepth 100000 in
set_option maxHeartbeats 6400000 in
theorem write_any (g : Nat) (xs : List Int) (A : Option Addr) (bs : List Int) (c : Nat) (w : World) (h : HashIs w g xs) (hlen : xs.length + bs.length ≤ 1099511627776) (hxo : Octets xs) (hc : bs.length ≤ c) (hm : c ≤ maxLen) (ho : Octets bs)
    (hr : Holds w w.heap.size .u8 A bs) (hf : Far g A bs) (hL : LaidS w) (hg0 : g ≠ 0) :
    Calls Tryd.prog 67 #[.pointer (some ⟨g, 0, none⟩), .slice A bs.length c] w fun e w' => e = .returned (.tuple #[]) ∧ HashIs w' g (xs ++ bs) ∧ TurnsIn (· = g) w w' := by
  obtain ⟨r, h1, h2, h3⟩ := h.ex
  have hst := stateL_st xs
  have kt := h1.taken hst.1 h2
  have kf := h1.frozen 72
  have kf := kf
  have hd1 := HB.setTaken h1 hst.1 h2 ((xs.length : Int) + bs.length)
  have hsz : g < w.heap.size := h1.lt
  have t1 : TurnsIn (· = g) w (w.setCell ⟨g, 72, none⟩ (.int .u64 ((xs.length : Int) + bs.length))) := TurnsIn.setCell (p := ⟨g, 72, none⟩) (TurnsIn.refl (· = g) w) (.inl rfl) _
  have q0 : (0 : Int) ≤ (xs.length : Int) % 64 := by omega
  have q1 : (xs.length : Int) % 64 ≤ 64 := by omega
  clear h1 h
  unfold maxLen at hm
  have hr1 := holds_far hr hf t1
  by_cases hq : xs.length % 64 = 0
  · have d0 : decide ((0 : Int) < (xs.length : Int) % 64) = false := by rw [decide_eq_false_iff_not]; omega
    have hstart : WRel g xs bs w (.slice A bs.length c) (w.setCell ⟨g, 72, none⟩ (.int .u64 ((xs.length : Int) + bs.length))) :=
      ⟨xs, bs, A, c, r, rfl, rfl, hq, hc, by unfold maxLen; omega, ho, hr1, hf, hd1, h2, t1⟩
    have hstart := Lib.hid hstart
    clear hq hr1 hd1 t1 h2 h3 hst
    go_enter Tryd.func67, Tryd.ntmps67
    go_wp2_with fail
    go_loopw [1] (fun v wr => WRel g xs bs w v wr) (fun v _ => leftOf v)
    case atStart => exact hstart.out
    case round =>
      clear hstart
      obtain ⟨ys, zs, A', c', rest, rfl, hsp, hy, hc', hm', hoz, hrz, hfz, hb, hrl, ht⟩ := hrel
      unfold maxLen at hm'
      by_cases h64 : 64 ≤ zs.length
      · have hbl : (zs.take 64).length = 64 := by rw [List.length_take]; omega
        have hS := stateL_block (ys := ys) (zs := zs.take 64) hy hbl
        have hst := stateL_st ys
        have hbo : Octets (zs.take 64) := hoz.head 64
        have hLr := hL.turns ht hg0
        have hdl : (zs.drop 64).length = zs.length - 64 := List.length_drop
        have hfr := Far.from_ (q := 64) hfz hc'
        have hfh := fun W (h : Holds W W.heap.size .u8 A' zs) => holds_from (q := 64) h hc'
        have hhd := holds_take (q := 64) hrz
        have hsp2 : xs ++ bs = (ys ++ zs.take 64) ++ zs.drop 64 := by rw [hsp, List.append_assoc, List.take_append_drop]
        have hy2 : (ys ++ zs.take 64).length % 64 = 0 := by rw [List.length_append, hbl]; omega
        have hod := hoz.tail 64
        generalize stateL ys = S0 at *
        obtain ⟨a0, a1, a2, a3, a4, a5, a6, a7, rfl, _⟩ := hst.open_
        obtain ⟨s0, s1, s2, s3, s4, s5, s6, s7, hmx, _⟩ := (mixS_st (zs.take 64) hst).open_
        have GM : ∀ W, Holds W W.heap.size .u8 A' (zs.take 64) → HB W g [a0, a1, a2, a3, a4, a5, a6, a7] rest ((xs.length : Int) + bs.length) → LaidS W → Calls Tryd.prog 88 #[.agg #[.int .u32 a0, .int .u32 a1, .int .u32 a2, .int .u32 a3, .int .u32 a4, .int .u32 a5, .int .u32 a6, .int .u32 a7], .slice A' 64 c'] W fun e w' => e = .returned (.agg #[.int .u32 s0, .int .u32 s1, .int .u32 s2, .int .u32 s3, .int .u32 s4, .int .u32 s5, .int .u32 s6, .int .u32 s7]) ∧ Below W.heap.size W w' ∧ HB w' g [a0, a1, a2, a3, a4, a5, a6, a7] rest ((xs.length : Int) + bs.length) := fun W hH hW hLW => by
          have h := mix_far hst hbl hbo W (c := c') (by omega) hm' hH hW hLW
          rw [hmx] at h
          exact h
        rw [hmx] at hS
        have HS := Lib.hid hS
        have GM := Lib.hid GM
        have Hdl := Lib.hid hdl
        have Hsp := Lib.hid hsp2
        have Hy := Lib.hid hy2
        have Hrl := Lib.hid hrl
        clear hmx hS hdl hsp hsp2 hy2 hbl hy hrl
        obtain ⟨⟨c0, c1, c2, c3, c4, c5, c6, c7⟩, _⟩ := st_cells hb
        have h64c : 64 ≤ c' := by omega
        have h64i : (64 : Int) ≤ (c' : Int) := by omega
        go_wp2_with fail
        go_region_with (go_at_call 88; refine (GM.out _ (by exact hhd) (by exact hb) (by exact hLr)).mono ?_; rintro e w3 ⟨rfl, hb3, b4⟩; obtain ⟨⟨e0, e1, e2, e3, e4, e5, e6, e7⟩, ⟨f0, f1, f2, f3, f4, f5, f6, f7⟩⟩ := st_cells b4)
        have b5 : HB (w3.setCells g 0 [.int .u32 s0, .int .u32 s1, .int .u32 s2, .int .u32 s3, .int .u32 s4, .int .u32 s5, .int .u32 s6, .int .u32 s7]) g [s0, s1, s2, s3, s4, s5, s6, s7] rest ((xs.length : Int) + bs.length) := HB.setState (s2 := [s0, s1, s2, s3, s4, s5, s6, s7]) b4 rfl rfl
        rw [eight_sets]
        have t3 : TurnsIn (· = g) w w3 := (turns_drew ht).trans (TurnsIn.ofNew hb3)
        have t3r : TurnsIn (· = g) wr w3 := (turns_drew (TurnsIn.refl _ wr)).trans (TurnsIn.ofNew hb3)
        have t5 : TurnsIn (· = g) w (w3.setCells g 0 [.int .u32 s0, .int .u32 s1, .int .u32 s2, .int .u32 s3, .int .u32 s4, .int .u32 s5, .int .u32 s6, .int .u32 s7]) := t3.trans (turns_cells g w3 _)
        have t5r : TurnsIn (· = g) wr (w3.setCells g 0 [.int .u32 s0, .int .u32 s1, .int .u32 s2, .int .u32 s3, .int .u32 s4, .int .u32 s5, .int .u32 s6, .int .u32 s7]) := t3r.trans (turns_cells g w3 _)
        clear t3 t3r b4 hb3 GM e0 e1 e2 e3 e4 e5 e6 e7 f0 f1 f2 f3 f4 f5 f6 f7 c0 c1 c2 c3 c4 c5 c6 c7 hLr hb hhd
        generalize w3.setCells g 0 [.int .u32 s0, .int .u32 s1, .int .u32 s2, .int .u32 s3, .int .u32 s4, .int .u32 s5, .int .u32 s6, .int .u32 s7] = w5 at *
        have hr5 := hfh w5 (holds_far hrz hfz t5r)
        clear hfh hrz
        have R5 : WRel g xs bs w (.slice (if c' = 64 then A' else A'.map fun x => x.add 64) (zs.length - 64) (c' - 64)) w5 :=
          ⟨ys ++ zs.take 64, zs.drop 64, _, c' - 64, rest, by rw [Hdl.out], Hsp.out, Hy.out, by rw [Hdl.out]; omega, by unfold maxLen; omega, hod, hr5, hfr, by rw [HS.out]; exact b5, Hrl.out, t5⟩
        by_cases hcm : c' = 64
        · rw [if_pos hcm] at R5
          subst hcm
          rw [show zs.length - 64 = 0 by omega, Nat.sub_self] at R5
          have HR := Lib.hid R5
          clear R5 hr5 hfr
          go_wp2_with fail
          go_roundw
          case rel => exact HR.out
          case measure => simp [leftOf] <;> omega
        · rw [if_neg hcm] at R5
          have HR := Lib.hid R5
          clear R5 hr5 hfr
          go_wp2_with fail
          go_roundw
          case rel => exact HR.out
          case measure => simp [leftOf] <;> omega
      · have hez : zs.take 64 = zs := List.take_of_length_le (by omega)
        have hst := stateL_st ys
        have hcop := fun (w2 : World) => HB.copied (w := w2) (g := g) (rest := rest) (n := (xs.length : Int) + bs.length) (zs := zs.take 64) hst.1 hrl (q := 0) (by rw [hez]; omega)
        rw [hez] at hcop
        have hS := stateL_part (zs := zs) hy (by omega)
        have hla := rest_last (r := rest.drop (0 + zs.length)) hy (zs := zs) (by omega)
        have hNN : (xs.length : Int) + bs.length = ((xs ++ bs).length : Int) := by simp
        have Hez := Lib.hid hez
        have HN := Lib.hid hNN
        have Hcop := Lib.hid hcop
        have HS := Lib.hid hS
        have Hla := Lib.hid hla
        have Hsp := Lib.hid hsp
        have Hrl := Lib.hid hrl
        clear hez hNN hcop hS hla hsp hy hrl
        go_wp2_with (refine wpList_copy_mid rfl _ _ _ rfl elem8 rfl rfl hrz hb (by rw [hcells_length _ hst.1 Hrl.out]; omega) ?_; rw [Hez.out]; intro w6 b6 g6)
        go_end0
        refine ⟨rfl, ⟨_, ?_, ?_, by rw [Hsp.out]; exact Hla.out⟩, ht.trans (TurnsIn.ofGrown g6 fun b hb => by injection hb with hb; exact hb.symm)⟩
        · have b7 := Hcop.out w6 b6
          rw [HN.out] at b7
          rw [Hsp.out] at b7 ⊢
          rw [HS.out]
          exact b7
        · have := Hrl.out
          simp only [List.length_append, List.length_drop]; omega
  · have d0 : decide ((0 : Int) < (xs.length : Int) % 64) = true := by rw [decide_eq_true_eq]; omega
    have tn : ((xs.length : Int) % 64).toNat = xs.length % 64 := by omega
    have q2 : ¬ (64 = xs.length % 64) := by omega
    have Hq := Lib.hid hq
    clear hq
    have hzb : (bs.take (64 - xs.length % 64)).length = min (64 - xs.length % 64) bs.length := List.length_take
    by_cases hs : bs.length < 64 - xs.length % 64
    · have ez : bs.take (64 - xs.length % 64) = bs := List.take_of_length_le (by omega)
      have d1 : decide ((xs.length : Int) % 64 + (bs.length : Int) < 64) = true := by rw [decide_eq_true_eq]; omega
      have Hez := Lib.hid ez
      clear ez hzb
      go_enter Tryd.func67, Tryd.ntmps67
      go_wp2_with (refine wpList_copy_mid rfl _ _ _ rfl elem8 rfl rfl hr1 hd1 (by rw [hcells_length _ hst.1 h2]; omega) ?_; rw [Hez.out]; intro w2 b2 g2)
      refine bodyPost_ret (results_none rfl _ _ _) rfl ⟨rfl, ⟨_, ?_, ?_, rest_next h2 h3 (by have := Hq.out; omega)⟩, t1.trans (TurnsIn.ofGrown g2 fun b hb => by injection hb with hb; exact hb.symm)⟩
      · have b3 := HB.copied hst.1 h2 (by omega) b2
        rw [state_same (by omega), List.length_append, Int.natCast_add]
        exact b3
      · simp only [List.length_append, List.length_take, List.length_drop]; omega
    · have hzl : (bs.take (64 - xs.length % 64)).length = 64 - xs.length % 64 := by rw [List.length_take]; omega
      have hsp : bs.take (64 - xs.length % 64) ++ bs.drop (64 - xs.length % 64) = bs := List.take_append_drop _ _
      have hcop := fun (w2 : World) => HB.copied (w := w2) (g := g) (rest := r) (n := (xs.length : Int) + bs.length) (zs := bs.take (64 - xs.length % 64)) hst.1 h2 (q := xs.length % 64) (by omega)
      rw [rest_full h3 h2 (by omega)] at hcop
      have hS := state_full (xs := xs) (zs := bs.take (64 - xs.length % 64)) (by omega)
      have hbl : (xs.drop (64 * (xs.length / 64)) ++ bs.take (64 - xs.length % 64)).length = 64 := by simp; omega
      have hbo : Octets (xs.drop (64 * (xs.length / 64)) ++ bs.take (64 - xs.length % 64)) := by
        intro x hx
        rcases List.mem_append.1 hx with hx | hx
        · exact hxo x (List.mem_of_mem_drop hx)
        · exact ho x (List.mem_of_mem_take hx)
      have hdl : (bs.drop (64 - xs.length % 64)).length = bs.length - (64 - xs.length % 64) := List.length_drop
      have d1 : decide ((xs.length : Int) % 64 + ((64 - xs.length % 64 : Nat) : Int) < 64) = false := by rw [decide_eq_false_iff_not]; omega
      have hfr := Far.from_ (q := 64 - xs.length % 64) hf hc
      have hfh := fun W (h : Holds W W.heap.size .u8 A bs) => holds_from (q := 64 - xs.length % 64) h hc
      have hm1 : 64 - xs.length % 64 ≤ bs.length := by omega
      have hm2 : xs.length % 64 + (64 - xs.length % 64) = 64 := by omega
      generalize xs.drop (64 * (xs.length / 64)) ++ bs.take (64 - xs.length % 64) = blk at *
      have Hzl := Lib.hid hzl
      have Hsp := Lib.hid hsp
      have Hcop := Lib.hid hcop
      have HS := Lib.hid hS
      have Hbl := Lib.hid hbl
      have Hdl := Lib.hid hdl
      have hyl : (xs ++ bs.take (64 - xs.length % 64)).length % 64 = 0 := by rw [List.length_append, Hzl.out]; omega
      have Hyl := Lib.hid hyl
      clear hyl
      clear hzl hsp hcop hS hzb hbl hdl
      go_enter Tryd.func67, Tryd.ntmps67
      go_wp2_with (refine wpList_copy_mid rfl _ _ _ rfl elem8 rfl rfl hr1 hd1 (by rw [hcells_length _ hst.1 h2]; omega) ?_; intro w2 b2 g2; have b3 := Hcop.out w2 b2; clear b2; rw [Hzl.out])
      have t2 : TurnsIn (· = g) w w2 := t1.trans (TurnsIn.ofGrown g2 fun b hb => by injection hb with hb; exact hb.symm)
      have hL2 := hL.turns t2 hg0
      clear g2 hr1 hd1 t1 kt kf
      generalize stateL xs = S0 at *
      obtain ⟨a0, a1, a2, a3, a4, a5, a6, a7, rfl, _⟩ := hst.open_
      obtain ⟨s0, s1, s2, s3, s4, s5, s6, s7, hmx, _⟩ := (mixS_st blk hst).open_
      have GM : ∀ W, HB W g [a0, a1, a2, a3, a4, a5, a6, a7] blk ((xs.length : Int) + bs.length) → LaidS W → Calls Tryd.prog 88 #[.agg #[.int .u32 a0, .int .u32 a1, .int .u32 a2, .int .u32 a3, .int .u32 a4, .int .u32 a5, .int .u32 a6, .int .u32 a7], .slice (some ⟨g, 8, none⟩) 64 64] W fun e w' => e = .returned (.agg #[.int .u32 s0, .int .u32 s1, .int .u32 s2, .int .u32 s3, .int .u32 s4, .int .u32 s5, .int .u32 s6, .int .u32 s7]) ∧ Below W.heap.size W w' ∧ HB w' g [a0, a1, a2, a3, a4, a5, a6, a7] blk ((xs.length : Int) + bs.length) := fun W hW hLW => by
        have h := mix_own hst Hbl.out hbo W hW hLW
        rw [hmx] at h
        exact h
      have GM := Lib.hid GM
      rw [hmx] at HS
      clear hmx
      obtain ⟨⟨c0, c1, c2, c3, c4, c5, c6, c7⟩, _⟩ := st_cells b3
      go_region_with (go_at_call 88; refine (GM.out _ (by exact b3) (by exact hL2)).mono ?_; rintro e w3 ⟨rfl, hb3, b4⟩; obtain ⟨⟨e0, e1, e2, e3, e4, e5, e6, e7⟩, ⟨f0, f1, f2, f3, f4, f5, f6, f7⟩⟩ := st_cells b4)
      have b5 : HB (w3.setCells g 0 [.int .u32 s0, .int .u32 s1, .int .u32 s2, .int .u32 s3, .int .u32 s4, .int .u32 s5, .int .u32 s6, .int .u32 s7]) g [s0, s1, s2, s3, s4, s5, s6, s7] blk ((xs.length : Int) + bs.length) := HB.setState (s2 := [s0, s1, s2, s3, s4, s5, s6, s7]) b4 rfl rfl
      rw [eight_sets]
      have t3 : TurnsIn (· = g) w w3 := (turns_drew t2).trans (TurnsIn.ofNew hb3)
      have t5 : TurnsIn (· = g) w (w3.setCells g 0 [.int .u32 s0, .int .u32 s1, .int .u32 s2, .int .u32 s3, .int .u32 s4, .int .u32 s5, .int .u32 s6, .int .u32 s7]) := t3.trans (turns_cells g w3 _)
      clear t2 t3 b3 b4 hb3 GM e0 e1 e2 e3 e4 e5 e6 e7 f0 f1 f2 f3 f4 f5 f6 f7 c0 c1 c2 c3 c4 c5 c6 c7 hL2
      generalize w3.setCells g 0 [.int .u32 s0, .int .u32 s1, .int .u32 s2, .int .u32 s3, .int .u32 s4, .int .u32 s5, .int .u32 s6, .int .u32 s7] = w5 at *
      have hr5 := hfh w5 (holds_far hr hf t5)
      generalize 64 - xs.length % 64 = m at *
      have R5 : WRel g xs bs w (.slice (if c = m then A else A.map fun x => x.add m) (bs.length - m) (c - m)) w5 :=
        ⟨xs ++ bs.take m, bs.drop m, _, c - m, blk, by rw [Hdl.out], by rw [List.append_assoc, Hsp.out], Hyl.out, by rw [Hdl.out]; omega, by unfold maxLen; omega, ho.tail m, hr5, hfr, by rw [HS.out]; exact b5, Hbl.out, t5⟩
      clear hfh hr5 hfr
      by_cases hcm : c = m
      · rw [if_pos hcm] at R5
        subst hcm
        rw [show bs.length - c = 0 by omega, Nat.sub_self] at R5
        have hstart := Lib.hid R5
        clear R5
        go_wp2_with fail
        go_loopw [1] (fun v wr => WRel g xs bs w v wr) (fun v _ => leftOf v)
        case atStart => exact hstart.out
        case round =>
          clear hstart Hsp HS Hdl Hyl Hbl hst b5 t5
          obtain ⟨ys, zs, A', c', rest, rfl, hsp, hy, hc', hm', hoz, hrz, hfz, hb, hrl, ht⟩ := hrel
          unfold maxLen at hm'
          by_cases h64 : 64 ≤ zs.length
          · have hbl : (zs.take 64).length = 64 := by rw [List.length_take]; omega
            have hS := stateL_block (ys := ys) (zs := zs.take 64) hy hbl
            have hst := stateL_st ys
            have hbo : Octets (zs.take 64) := hoz.head 64
            have hLr := hL.turns ht hg0
            have hdl : (zs.drop 64).length = zs.length - 64 := List.length_drop
            have hfr := Far.from_ (q := 64) hfz hc'
            have hfh := fun W (h : Holds W W.heap.size .u8 A' zs) => holds_from (q := 64) h hc'
            have hhd := holds_take (q := 64) hrz
            have hsp2 : xs ++ bs = (ys ++ zs.take 64) ++ zs.drop 64 := by rw [hsp, List.append_assoc, List.take_append_drop]
            have hy2 : (ys ++ zs.take 64).length % 64 = 0 := by rw [List.length_append, hbl]; omega
            have hod := hoz.tail 64
            generalize stateL ys = S0 at *
            obtain ⟨a0, a1, a2, a3, a4, a5, a6, a7, rfl, _⟩ := hst.open_
            obtain ⟨s0, s1, s2, s3, s4, s5, s6, s7, hmx, _⟩ := (mixS_st (zs.take 64) hst).open_
            have GM : ∀ W, Holds W W.heap.size .u8 A' (zs.take 64) → HB W g [a0, a1, a2, a3, a4, a5, a6, a7] rest ((xs.length : Int) + bs.length) → LaidS W → Calls Tryd.prog 88 #[.agg #[.int .u32 a0, .int .u32 a1, .int .u32 a2, .int .u32 a3, .int .u32 a4, .int .u32 a5, .int .u32 a6, .int .u32 a7], .slice A' 64 c'] W fun e w' => e = .returned (.agg #[.int .u32 s0, .int .u32 s1, .int .u32 s2, .int .u32 s3, .int .u32 s4, .int .u32 s5, .int .u32 s6, .int .u32 s7]) ∧ Below W.heap.size W w' ∧ HB w' g [a0, a1, a2, a3, a4, a5, a6, a7] rest ((xs.length : Int) + bs.length) := fun W hH hW hLW => by
              have h := mix_far hst hbl hbo W (c := c') (by omega) hm' hH hW hLW
              rw [hmx] at h
              exact h
            rw [hmx] at hS
            have HS := Lib.hid hS
            have GM := Lib.hid GM
            have Hdl := Lib.hid hdl
            have Hsp := Lib.hid hsp2
            have Hy := Lib.hid hy2
            have Hrl := Lib.hid hrl
            clear hmx hS hdl hsp hsp2 hy2 hbl hy hrl
            obtain ⟨⟨c0, c1, c2, c3, c4, c5, c6, c7⟩, _⟩ := st_cells hb
            have h64c : 64 ≤ c' := by omega
            have h64i : (64 : Int) ≤ (c' : Int) := by omega
            go_wp2_with fail
            go_region_with (go_at_call 88; refine (GM.out _ (by exact hhd) (by exact hb) (by exact hLr)).mono ?_; rintro e w3 ⟨rfl, hb3, b4⟩; obtain ⟨⟨e0, e1, e2, e3, e4, e5, e6, e7⟩, ⟨f0, f1, f2, f3, f4, f5, f6, f7⟩⟩ := st_cells b4)
            have b5 : HB (w3.setCells g 0 [.int .u32 s0, .int .u32 s1, .int .u32 s2, .int .u32 s3, .int .u32 s4, .int .u32 s5, .int .u32 s6, .int .u32 s7]) g [s0, s1, s2, s3, s4, s5, s6, s7] rest ((xs.length : Int) + bs.length) := HB.setState (s2 := [s0, s1, s2, s3, s4, s5, s6, s7]) b4 rfl rfl
            rw [eight_sets]
            have t3 : TurnsIn (· = g) w w3 := (turns_drew ht).trans (TurnsIn.ofNew hb3)
            have t3r : TurnsIn (· = g) wr w3 := (turns_drew (TurnsIn.refl _ wr)).trans (TurnsIn.ofNew hb3)
            have t5 : TurnsIn (· = g) w (w3.setCells g 0 [.int .u32 s0, .int .u32 s1, .int .u32 s2, .int .u32 s3, .int .u32 s4, .int .u32 s5, .int .u32 s6, .int .u32 s7]) := t3.trans (turns_cells g w3 _)
            have t5r : TurnsIn (· = g) wr (w3.setCells g 0 [.int .u32 s0, .int .u32 s1, .int .u32 s2, .int .u32 s3, .int .u32 s4, .int .u32 s5, .int .u32 s6, .int .u32 s7]) := t3r.trans (turns_cells g w3 _)
            clear t3 t3r b4 hb3 GM e0 e1 e2 e3 e4 e5 e6 e7 f0 f1 f2 f3 f4 f5 f6 f7 c0 c1 c2 c3 c4 c5 c6 c7 hLr hb hhd
            generalize w3.setCells g 0 [.int .u32 s0, .int .u32 s1, .int .u32 s2, .int .u32 s3, .int .u32 s4, .int .u32 s5, .int .u32 s6, .int .u32 s7] = w5 at *
            have hr5 := hfh w5 (holds_far hrz hfz t5r)
            clear hfh hrz
            have R5 : WRel g xs bs w (.slice (if c' = 64 then A' else A'.map fun x => x.add 64) (zs.length - 64) (c' - 64)) w5 :=
              ⟨ys ++ zs.take 64, zs.drop 64, _, c' - 64, rest, by rw [Hdl.out], Hsp.out, Hy.out, by rw [Hdl.out]; omega, by unfold maxLen; omega, hod, hr5, hfr, by rw [HS.out]; exact b5, Hrl.out, t5⟩
            by_cases hcm : c' = 64
            · rw [if_pos hcm] at R5
              subst hcm
              rw [show zs.length - 64 = 0 by omega, Nat.sub_self] at R5
              have HR := Lib.hid R5
              clear R5 hr5 hfr
              go_wp2_with fail
              go_roundw
              case rel => exact HR.out
              case measure => simp [leftOf] <;> omega
            · rw [if_neg hcm] at R5
              have HR := Lib.hid R5
              clear R5 hr5 hfr
              go_wp2_with fail
              go_roundw
              case rel => exact HR.out
              case measure => simp [leftOf] <;> omega
          · have hez : zs.take 64 = zs := List.take_of_length_le (by omega)
            have hst := stateL_st ys
            have hcop := fun (w2 : World) => HB.copied (w := w2) (g := g) (rest := rest) (n := (xs.length : Int) + bs.length) (zs := zs.take 64) hst.1 hrl (q := 0) (by rw [hez]; omega)
            rw [hez] at hcop
            have hS := stateL_part (zs := zs) hy (by omega)
            have hla := rest_last (r := rest.drop (0 + zs.length)) hy (zs := zs) (by omega)
            have hNN : (xs.length : Int) + bs.length = ((xs ++ bs).length : Int) := by simp
            have Hez := Lib.hid hez
            have HN := Lib.hid hNN
            have Hcop := Lib.hid hcop
            have HS := Lib.hid hS
            have Hla := Lib.hid hla
            have Hsp := Lib.hid hsp
            have Hrl := Lib.hid hrl
            clear hez hNN hcop hS hla hsp hy hrl
            go_wp2_with (refine wpList_copy_mid rfl _ _ _ rfl elem8 rfl rfl hrz hb (by rw [hcells_length _ hst.1 Hrl.out]; omega) ?_; rw [Hez.out]; intro w6 b6 g6)
            go_end0
            refine ⟨rfl, ⟨_, ?_, ?_, by rw [Hsp.out]; exact Hla.out⟩, ht.trans (TurnsIn.ofGrown g6 fun b hb => by injection hb with hb; exact hb.symm)⟩
            · have b7 := Hcop.out w6 b6
              rw [HN.out] at b7
              rw [Hsp.out] at b7 ⊢
              rw [HS.out]
              exact b7
            · have := Hrl.out
              simp only [List.length_append, List.length_drop]; omega
      · rw [if_neg hcm] at R5
        have hstart := Lib.hid R5
        clear R5
        go_wp2_with fail
        go_loopw [1] (fun v wr => WRel g xs bs w v wr) (fun v _ => leftOf v)
        case atStart => exact hstart.out
        case round =>
          clear hstart Hsp HS Hdl Hyl Hbl hst b5 t5
          obtain ⟨ys, zs, A', c', rest, rfl, hsp, hy, hc', hm', hoz, hrz, hfz, hb, hrl, ht⟩ := hrel
          unfold maxLen at hm'
          by_cases h64 : 64 ≤ zs.length
          · have hbl : (zs.take 64).length = 64 := by rw [List.length_take]; omega
            have hS := stateL_block (ys := ys) (zs := zs.take 64) hy hbl
            have hst := stateL_st ys
            have hbo : Octets (zs.take 64) := hoz.head 64
            have hLr := hL.turns ht hg0
            have hdl : (zs.drop 64).length = zs.length - 64 := List.length_drop
            have hfr := Far.from_ (q := 64) hfz hc'
            have hfh := fun W (h : Holds W W.heap.size .u8 A' zs) => holds_from (q := 64) h hc'
            have hhd := holds_take (q := 64) hrz
            have hsp2 : xs ++ bs = (ys ++ zs.take 64) ++ zs.drop 64 := by rw [hsp, List.append_assoc, List.take_append_drop]
            have hy2 : (ys ++ zs.take 64).length % 64 = 0 := by rw [List.length_append, hbl]; omega
            have hod := hoz.tail 64
            generalize stateL ys = S0 at *
            obtain ⟨a0, a1, a2, a3, a4, a5, a6, a7, rfl, _⟩ := hst.open_
            obtain ⟨s0, s1, s2, s3, s4, s5, s6, s7, hmx, _⟩ := (mixS_st (zs.take 64) hst).open_
            have GM : ∀ W, Holds W W.heap.size .u8 A' (zs.take 64) → HB W g [a0, a1, a2, a3, a4, a5, a6, a7] rest ((xs.length : Int) + bs.length) → LaidS W → Calls Tryd.prog 88 #[.agg #[.int .u32 a0, .int .u32 a1, .int .u32 a2, .int .u32 a3, .int .u32 a4, .int .u32 a5, .int .u32 a6, .int .u32 a7], .slice A' 64 c'] W fun e w' => e = .returned (.agg #[.int .u32 s0, .int .u32 s1, .int .u32 s2, .int .u32 s3, .int .u32 s4, .int .u32 s5, .int .u32 s6, .int .u32 s7]) ∧ Below W.heap.size W w' ∧ HB w' g [a0, a1, a2, a3, a4, a5, a6, a7] rest ((xs.length : Int) + bs.length) := fun W hH hW hLW => by
              have h := mix_far hst hbl hbo W (c := c') (by omega) hm' hH hW hLW
              rw [hmx] at h
              exact h
            rw [hmx] at hS
            have HS := Lib.hid hS
            have GM := Lib.hid GM
            have Hdl := Lib.hid hdl
            have Hsp := Lib.hid hsp2
            have Hy := Lib.hid hy2
            have Hrl := Lib.hid hrl
            clear hmx hS hdl hsp hsp2 hy2 hbl hy hrl
            obtain ⟨⟨c0, c1, c2, c3, c4, c5, c6, c7⟩, _⟩ := st_cells hb
            have h64c : 64 ≤ c' := by omega
            have h64i : (64 : Int) ≤ (c' : Int) := by omega
            go_wp2_with fail
            go_region_with (go_at_call 88; refine (GM.out _ (by exact hhd) (by exact hb) (by exact hLr)).mono ?_; rintro e w3 ⟨rfl, hb3, b4⟩; obtain ⟨⟨e0, e1, e2, e3, e4, e5, e6, e7⟩, ⟨f0, f1, f2, f3, f4, f5, f6, f7⟩⟩ := st_cells b4)
            have b5 : HB (w3.setCells g 0 [.int .u32 s0, .int .u32 s1, .int .u32 s2, .int .u32 s3, .int .u32 s4, .int .u32 s5, .int .u32 s6, .int .u32 s7]) g [s0, s1, s2, s3, s4, s5, s6, s7] rest ((xs.length : Int) + bs.length) := HB.setState (s2 := [s0, s1, s2, s3, s4, s5, s6, s7]) b4 rfl rfl
            rw [eight_sets]
            have t3 : TurnsIn (· = g) w w3 := (turns_drew ht).trans (TurnsIn.ofNew hb3)
            have t3r : TurnsIn (· = g) wr w3 := (turns_drew (TurnsIn.refl _ wr)).trans (TurnsIn.ofNew hb3)
            have t5 : TurnsIn (· = g) w (w3.setCells g 0 [.int .u32 s0, .int .u32 s1, .int .u32 s2, .int .u32 s3, .int .u32 s4, .int .u32 s5, .int .u32 s6, .int .u32 s7]) := t3.trans (turns_cells g w3 _)
            have t5r : TurnsIn (· = g) wr (w3.setCells g 0 [.int .u32 s0, .int .u32 s1, .int .u32 s2, .int .u32 s3, .int .u32 s4, .int .u32 s5, .int .u32 s6, .int .u32 s7]) := t3r.trans (turns_cells g w3 _)
            clear t3 t3r b4 hb3 GM e0 e1 e2 e3 e4 e5 e6 e7 f0 f1 f2 f3 f4 f5 f6 f7 c0 c1 c2 c3 c4 c5 c6 c7 hLr hb hhd
            generalize w3.setCells g 0 [.int .u32 s0, .int .u32 s1, .int .u32 s2, .int .u32 s3, .int .u32 s4, .int .u32 s5, .int .u32 s6, .int .u32 s7] = w5 at *
            have hr5 := hfh w5 (holds_far hrz hfz t5r)
            clear hfh hrz
            have R5 : WRel g xs bs w (.slice (if c' = 64 then A' else A'.map fun x => x.add 64) (zs.length - 64) (c' - 64)) w5 :=
              ⟨ys ++ zs.take 64, zs.drop 64, _, c' - 64, rest, by rw [Hdl.out], Hsp.out, Hy.out, by rw [Hdl.out]; omega, by unfold maxLen; omega, hod, hr5, hfr, by rw [HS.out]; exact b5, Hrl.out, t5⟩
            by_cases hcm : c' = 64
            · rw [if_pos hcm] at R5
              subst hcm
              rw [show zs.length - 64 = 0 by omega, Nat.sub_self] at R5
              have HR := Lib.hid R5
              clear R5 hr5 hfr
              go_wp2_with fail
              go_roundw
              case rel => exact HR.out
              case measure => simp [leftOf] <;> omega
            · rw [if_neg hcm] at R5
              have HR := Lib.hid R5
              clear R5 hr5 hfr
              go_wp2_with fail
              go_roundw
              case rel => exact HR.out
              case measure => simp [leftOf] <;> omega
          · have hez : zs.take 64 = zs := List.take_of_length_le (by omega)
            have hst := stateL_st ys
            have hcop := fun (w2 : World) => HB.copied (w := w2) (g := g) (rest := rest) (n := (xs.length : Int) + bs.length) (zs := zs.take 64) hst.1 hrl (q := 0) (by rw [hez]; omega)
            rw [hez] at hcop
            have hS := stateL_part (zs := zs) hy (by omega)
            have hla := rest_last (r := rest.drop (0 + zs.length)) hy (zs := zs) (by omega)
            have hNN : (xs.length : Int) + bs.length = ((xs ++ bs).length : Int) := by simp
            have Hez := Lib.hid hez
            have HN := Lib.hid hNN
            have Hcop := Lib.hid hcop
            have HS := Lib.hid hS
            have Hla := Lib.hid hla
            have Hsp := Lib.hid hsp
            have Hrl := Lib.hid hrl
            clear hez hNN hcop hS hla hsp hy hrl
            go_wp2_with (refine wpList_copy_mid rfl _ _ _ rfl elem8 rfl rfl hrz hb (by rw [hcells_length _ hst.1 Hrl.out]; omega) ?_; rw [Hez.out]; intro w6 b6 g6)
            go_end0
            refine ⟨rfl, ⟨_, ?_, ?_, by rw [Hsp.out]; exact Hla.out⟩, ht.trans (TurnsIn.ofGrown g6 fun b hb => by injection hb with hb; exact hb.symm)⟩
            · have b7 := Hcop.out w6 b6
              rw [HN.out] at b7
              rw [Hsp.out] at b7 ⊢
              rw [HS.out]
              exact b7
            · have := Hrl.out
              simp only [List.length_append, List.length_drop]; omega
end Go.Proofs.YtpnodocjpedcmaaDoor.Sha
