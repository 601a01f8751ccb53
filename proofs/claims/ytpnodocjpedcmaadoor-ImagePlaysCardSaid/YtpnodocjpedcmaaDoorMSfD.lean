/-
  Layer 6, the document's device: Read: contract. Conditions: as each theorem names.
-/
import Derived.Test.YtpnodocjpedcmaaDoorMGIays3
import Derived.Test.YtpnodocjpedcmaaDoorMSeG
namespace Go.Proofs.YtpnodocjpedcmaaDoor.Sec
open Go.ChangeShapes Go.WideShapes Go.ChangeAt Go.RowKit Go.Proofs.YtpnodocjpedcmaaDoor.Kit

theorem find_no {A : Option Addr} {l : Sl} {c : Nat} {k : Int} {w : World} (hl : l.length ≤ 1000000000) (hr : HoldsF w w.heap.size A l) (hg : getS l k = none) :
    Calls Tryd.prog 80 #[.slice A l.length c, .int .i64 k] w fun e w' => e = .returned (.int .i64 (-1)) ∧ w = w' :=
  (find_any A l c k w hl hr).mono fun e w' ⟨h1, h2⟩ => by
    rw [hg] at h2
    exact ⟨h2, h1⟩
def FoundAt (l : Sl) (k : Int) (o : Option (List Int)) (w : World) (e : Ending) (w' : World) : Prop := ∃ i : Nat, l[i]? = some (k, o) ∧ e = .returned (.int .i64 i) ∧ w = w'
theorem find_yes {A : Option Addr} {l : Sl} {c : Nat} {k : Int} {o : Option (List Int)} {w : World} (hl : l.length ≤ 1000000000) (hr : HoldsF w w.heap.size A l) (hg : getS l k = some o) :
    Calls Tryd.prog 80 #[.slice A l.length c, .int .i64 k] w (FoundAt l k o w) :=
  (find_any A l c k w hl hr).mono fun e w' ⟨h1, h2⟩ => by
    rw [hg] at h2
    obtain ⟨i, h3, h4⟩ := h2
    exact ⟨i, h3, h4, h1⟩

def GivesS (zs : List Int) (E : Int) (w : World) (e : Ending) (w' : World) : Prop := e = .returned (.tuple #[.string (strOfNums zs), .int .i64 E]) ∧ Below w.heap.size w w'
theorem pos_of_get {l : Sl} {k : Int} {o : Option (List Int)} (h : getS l k = some o) : 0 < l.length := List.length_pos_of_mem (mem_getS h)
theorem str_nil : strOfNums [] = ⟨#[]⟩ := rfl
theorem len_few {n : Nat} (h : n < 1000000000) : n ≤ 1000000000 := by omega

set_option maxRecDepth 100000 in
set_option maxHeartbeats 6400000 in
theorem rread_any (v : Value) (s : Dv) (i : Int) (w : World) (h : RDv w v s) (hok : s.Ok) :
    Calls Tryd.prog 51 #[v, .int .i64 i] w (GivesS (s.read i).1 (s.read i).2 w) := by
  obtain ⟨Ak, ck, Aw, cw, rfl, hk, hw, r⟩ := h
  have hs2 := hok.s2
  have hwf := len_few (waits_few hok)
  have hkf := len_few (kept_few hok)
  have hwn := Lib.hid hok.wn
  have B1 := Lib.hid (fun o => (Below.refl w.heap.size w).alloc (Nat.le_refl _) o)
  have HS := Lib.hid str_nil
  unfold dCells Dv.read
  clear r
  cases hoff : s.off with
  | true =>
    rw [if_pos rfl]
    go_enter Tryd.func51, Tryd.ntmps51
    go_wp2_with fail
    go_ret2
    exact ⟨by rw [HS.out]; rfl, B1.out _⟩
  | false =>
    rw [if_neg (by decide)]
    by_cases hlo : i < 0
    · rw [if_pos (Or.inl hlo)]
      have d1 : decide (i < 0) = true := decide_eq_true hlo
      go_enter Tryd.func51, Tryd.ntmps51
      go_wp2_with fail
      go_ret2
      exact ⟨by rw [HS.out]; rfl, B1.out _⟩
    · have d1 : decide (i < 0) = false := decide_eq_false hlo
      by_cases hhi : (s.count : Int) ≤ i
      · rw [if_pos (Or.inr hhi)]
        have d2 : decide ((s.count : Int) ≤ i) = true := decide_eq_true hhi
        go_enter Tryd.func51, Tryd.ntmps51
        go_wp2_with fail
        go_ret2
        exact ⟨by rw [HS.out]; rfl, B1.out _⟩
      · have d2 : decide ((s.count : Int) ≤ i) = false := decide_eq_false hhi
        rw [if_neg (by omega)]
        -- the walk of a place that is there
        have hz := Lib.hid (fun o => show (w.alloc o).heap.size = w.heap.size + 1 by simp)
        have X1 := Lib.hid (Block.new w 31 #[.int .i64 s.size, .int .i64 s.count, .slice Ak s.kept.length ck, .slice Aw s.waits.length cw, .bool false, .int .i64 s.offs, .int .i64 s.fuse, .int .u64 s.wr])
        obtain ⟨Z, hZ⟩ : ∃ Z, strOfNums (List.replicate s.size 0) = Z := ⟨_, rfl⟩
        have HZ := Lib.hid hZ
        clear hlo hhi hoff
        cases hgw : getS s.waits i with
        | some o =>
          cases o with
          | none => exact absurd rfl (hwn.out _ (mem_getS hgw))
          | some xs =>
            cases hgk : getS s.kept i with
            | some o2 =>
              obtain ⟨bw, ow, rfl, hbw, hcw⟩ := hw (pos_of_get hgw)
              have hw : HoldsF w w.heap.size (some ⟨bw, ow, none⟩) s.waits := fun _ => ⟨bw, ow, rfl, hbw, hcw⟩
              obtain ⟨bk, ok, rfl, hbk, hck⟩ := hk (pos_of_get hgk)
              have hk : HoldsF w w.heap.size (some ⟨bk, ok, none⟩) s.kept := fun _ => ⟨bk, ok, rfl, hbk, hck⟩
              have GW := Lib.hid (fun W (hB : Below w.heap.size w W) => find_yes (c := cw) hwf ((hw.below hB).more hB.size) hgw)
              have GK := Lib.hid (fun W (hB : Below w.heap.size w W) => find_yes (c := ck) hkf ((hk.below hB).more hB.size) hgk)
              have HCW := Lib.hid (fun W (hB : Below w.heap.size w W) j q (hj : s.waits[j]? = some q) => (fun i u hu => (hB.cell (p := ⟨bw, _, none⟩) hbw).trans (hcw j q hj i u hu) : W.rangeAt bw (ow + j * 3) (cellsF q)))
              have HCK := Lib.hid (fun W (hB : Below w.heap.size w W) j q (hj : s.kept[j]? = some q) => (fun i u hu => (hB.cell (p := ⟨bk, _, none⟩) hbk).trans (hck j q hj i u hu) : W.rangeAt bk (ok + j * 3) (cellsF q)))
              clear hw hk hgw hgk hcw hbw hck hbk
              go_enter Tryd.func51, Tryd.ntmps51
              go_wp2_with (first
                | (refine wpList_make_ints _ rfl _ _ _ rfl elem8 s.size s.size rfl rfl rfl rfl (Nat.le_refl _) (by omega) ?_; intro w5 own5 hb5 hl5; obtain ⟨A5, c5, he5, _, _, hh5⟩ := own5.opened; have kc := conv_bytes (P := Tryd.prog) Tryd.underlying22 Tryd.underlying5 Tryd.underlying9 w5 A5 (List.replicate s.size 0) c5 _ hh5; rw [← he5, hZ, hz.out] at kc; clear he5 hh5 own5; have B5 := (B1.out _).trans (hb5.mono (by simp)); have X6 := (X1.out.below hb5 (by simp)).alloc (.cells #[.int .i64 0, .string Z, .bool false] 95); have y2 := X6.cell 2; have y3 := X6.cell 3; have B6 := B5.alloc B5.size (.cells #[.int .i64 0, .string Z, .bool false] 95); clear X6 hb5)
                | (go_at_call 80; (with_reducible refine (GW.out _ B6).mono ?_); rintro e w7 ⟨jw, hjw, rfl, rfl⟩; have hjl := (List.getElem?_eq_some_iff.1 hjw).1; have ldw := HCW.out _ B6 jw _ hjw; clear hjw)
                | (go_at_call 80; (with_reducible refine (GK.out _ B6).mono ?_); rintro e w7 ⟨jk, hjk, rfl, rfl⟩; have hkl := (List.getElem?_eq_some_iff.1 hjk).1; have ldk := HCK.out _ B6 jk _ hjk; clear hjk)
                | (have _t := ldw; refine wpList_load_midV (by rfl) _ _ rfl bw (ow + jw * 3) rfl [.int .i64 i, .string (strB (some xs)), .bool false] ldw Tryd.underlying95 rfl (by rfl) ?_))
              go_ret2
              exact ⟨rfl, B5.alloc B5.size _⟩
            | none =>
              obtain ⟨bw, ow, rfl, hbw, hcw⟩ := hw (pos_of_get hgw)
              have hw : HoldsF w w.heap.size (some ⟨bw, ow, none⟩) s.waits := fun _ => ⟨bw, ow, rfl, hbw, hcw⟩
              have GW := Lib.hid (fun W (hB : Below w.heap.size w W) => find_yes (c := cw) hwf ((hw.below hB).more hB.size) hgw)
              have GK := Lib.hid (fun W (hB : Below w.heap.size w W) => find_no (c := ck) hkf ((hk.below hB).more hB.size) hgk)
              have HCW := Lib.hid (fun W (hB : Below w.heap.size w W) j q (hj : s.waits[j]? = some q) => (fun i u hu => (hB.cell (p := ⟨bw, _, none⟩) hbw).trans (hcw j q hj i u hu) : W.rangeAt bw (ow + j * 3) (cellsF q)))
              clear hw hk hgw hgk hcw hbw
              go_enter Tryd.func51, Tryd.ntmps51
              go_wp2_with (first
                | (refine wpList_make_ints _ rfl _ _ _ rfl elem8 s.size s.size rfl rfl rfl rfl (Nat.le_refl _) (by omega) ?_; intro w5 own5 hb5 hl5; obtain ⟨A5, c5, he5, _, _, hh5⟩ := own5.opened; have kc := conv_bytes (P := Tryd.prog) Tryd.underlying22 Tryd.underlying5 Tryd.underlying9 w5 A5 (List.replicate s.size 0) c5 _ hh5; rw [← he5, hZ, hz.out] at kc; clear he5 hh5 own5; have B5 := (B1.out _).trans (hb5.mono (by simp)); have X6 := (X1.out.below hb5 (by simp)).alloc (.cells #[.int .i64 0, .string Z, .bool false] 95); have y2 := X6.cell 2; have y3 := X6.cell 3; have B6 := B5.alloc B5.size (.cells #[.int .i64 0, .string Z, .bool false] 95); clear X6 hb5)
                | (go_at_call 80; (with_reducible refine (GW.out _ B6).mono ?_); rintro e w7 ⟨jw, hjw, rfl, rfl⟩; have hjl := (List.getElem?_eq_some_iff.1 hjw).1; have ldw := HCW.out _ B6 jw _ hjw; clear hjw)
                | (go_at_call 80; (with_reducible refine (GK.out _ B6).mono ?_); rintro e w7 ⟨rfl, rfl⟩)
                | (have _t := ldw; refine wpList_load_midV (by rfl) _ _ rfl bw (ow + jw * 3) rfl [.int .i64 i, .string (strB (some xs)), .bool false] ldw Tryd.underlying95 rfl (by rfl) ?_))
              go_ret2
              exact ⟨rfl, B5.alloc B5.size _⟩
        | none =>
          cases hgk : getS s.kept i with
          | none =>
            have GW := Lib.hid (fun W (hB : Below w.heap.size w W) => find_no (c := cw) hwf ((hw.below hB).more hB.size) hgw)
            have GK := Lib.hid (fun W (hB : Below w.heap.size w W) => find_no (c := ck) hkf ((hk.below hB).more hB.size) hgk)
            clear hw hk hgw hgk
            go_enter Tryd.func51, Tryd.ntmps51
            go_wp2_with (first
              | (refine wpList_make_ints _ rfl _ _ _ rfl elem8 s.size s.size rfl rfl rfl rfl (Nat.le_refl _) (by omega) ?_; intro w5 own5 hb5 hl5; obtain ⟨A5, c5, he5, _, _, hh5⟩ := own5.opened; have kc := conv_bytes (P := Tryd.prog) Tryd.underlying22 Tryd.underlying5 Tryd.underlying9 w5 A5 (List.replicate s.size 0) c5 _ hh5; rw [← he5, hZ, hz.out] at kc; clear he5 hh5 own5; have B5 := (B1.out _).trans (hb5.mono (by simp)); have X6 := (X1.out.below hb5 (by simp)).alloc (.cells #[.int .i64 0, .string Z, .bool false] 95); have y2 := X6.cell 2; have y3 := X6.cell 3; have B6 := B5.alloc B5.size (.cells #[.int .i64 0, .string Z, .bool false] 95); clear X6 hb5)
              | (go_at_call 80; (with_reducible refine (GW.out _ B6).mono ?_); rintro e w7 ⟨rfl, rfl⟩)
              | (go_at_call 80; (with_reducible refine (GK.out _ B6).mono ?_); rintro e w7 ⟨rfl, rfl⟩))
            go_ret2
            exact ⟨by rw [HZ.out]; rfl, B6⟩
          | some o =>
            cases o with
            | none =>
              obtain ⟨bk, ok, rfl, hbk, hck⟩ := hk (pos_of_get hgk)
              have hk : HoldsF w w.heap.size (some ⟨bk, ok, none⟩) s.kept := fun _ => ⟨bk, ok, rfl, hbk, hck⟩
              have GW := Lib.hid (fun W (hB : Below w.heap.size w W) => find_no (c := cw) hwf ((hw.below hB).more hB.size) hgw)
              have GK := Lib.hid (fun W (hB : Below w.heap.size w W) => find_yes (c := ck) hkf ((hk.below hB).more hB.size) hgk)
              have HCK := Lib.hid (fun W (hB : Below w.heap.size w W) j q (hj : s.kept[j]? = some q) => (fun i u hu => (hB.cell (p := ⟨bk, _, none⟩) hbk).trans (hck j q hj i u hu) : W.rangeAt bk (ok + j * 3) (cellsF q)))
              clear hw hk hgw hgk hck hbk
              go_enter Tryd.func51, Tryd.ntmps51
              go_wp2_with (first
                | (refine wpList_make_ints _ rfl _ _ _ rfl elem8 s.size s.size rfl rfl rfl rfl (Nat.le_refl _) (by omega) ?_; intro w5 own5 hb5 hl5; obtain ⟨A5, c5, he5, _, _, hh5⟩ := own5.opened; have kc := conv_bytes (P := Tryd.prog) Tryd.underlying22 Tryd.underlying5 Tryd.underlying9 w5 A5 (List.replicate s.size 0) c5 _ hh5; rw [← he5, hZ, hz.out] at kc; clear he5 hh5 own5; have B5 := (B1.out _).trans (hb5.mono (by simp)); have X6 := (X1.out.below hb5 (by simp)).alloc (.cells #[.int .i64 0, .string Z, .bool false] 95); have y2 := X6.cell 2; have y3 := X6.cell 3; have B6 := B5.alloc B5.size (.cells #[.int .i64 0, .string Z, .bool false] 95); clear X6 hb5)
                | (go_at_call 80; (with_reducible refine (GW.out _ B6).mono ?_); rintro e w7 ⟨rfl, rfl⟩)
                | (go_at_call 80; (with_reducible refine (GK.out _ B6).mono ?_); rintro e w7 ⟨jk, hjk, rfl, rfl⟩; have hkl := (List.getElem?_eq_some_iff.1 hjk).1; have ldk := HCK.out _ B6 jk _ hjk; clear hjk)
                | (have _t := ldk; refine wpList_load_midV (by rfl) _ _ rfl bk (ok + jk * 3) rfl [.int .i64 i, .string (strB none), .bool true] ldk Tryd.underlying95 rfl (by rfl) ?_))
              go_ret2
              exact ⟨by rw [HS.out]; rfl, B5.alloc B5.size _⟩
            | some xs =>
              obtain ⟨bk, ok, rfl, hbk, hck⟩ := hk (pos_of_get hgk)
              have hk : HoldsF w w.heap.size (some ⟨bk, ok, none⟩) s.kept := fun _ => ⟨bk, ok, rfl, hbk, hck⟩
              have GW := Lib.hid (fun W (hB : Below w.heap.size w W) => find_no (c := cw) hwf ((hw.below hB).more hB.size) hgw)
              have GK := Lib.hid (fun W (hB : Below w.heap.size w W) => find_yes (c := ck) hkf ((hk.below hB).more hB.size) hgk)
              have HCK := Lib.hid (fun W (hB : Below w.heap.size w W) j q (hj : s.kept[j]? = some q) => (fun i u hu => (hB.cell (p := ⟨bk, _, none⟩) hbk).trans (hck j q hj i u hu) : W.rangeAt bk (ok + j * 3) (cellsF q)))
              clear hw hk hgw hgk hck hbk
              go_enter Tryd.func51, Tryd.ntmps51
              go_wp2_with (first
                | (refine wpList_make_ints _ rfl _ _ _ rfl elem8 s.size s.size rfl rfl rfl rfl (Nat.le_refl _) (by omega) ?_; intro w5 own5 hb5 hl5; obtain ⟨A5, c5, he5, _, _, hh5⟩ := own5.opened; have kc := conv_bytes (P := Tryd.prog) Tryd.underlying22 Tryd.underlying5 Tryd.underlying9 w5 A5 (List.replicate s.size 0) c5 _ hh5; rw [← he5, hZ, hz.out] at kc; clear he5 hh5 own5; have B5 := (B1.out _).trans (hb5.mono (by simp)); have X6 := (X1.out.below hb5 (by simp)).alloc (.cells #[.int .i64 0, .string Z, .bool false] 95); have y2 := X6.cell 2; have y3 := X6.cell 3; have B6 := B5.alloc B5.size (.cells #[.int .i64 0, .string Z, .bool false] 95); clear X6 hb5)
                | (go_at_call 80; (with_reducible refine (GW.out _ B6).mono ?_); rintro e w7 ⟨rfl, rfl⟩)
                | (go_at_call 80; (with_reducible refine (GK.out _ B6).mono ?_); rintro e w7 ⟨jk, hjk, rfl, rfl⟩; have hkl := (List.getElem?_eq_some_iff.1 hjk).1; have ldk := HCK.out _ B6 jk _ hjk; clear hjk)
                | (have _t := ldk; refine wpList_load_midV (by rfl) _ _ rfl bk (ok + jk * 3) rfl [.int .i64 i, .string (strB (some xs)), .bool false] ldk Tryd.underlying95 rfl (by rfl) ?_))
              go_ret2
              exact ⟨rfl, B5.alloc B5.size _⟩
end Go.Proofs.YtpnodocjpedcmaaDoor.Sec
