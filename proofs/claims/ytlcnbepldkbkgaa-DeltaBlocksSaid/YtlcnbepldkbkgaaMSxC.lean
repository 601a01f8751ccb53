/-
  Layer 14, suffix.sorted: contracts. Conditions: as each theorem names.
-/
import Derived.Test.YtlcnbepldkbkgaaMSxB
import Derived.Test.YtlcnbepldkbkgaaMGDcks7
import Derived.Deep.DeepCutAuto
namespace Go.Proofs.Ytlcnbepldkbkgaa.Sx
open Go.ChangeShapes Go.WideShapes Go.ChangeAt Go.RowKit Go.Proofs.Ytlcnbepldkbkgaa.Kit

set_option maxRecDepth 100000 in
theorem none_any (i : Nat) (w : World) : Calls Try.prog 40 #[.int .i32 i] w fun e w' => e = .returned (.int .i32 0) ∧ w = w' := by
  go_enter Try.func40, Try.ntmps40
  go_wp2_with fail
  go_ret
  exact ⟨rfl, rfl⟩
set_option maxRecDepth 100000 in
set_option maxHeartbeats 3200000 in
theorem second_any {w : World} {B n k gn gk gb gr : Nat} {r : Nat → Int} (hn : w.cell? ⟨gn, 0, none⟩ = some (.int .i64 n)) (hk : w.cell? ⟨gk, 0, none⟩ = some (.int .i64 k)) (hb : w.cell? ⟨gb, 0, none⟩ = some (.slice (some ⟨gr, 0, none⟩) n n))
    (hr : OwnF w B gr n n r) (hkn : k < n) (hn6 : n ≤ 1000000) {i : Nat} (hi : i < n) :
    Calls Try.prog 41 #[.int .i32 i, .pointer (some ⟨gn, 0, none⟩), .pointer (some ⟨gk, 0, none⟩), .pointer (some ⟨gb, 0, none⟩)] w fun e w' => e = .returned (.int .i32 (secL n k r i)) ∧ w = w' := by
  by_cases h : n ≤ i + k
  · have hs : Hid (secL n k r i = -1) := Lib.hid (by unfold secL; rw [if_pos h])
    have d1 : decide ((n : Int) - (k : Int) ≤ (i : Int)) = true := decide_eq_true (by omega)
    clear h hb hr
    go_enter Try.func41, Try.ntmps41
    go_wp2_with fail
    go_ret
    rw [hs.out]
    exact ⟨rfl, rfl⟩
  · have hs : Hid (secL n k r i = r (i + k)) := Lib.hid (by unfold secL; rw [if_neg h])
    have d1 : decide ((n : Int) - (k : Int) ≤ (i : Int)) = false := decide_eq_false (by omega)
    have c1 := hr.cell (i := i + k) (by omega)
    have i1 : (i : Int) + (k : Int) < (n : Int) := by omega
    generalize r (i + k) = x at *
    clear h hr
    go_enter Try.func41, Try.ntmps41
    go_wp2_with fail
    go_ret
    rw [hs.out]
    exact ⟨rfl, rfl⟩

theorem of_zeros {w : World} {B g n : Nat} (h : Own w B 21 .i32 (.slice (some ⟨g, 0, none⟩) n n) (List.replicate n 0)) : OwnF w B g n n fun _ => 0 := by
  unfold OwnF
  rw [← rowF_zero]
  exact h
/-- What lies in the call's own memory, between two steps: how many there are, the ranks' row, told by a box each; the order's, the ranks' and the spare row. -/
structure Srt (w wr : World) (n gn gb gT gr gs : Nat) (T r x : Nat → Int) : Prop where
  nb : Block wr gn 3 #[.int .i64 n]
  rb : Block wr gb 60 #[.slice (some ⟨gr, 0, none⟩) n n]
  oT : OwnF wr w.heap.size gT n n T
  oR : OwnF wr w.heap.size gr n n r
  oS : OwnF wr w.heap.size gs n n x
  d1 : gT ≠ gr
  d2 : gT ≠ gs
  d3 : gr ≠ gs
  ge : w.heap.size ≤ gn ∧ w.heap.size ≤ gb
  be : Below w.heap.size w wr
section
variable {w wr w' : World} {n gn gb gT gr gs : Nat} {T r x : Nat → Int}
theorem ownF_ne {w : World} {B g n c : Nat} {f : Nat → Int} {b : Nat} {t : TypeId} {cs : Array Value} (h : OwnF w B g n c f) (hb : Block w b t cs) (hne : 21 ≠ t) : b ≠ g := by
  have := Own.ne_block h hb hne
  intro e
  exact this (by rw [e]; rfl)
theorem Srt.c_n (S : Srt w wr n gn gb gT gr gs T r x) : wr.cell? ⟨gn, 0, none⟩ = some (.int .i64 n) := by rw [S.nb.cell 0]; rfl
theorem Srt.c_b (S : Srt w wr n gn gb gT gr gs T r x) : wr.cell? ⟨gb, 0, none⟩ = some (.slice (some ⟨gr, 0, none⟩) n n) := by rw [S.rb.cell 0]; rfl
theorem Srt.out {Q : Nat → Prop} {T' x' : Nat → Int} (S : Srt w wr n gn gb gT gr gs T r x) (t : TurnsIn Q wr w') (hq : ∀ b, Q b → b = gT ∨ b = gs ∨ wr.heap.size ≤ b) (oT : OwnF w' w.heap.size gT n n T') (oS : OwnF w' w.heap.size gs n n x') : Srt w w' n gn gb gT gr gs T' r x' := by
  have n1 := ownF_ne S.oT S.nb (by decide)
  have n2 := ownF_ne S.oS S.nb (by decide)
  have n3 := ownF_ne S.oT S.rb (by decide)
  have n4 := ownF_ne S.oS S.rb (by decide)
  have l1 := S.oT.lt
  have l2 := S.oS.lt
  have l3 := S.oR.lt
  refine ⟨S.nb.out t (fun h => ?_), S.rb.out t (fun h => ?_), oT, S.oR.out t (fun h => ?_), oS, S.d1, S.d2, S.d3, S.ge, S.be.trans (t.toBelow S.be.size fun b hb h => ?_)⟩
  · have := S.nb.lt; rcases hq _ h with e | e | e <;> omega
  · have := S.rb.lt; rcases hq _ h with e | e | e <;> omega
  · have := S.d1; have := S.d3; rcases hq _ h with e | e | e <;> omega
  · have := S.be.size; rcases hq _ h with e | e | e <;> omega
theorem Srt.swapO (S : Srt w wr n gn gb gT gr gs T r x) : Srt w wr n gn gb gs gr gT x r T := ⟨S.nb, S.rb, S.oS, S.oR, S.oT, S.d3.symm, S.d2.symm, S.d1.symm, S.ge, S.be⟩
/-- ranks, spare = spare, ranks. -/
theorem Srt.swapR (S : Srt w wr n gn gb gT gr gs T r x) : Srt w (wr.setCell ⟨gb, 0, none⟩ (.slice (some ⟨gs, 0, none⟩) n n)) n gn gb gT gs gr T x r := by
  have n3 := ownF_ne S.oT S.rb (by decide)
  have n4 := ownF_ne S.oS S.rb (by decide)
  have n5 := ownF_ne S.oR S.rb (by decide)
  have t := turns_put wr gb 0 (.slice (some ⟨gs, 0, none⟩) n n)
  have n6 : gn ≠ gb := fun e => by
    have h1 := S.nb
    have h2 := S.rb
    rw [e] at h1
    unfold Block at h1 h2
    rw [h1] at h2
    injection h2 with h2
    injection h2 with _ h2
    exact absurd h2 (by decide)
  have h1 : Block (wr.setCell ⟨gb, 0, none⟩ (.slice (some ⟨gs, 0, none⟩) n n)) gb 60 #[.slice (some ⟨gs, 0, none⟩) n n] := S.rb.set_ 0 _
  exact ⟨S.nb.out t n6, h1, S.oT.out t n3.symm, S.oS.out t n4.symm, S.oR.out t n5.symm, S.d2, S.d1, S.d3.symm, S.ge, S.be.setCell (p := ⟨gb, 0, none⟩) S.ge.2 _⟩
end

theorem block_ne {w : World} {g h : Nat} {t u : TypeId} {cs ds : Array Value} (a : Block w g t cs) (b : Block w h u ds) (hne : t ≠ u) : g ≠ h := fun e => by
  subst e
  unfold Block at a b
  rw [a] at b
  injection b with b
  injection b with _ b
  exact hne b
/-- ranks, spare = spare, ranks; then a new box for k, with twice as much. -/
theorem Srt.turn {w wr : World} {n gn gb gT gr gs gk k : Nat} {T r x : Nat → Int} (S : Srt w wr n gn gb gT gr gs T r x) (KB : Block wr gk 3 #[.int .i64 k]) :
    (wr.setCell ⟨gb, 0, none⟩ (.slice (some ⟨gs, 0, none⟩) n n)).cell? ⟨gk, 0, none⟩ = some (.int .i64 k) ∧
    ((wr.setCell ⟨gb, 0, none⟩ (.slice (some ⟨gs, 0, none⟩) n n)).alloc (.cells #[.int .i64 k] 3)).cell? ⟨wr.heap.size, 0, none⟩ = some (.int .i64 k) ∧
    ((wr.setCell ⟨gb, 0, none⟩ (.slice (some ⟨gs, 0, none⟩) n n)).alloc (.cells #[.int .i64 k] 3)).frozen? ⟨wr.heap.size, 0, none⟩ = false ∧
    Srt w ((wr.setCell ⟨gb, 0, none⟩ (.slice (some ⟨gs, 0, none⟩) n n)).alloc (.cells #[.int .i64 ((k : Int) * 2)] 3)) n gn gb gT gs gr T x r ∧
    Block ((wr.setCell ⟨gb, 0, none⟩ (.slice (some ⟨gs, 0, none⟩) n n)).alloc (.cells #[.int .i64 ((k : Int) * 2)] 3)) wr.heap.size 3 #[.int .i64 ((k + k : Nat) : Int)] := by
  have t1 := turns_put wr gb 0 (.slice (some ⟨gs, 0, none⟩) n n)
  have hsz : (wr.setCell ⟨gb, 0, none⟩ (.slice (some ⟨gs, 0, none⟩) n n)).heap.size = wr.heap.size := by simp [World.setCell]
  have KB1 := KB.out t1 (block_ne KB S.rb (by decide))
  have S1 := S.swapR
  generalize wr.setCell ⟨gb, 0, none⟩ (.slice (some ⟨gs, 0, none⟩) n n) = W at *
  have N0 := Block.new W 3 #[.int .i64 k]
  have N1 := Block.new W 3 #[.int .i64 ((k : Int) * 2)]
  rw [hsz] at N0 N1
  have t2 : TurnsIn (fun _ => False) W (W.alloc (.cells #[.int .i64 ((k : Int) * 2)] 3)) := (TurnsIn.refl _ W).alloc _
  refine ⟨by rw [KB1.cell 0]; rfl, by rw [N0.cell 0]; rfl, N0.frozen 0, S1.out t2 (fun _ h => h.elim) (S1.oT.out t2 id) (S1.oS.out t2 id), ?_⟩
  rw [show ((k + k : Nat) : Int) = (k : Int) * 2 by omega]
  exact N1
theorem secRow_of {n k : Nat} {T : Nat → Nat} {z : Nat → Int} (hT : PermT n T) (hk : k ≤ n) (lo : ∀ u, u < k → z u = ((n - k + u : Nat) : Int)) (hi : ∀ v, v < n → k ≤ T v → z (k + cnt (fun i => decide (k ≤ T i)) v) = ((T v - k : Nat) : Int)) :
    SecRow n k T (fun j => (z j).toNat) ∧ ∀ j, j < n → z j = (((z j).toNat : Nat) : Int) := by
  have hS : SecRow n k T (fun j => (z j).toNat) := ⟨fun j hj => by show (z j).toNat = _; rw [lo j hj]; omega, fun p hp hq => by show (z _).toNat = _; rw [hi p hp hq]; omega⟩
  refine ⟨hS, fun j hj => ?_⟩
  by_cases hjk : j < k
  · rw [lo j hjk]; omega
  · obtain ⟨p, hp, hq, e, _⟩ := hS.at_ hT hj (by omega)
    rw [e, hi p hp hq]
    omega
def kOf (v : Value) (w : World) : Nat := match v with
  | .pointer (some a) => match w.cell? a with
    | some (.int _ x) => x.toNat
    | _ => 0
  | _ => 0
theorem kOf_block {w : World} {g k : Nat} (h : Block w g 3 #[.int .i64 k]) : kOf (.pointer (some ⟨g, 0, none⟩)) w = k := by
  unfold kOf
  have : w.cell? ⟨g, 0, none⟩ = some (.int .i64 k) := by rw [h.cell 0]; rfl
  simp only [this]
  rfl
theorem perm_id (n : Nat) : PermT n id := ⟨fun _ h => h, fun _ _ _ _ e => e⟩

set_option maxRecDepth 100000 in
set_option maxHeartbeats 25600000 in
theorem sorted_any (A : Option Addr) (b : List Int) (c : Nat) (w : World) (hn : b.length ≤ 1000000) (ho : Octets b) (hr : Holds w w.heap.size .u8 A b) :
    Calls Try.prog 29 #[.slice A b.length c] w fun e w' => ∃ (g : Nat) (T : Nat → Nat), e = .returned (.slice (some ⟨g, 0, none⟩) b.length b.length) ∧ SaOk b T ∧ OwnF w' w.heap.size g b.length b.length (fun p => (T p : Int)) ∧ Below w.heap.size w w' := by
  have HB := Lib.hid (fun W (h : Below w.heap.size w W) => hr.below h)
  have HO : Hid (∀ i, i < b.length → 0 ≤ b.getD i 0 ∧ b.getD i 0 ≤ 255) := Lib.hid (fun i hi => by
    rw [List.getD, List.getElem?_eq_getElem hi]
    have := ho b[i] (List.getElem_mem hi)
    show 0 ≤ b[i] ∧ b[i] ≤ 255
    omega)
  have HO8 : Hid (∀ x ∈ b, 0 ≤ x) := Lib.hid (fun x hx => (ho x hx).1)
  obtain ⟨n, hnn⟩ : ∃ n, b.length = n := ⟨_, rfl⟩
  have HN := Lib.hid hnn
  rw [hnn] at HO hn ⊢
  have K1 : Hid True := Lib.hid trivial
  clear hr ho hnn
  go_enter Try.func29, Try.ntmps29
  go_wp2_with (first
    | (at_make; have _t := K1; clear _t; refine wpList_make_ints _ rfl _ _ _ rfl elem32 n n rfl rfl rfl rfl (Nat.le_refl _) (by omega) ?_; intro w1 O1 B1 hz1; clear K1; have K2 : Hid True := Lib.hid trivial; obtain ⟨gr, hgr⟩ : ∃ g, (w.alloc (.cells #[.int .i64 n] 3)).heap.size = g := ⟨_, rfl⟩; rw [hgr] at O1 B1 hz1 ⊢; have hlg : w.heap.size < gr := (by rw [← hgr]; simp); have NB1 := (Block.new w 3 #[.int .i64 n]).below B1 hlg; have q1 := (NB1.alloc (.cells #[.slice (some ⟨gr, 0, none⟩) n n] 60)).cell 0)
    | (at_make; have _t := K2; clear _t; refine wpList_make_ints _ rfl _ _ _ rfl elem32 n n rfl rfl rfl rfl (Nat.le_refl _) (by omega) ?_; intro w2 O2 B2 hz2; clear K2; obtain ⟨gT, hgT⟩ : ∃ g, (w1.alloc (.cells #[.slice (some ⟨gr, 0, none⟩) n n] 60)).heap.size = g := ⟨_, rfl⟩; rw [hgT] at O2 B2 hz2 ⊢; have hlT : w1.heap.size < gT := (by rw [← hgT]; simp); have NB2 := (NB1.alloc (.cells #[.slice (some ⟨gr, 0, none⟩) n n] 60)).below B2 (by omega); have RB2 := (Block.new w1 60 #[.slice (some ⟨gr, 0, none⟩) n n]).below B2 hlT; have R2 := (O1.alloc (.cells #[.slice (some ⟨gr, 0, none⟩) n n] 60)).under (C := gT) B2 (fun g hg => (by have e : gr = g := (by simpa [Value.ownBlock] using hg); omega))))
  have F1 := of_zeros (R2.mono (show w.heap.size ≤ gr by omega))
  have F2 := of_zeros (O2.mono (show w.heap.size ≤ gT by omega))
  have BW : Below w.heap.size w w2 := by
    have b1 : Below w.heap.size w w1 := ((Below.refl w.heap.size w).alloc (Nat.le_refl _) (.cells #[.int .i64 n] 3)).trans (B1.mono (by omega))
    exact (b1.alloc b1.size _).trans (B2.mono (by omega))
  have HF1 := Lib.hid F1
  have HF2 := Lib.hid F2
  have HNB := Lib.hid NB2
  have HRB := Lib.hid RB2
  have HBW := Lib.hid BW
  have hTr : gT ≠ gr := by omega
  have hge : w.heap.size ≤ w1.heap.size := by omega
  generalize w1.heap.size = gb at *
  clear F1 F2 NB1 NB2 RB2 BW O1 O2 B1 B2 R2 q1 hgr hgT hz1 hlg hlT
  go_loopw [23] (fun s wr => ∃ k : Nat, k ≤ n ∧ s = .int .i64 k ∧ OwnF wr w.heap.size gr n n (fun i => if i < k then b.getD i 0 else 0) ∧ OwnF wr w.heap.size gT n n (fun i => if i < k then (i : Int) else 0) ∧
    Block wr w.heap.size 3 #[.int .i64 n] ∧ Block wr gb 60 #[.slice (some ⟨gr, 0, none⟩) n n] ∧ Below w.heap.size w wr) (fun s _ => n - (intOf s).toNat)
  case atStart => exact ⟨0, Nat.zero_le _, rfl, HF1.out.congr (fun j _ => by simp), HF2.out.congr (fun j _ => by simp), HNB.out, HRB.out, HBW.out⟩
  case round =>
    clear HF1 HF2 HNB HRB HBW hz2
    obtain ⟨k, hkn, rfl, F1, F2, NB, RB, BW⟩ := hrel
    have HF1 := Lib.hid F1
    have HF2 := Lib.hid F2
    have HNB := Lib.hid NB
    have HRB := Lib.hid RB
    have HBW := Lib.hid BW
    by_cases hlt : k < n
    · have d1 : decide ((k : Int) < (n : Int)) = true := decide_eq_true (by omega)
      have d2 : decide (k < n) = true := decide_eq_true hlt
      obtain ⟨b0, off, rfl, -, hcs⟩ := (HB.out _ BW) (by rw [HN.out]; omega)
      have hck := hcs k (by rw [HN.out]; exact hlt)
      have hb8 := HO.out k hlt
      have q1 := RB.cell 0
      have q2 := F1.frozen k
      have q3 := F1.cell hlt
      have n1 := ownF_ne F1 RB (by decide)
      have n2 := ownF_ne F1 NB (by decide)
      have n3 := ownF_ne F2 RB (by decide)
      have n4 := ownF_ne F2 NB (by decide)
      have G1 := F1.put hlt (b.getD k 0) (h := fun i => if i < k + 1 then b.getD i 0 else 0) (fun j _ => by
        by_cases e : j = k
        · subst e; rw [if_pos (by omega), if_pos rfl]
        · rw [if_neg e]
          by_cases h : j < k
          · rw [if_pos (by omega), if_pos h]
          · rw [if_neg (by omega), if_neg h])
      have t1 := turns_put wr gr k (.int .i32 (b.getD k 0))
      have G2 := F2.out t1 hTr
      have q4 := G2.frozen k
      have q5 := G2.cell hlt
      have G3 := G2.put hlt (k : Int) (h := fun i => if i < k + 1 then (i : Int) else 0) (fun j _ => by
        by_cases e : j = k
        · subst e; rw [if_pos (by omega), if_pos rfl]
        · rw [if_neg e]
          by_cases h : j < k
          · rw [if_pos (by omega), if_pos h]
          · rw [if_neg (by omega), if_neg h])
      have t2 := turns_put (wr.setCell ⟨gr, k, none⟩ (.int .i32 (b.getD k 0))) gT k (.int .i32 (k : Int))
      have HG1 := Lib.hid (G1.out t2 (Ne.symm hTr))
      have HG3 := Lib.hid G3
      have HG4 := Lib.hid ((NB.out t1 n2).out t2 n4)
      have HG5 := Lib.hid ((RB.out t1 n1).out t2 n3)
      have HG6 := Lib.hid ((BW.setCell (p := ⟨gr, k, none⟩) F1.lt.1 (.int .i32 (b.getD k 0))).setCell (p := ⟨gT, k, none⟩) F2.lt.1 (.int .i32 (k : Int)))
      have hw : IntKind.i32.wrap (k : Int) = (k : Int) := IntWalk.i32_in _ (by omega)
      have hw2 : IntKind.i32.wrap (b.getD k 0) = b.getD k 0 := IntWalk.i32_in _ (by omega)
      generalize b.getD k 0 = x at *
      have i1 : (k : Int) < (n : Int) := by omega
      clear F1 F2 G1 G2 G3 t1 t2 NB RB BW hcs
      go_wp2_with fail
      go_roundw
      case rel => exact ⟨k + 1, hlt, by go_num, HG1.out, HG3.out, HG4.out, HG5.out, HG6.out⟩
      case measure => simp [intOf] <;> omega
    · have d1 : decide ((n : Int) < (n : Int)) = false := decide_eq_false (by omega)
      have d2 : decide (n < n) = false := decide_eq_false (by omega)
      obtain rfl : n = k := by omega
      have R3 := F1.congr (h := fun i => b.getD i 0) (fun j hj => if_pos hj)
      have O3 := F2.congr (h := fun i => (i : Int)) (fun j hj => if_pos hj)
      have q1 := NB.cell 0
      have HR3 := Lib.hid R3
      have HO3 := Lib.hid O3
      have hrl := R3.lt
      have hTl := O3.lt
      have hnl := NB.lt
      have hbl := RB.lt
      have hbs := BW.size
      have K3 : Hid True := Lib.hid trivial
      have HF : Hid (∀ j, j < n → b.getD (id j) 0 = (((b.getD j 0).toNat : Nat) : Int) ∧ (b.getD j 0).toNat < 256) := Lib.hid (fun j hj => by have := HO.out j hj; show b.getD j 0 = _ ∧ _; omega)
      clear F1 F2 R3 O3 HF1 HF2 NB RB BW
      go_wp2_with (first
        | (at_make; have _t := K3; clear _t; refine wpList_make_ints _ rfl _ _ _ rfl elem32 n n rfl rfl rfl rfl (Nat.le_refl _) (by omega) ?_; intro w3 O4 B4 hz4; clear K3; have TB : TurnsIn (fun _ => False) wr w3 := .ofNew B4; have S3 : Srt w w3 n w.heap.size gb gT gr wr.heap.size (fun i => (i : Int)) (fun i => b.getD i 0) (fun _ => 0) := ⟨HNB.out.out TB id, HRB.out.out TB id, HO3.out.out TB id, HR3.out.out TB id, of_zeros (O4.mono hbs), hTr, (by omega), (by omega), ⟨Nat.le_refl _, hge⟩, HBW.out.trans (B4.mono hbs)⟩; have HS3 := Lib.hid S3; have q2 := S3.c_b; have q3 := S3.c_n; have HBR := Lib.hid (byRank_any (row := id) S3.oT S3.oS S3.oR S3.d2 S3.d3 (perm_id n) HF.out hn (show 256 ≤ 1000000 by omega)); generalize wr.heap.size = gs at *; clear S3 O4 B4 TB)
        | (go_at_call 38; refine HBR.out.mono ?_; rintro e w4 ⟨rfl, T, hP, oT4, t4⟩; have HP := Lib.hid hP; have S4 := (HS3.out.out t4 (fun b h => .inr (.inl h)) (HS3.out.oT.out t4 HS3.out.d2) oT4).swapO; have HS4 := Lib.hid S4; have q4 := S4.c_b; have HRK := Lib.hid (rank_first (s := fun _ => 0) S4.oT S4.oR S4.oS S4.d2 S4.d3 (hP.perm (perm_id n)) hn (fun i _ W _ => none_any i W)); clear hP oT4 t4 S4)
        | (go_at_call 39; refine HRK.out.mono ?_; rintro e w5 ⟨rfl, y, hy, oS5, t5⟩; have S5 := HS4.out.out t5 (fun b h => .inr (.inl h)) (HS4.out.oT.out t5 HS4.out.d2) oS5; have q5 := S5.c_b; have q6 := S5.rb.frozen 0; have HS6 := Lib.hid S5.swapR; have HLV := Lib.hid (lvl_first (b := b) (T := T) (y := y) (fun x hx => (HO8.out x hx)) (by rw [HN.out]; exact HP.out) (by rw [HN.out]; exact hy)); clear hy oS5 t5 S5))
      have hsz : (w5.setCell ⟨gb, 0, none⟩ (.slice (some ⟨gT, 0, none⟩) n n)).heap.size = w5.heap.size := by simp [World.setCell]
      have KB0 := Block.new (w5.setCell ⟨gb, 0, none⟩ (.slice (some ⟨gT, 0, none⟩) n n)) 3 #[.int .i64 ((1 : Nat) : Int)]
      have TA : TurnsIn (fun _ => False) (w5.setCell ⟨gb, 0, none⟩ (.slice (some ⟨gT, 0, none⟩) n n)) ((w5.setCell ⟨gb, 0, none⟩ (.slice (some ⟨gT, 0, none⟩) n n)).alloc (.cells #[.int .i64 ((1 : Nat) : Int)] 3)) := (TurnsIn.refl _ _).alloc _
      have S7 := HS6.out.out TA (fun _ h => h.elim) (HS6.out.oT.out TA id) (HS6.out.oS.out TA id)
      rw [hsz] at KB0
      rw [HN.out] at HLV
      have HS7 := Lib.hid S7
      have HKB := Lib.hid KB0
      have hgk : w.heap.size < w5.heap.size := by have := HS6.out.nb.lt; rw [hsz] at this; exact this
      have e1 : ((1 : Nat) : Int) = 1 := rfl
      rw [e1] at HS7 HKB
      clear KB0 TA S7 q1 q2 q3 q4 q5 q6 HRK HBR HP HS4 HS3 HS6 hsz e1
      generalize w5.heap.size = gk0 at *
      generalize hgO : gs = gO at *
      clear hgO
      go_loopw [8, 9, 10] (fun ss sc sk wr => ∃ (k c gr gs gk : Nat) (T : Nat → Nat) (r x : Nat → Int), ss = .slice (some ⟨gs, 0, none⟩) n n ∧ sc = .int .i64 c ∧ sk = .pointer (some ⟨gk, 0, none⟩) ∧ Lvl b k T r c ∧
        Srt w wr n w.heap.size gb gO gr gs (fun p => (T p : Int)) r x ∧ Block wr gk 3 #[.int .i64 k] ∧ w.heap.size < gk) (fun _ _ sk wr => n - kOf sk wr)
      case atStart => exact ⟨1, _, gT, gr, gk0, T, y, _, rfl, rfl, rfl, HLV.out, HS7.out, HKB.out, hgk⟩
      case round =>
        clear HS7 HKB HLV HR3 HO3 HNB HRB HBW HF hgk hrl hTl hnl hbl hbs hTr hz4
        obtain ⟨k, c, gr, gs, gk, T, r, x, rfl, rfl, rfl, L, S, KB, hgk⟩ := hrel
        obtain ⟨wo, rfl⟩ : ∃ wo : World, wo = wr := ⟨_, rfl⟩
        have HL := Lib.hid L
        have HS := Lib.hid S
        have HKB := Lib.hid KB
        have q1 := S.c_n
        have q2 := S.c_b
        have q3 : wo.cell? ⟨gk, 0, none⟩ = some (.int .i64 k) := by rw [KB.cell 0]; rfl
        have hkp := L.kp
        by_cases hc : c < n
        · have d1 : decide ((c : Int) < (n : Int)) = true := decide_eq_true (by omega)
          have d2 : decide (c < n) = true := decide_eq_true hc
          have hkn : k < n := by have := lvl_short L (by rw [HN.out]; exact hc); rw [HN.out] at this; exact this
          have HX : Hid (OwnF wo w.heap.size gs n n x) := Lib.hid S.oS
          have HT0 : Hid (TurnsIn (fun b => b = gs) wo wo) := Lib.hid (.refl _ _)
          have n1 := ownF_ne S.oS KB (by decide)
          have n2 := ownF_ne S.oS S.nb (by decide)
          have n3 := ownF_ne S.oS S.rb (by decide)
          have HQ := Lib.hid (fun W (t : TurnsIn (fun b => b = gs) wo W) => And.intro (S.oT.out t S.d2) (And.intro (show W.cell? ⟨w.heap.size, 0, none⟩ = some (.int .i64 n) by rw [(S.nb.out t n2).cell 0]; rfl) (show W.cell? ⟨gk, 0, none⟩ = some (.int .i64 k) by rw [(KB.out t n1).cell 0]; rfl)))
          clear L S KB
          go_wp2_with fail
          go_loopw [11, 12] (fun sm si wr => ∃ (j : Nat) (z : Nat → Int), j ≤ k ∧ sm = .int .i64 j ∧ si = .int .i64 ((n - k + j : Nat) : Int) ∧ OwnF wr w.heap.size gs n n z ∧ (∀ u, u < j → z u = ((n - k + u : Nat) : Int)) ∧ TurnsIn (fun b => b = gs) wo wr) (fun sm _ _ => k - (intOf sm).toNat)
          case atStart => exact ⟨0, x, Nat.zero_le _, rfl, by go_num, HX.out, fun u hu => absurd hu (by omega), HT0.out⟩
          case round =>
            clear HX HT0
            obtain ⟨j, z, hjk, rfl, rfl, Z, hz, t⟩ := hrel
            obtain ⟨wi, rfl⟩ : ∃ wi : World, wi = wr := ⟨_, rfl⟩
            obtain ⟨z1, z2, z3⟩ := HQ.out wi t
            have HZ := Lib.hid Z
            have HZZ := Lib.hid hz
            have Ht := Lib.hid t
            clear q1 q2 q3
            by_cases hj : j < k
            · have d3 : decide (((n - k + j : Nat) : Int) < (n : Int)) = true := decide_eq_true (by omega)
              have d4 : decide (n - k + j < n) = true := decide_eq_true (by omega)
              have f1 := Z.frozen j
              have c1 := Z.cell (i := j) (by omega)
              have HZ2 := Lib.hid (Z.put (i := j) (by omega) ((n - k + j : Nat) : Int) (h := fun u => if u = j then ((n - k + j : Nat) : Int) else z u) (fun u _ => rfl))
              have HZ3 : Hid (∀ u, u < j + 1 → (if u = j then ((n - k + j : Nat) : Int) else z u) = ((n - k + u : Nat) : Int)) := Lib.hid (fun u hu => by
                by_cases e : u = j
                · subst e; rw [if_pos rfl]
                · rw [if_neg e]; exact hz u (by omega))
              have HZ4 := Lib.hid (t.setCell (p := ⟨gs, j, none⟩) (.inl rfl) (.int .i32 ((n - k + j : Nat) : Int)))
              have HA : Hid (((n - k + j : Nat) : Int) + 1 = ((n - k + (j + 1) : Nat) : Int)) := Lib.hid (by omega)
              have hw : IntKind.i32.wrap ((n - k + j : Nat) : Int) = ((n - k + j : Nat) : Int) := IntWalk.i32_in _ (by omega)
              obtain ⟨a, ha⟩ : ∃ a, n - k + j = a := ⟨_, rfl⟩
              rw [ha] at d3 d4 HZ2 HZ3 HZ4 HA hw ⊢
              have ha6 : a ≤ 1000000 := by omega
              have i1 : (j : Int) < (n : Int) := by omega
              clear Z hz t ha
              go_wp2_with fail
              go_roundw
              case rel => exact ⟨j + 1, _, hj, by go_num, by rw [← HA.out] <;> go_num, HZ2.out, HZ3.out, HZ4.out⟩
              case measure => simp [intOf] <;> omega
            · obtain rfl : k = j := by omega
              have d3 : decide (((n - k + k : Nat) : Int) < (n : Int)) = false := decide_eq_false (by omega)
              have d4 : decide (n - k + k < n) = false := decide_eq_false (by omega)
              clear Z hz t
              go_wp2_with fail
              have HCY : Hid (∀ p, p < n → k ≤ T p → k + cnt (fun i => decide (k ≤ T i)) p < n ∧ cnt (fun i => decide (k ≤ T i)) (p + 1) = cnt (fun i => decide (k ≤ T i)) p + 1) := Lib.hid (fun p hp hq => by
                have h1 : cnt (fun i => decide (k ≤ T i)) (p + 1) = cnt (fun i => decide (k ≤ T i)) p + 1 := by show _ + _ = _; rw [if_pos (decide_eq_true hq)]
                have hpm := HL.out.pm
                rw [HN.out] at hpm
                have h2 := hpm.cnt (fun i => decide (k ≤ i))
                rw [cnt_from] at h2
                have h3 := cnt_mono (fun i => decide (k ≤ T i)) (show p + 1 ≤ n by omega)
                omega)
              have HCN : Hid (∀ p, ¬ k ≤ T p → cnt (fun i => decide (k ≤ T i)) (p + 1) = cnt (fun i => decide (k ≤ T i)) p) := Lib.hid (fun p hq => by show _ + _ = _; rw [if_neg (by simpa using hq)]; rfl)
              have HCL : Hid (∀ u p, u < p → k ≤ T u → cnt (fun i => decide (k ≤ T i)) u < cnt (fun i => decide (k ≤ T i)) p) := Lib.hid (fun u p h hq => cnt_less h (decide_eq_true hq))
              have HCB := Lib.hid (fun p => cnt_le (fun i => decide (k ≤ T i)) p)
              have HSC := Lib.hid (fun (z : Nat → Int) (lo : ∀ u, u < k → z u = ((n - k + u : Nat) : Int)) (hi : ∀ v, v < n → k ≤ T v → z (k + cnt (fun i => decide (k ≤ T i)) v) = ((T v - k : Nat) : Int)) =>
                secRow_of (by have := HL.out.pm; rw [HN.out] at this; exact this) (Nat.le_of_lt hkn) lo hi)
              have hc0 : cnt (fun i => decide (k ≤ T i)) 0 = 0 := rfl
              have HC0 := Lib.hid hc0
              clear hc0
              generalize cnt (fun i => decide (k ≤ T i)) = C at *
              go_loopw [11, 75] (fun sm si wr => ∃ (p : Nat) (z : Nat → Int), p ≤ n ∧ si = .int .i64 p ∧ sm = .int .i64 ((k + C p : Nat) : Int) ∧ OwnF wr w.heap.size gs n n z ∧ (∀ u, u < k → z u = ((n - k + u : Nat) : Int)) ∧
                (∀ v, v < p → k ≤ T v → z (k + C v) = ((T v - k : Nat) : Int)) ∧ TurnsIn (fun b => b = gs) wo wr) (fun _ si _ => n - (intOf si).toNat)
              case atStart => exact ⟨0, z, Nat.zero_le _, rfl, by rw [HC0.out]; rfl, HZ.out, HZZ.out, fun v hv => absurd hv (by omega), Ht.out⟩
              case round =>
                clear HZ HZZ Ht z1 z2 z3 HC0
                obtain ⟨p, z, hpn, rfl, rfl, Z, hz, hv, t⟩ := hrel
                obtain ⟨wi, rfl⟩ : ∃ wi : World, wi = wr := ⟨_, rfl⟩
                obtain ⟨z1, z2, z3⟩ := HQ.out wi t
                have HZ := Lib.hid Z
                have HZZ := Lib.hid hz
                have HV := Lib.hid hv
                have Ht := Lib.hid t
                by_cases hp : p < n
                · have d5 : decide ((p : Int) < (n : Int)) = true := decide_eq_true (by omega)
                  have d6 : decide (p < n) = true := decide_eq_true hp
                  have c1 := z1.cell hp
                  have hTp : T p < n := by have := HL.out.pm; rw [HN.out] at this; exact this.lt p hp
                  have hCb := HCB.out p
                  by_cases hq : k ≤ T p
                  · have d7 : decide ((k : Int) ≤ ((T p : Nat) : Int)) = true := decide_eq_true (by omega)
                    obtain ⟨e1, e2⟩ := HCY.out p hp hq
                    have f1 := Z.frozen (k + C p)
                    have c2 := Z.cell e1
                    have HZ2 := Lib.hid (Z.put e1 (((T p : Nat) : Int) - (k : Int)) (h := fun u => if u = k + C p then ((T p : Nat) : Int) - (k : Int) else z u) (fun u _ => rfl))
                    have HZ3 : Hid (∀ u, u < k → (if u = k + C p then ((T p : Nat) : Int) - (k : Int) else z u) = ((n - k + u : Nat) : Int)) := Lib.hid (fun u hu => by rw [if_neg (by omega)]; exact hz u hu)
                    have HZ4 : Hid (∀ v, v < p + 1 → k ≤ T v → (if k + C v = k + C p then ((T p : Nat) : Int) - (k : Int) else z (k + C v)) = ((T v - k : Nat) : Int)) := Lib.hid (fun v hv2 hq2 => by
                      by_cases e : v = p
                      · subst e; rw [if_pos rfl]; omega
                      · have := HCL.out v p (by omega) hq2
                        rw [if_neg (by omega)]
                        exact hv v (by omega) hq2)
                    have HZ5 := Lib.hid (t.setCell (p := ⟨gs, k + C p, none⟩) (.inl rfl) (.int .i32 (((T p : Nat) : Int) - (k : Int))))
                    have HA : Hid (((k + C p : Nat) : Int) + 1 = ((k + C (p + 1) : Nat) : Int)) := Lib.hid (by omega)
                    have hw : IntKind.i32.wrap (((T p : Nat) : Int) - (k : Int)) = ((T p : Nat) : Int) - (k : Int) := IntWalk.i32_in _ (by omega)
                    have hw2 : IntKind.i32.wrap (k : Int) = (k : Int) := IntWalk.i32_in _ (by omega)
                    generalize T p = tp at *
                    obtain ⟨a, ha⟩ : ∃ a, k + C p = a := ⟨_, rfl⟩
                    rw [ha] at e1 f1 c2 HZ2 HZ3 HZ4 HZ5 HA ⊢
                    have ha6 : a ≤ 1000000 := by omega
                    have i1 : (a : Int) < (n : Int) := by omega
                    clear Z hz hv t ha e2 z1
                    go_wp2_with fail
                    go_roundw
                    case rel => exact ⟨p + 1, _, hp, by go_num, by rw [← HA.out] <;> go_num, HZ2.out, HZ3.out, HZ4.out, HZ5.out⟩
                    case measure => simp [intOf] <;> omega
                  · have d7 : decide ((k : Int) ≤ ((T p : Nat) : Int)) = false := decide_eq_false (by omega)
                    have HE := Lib.hid (HCN.out p hq)
                    have HZ4 : Hid (∀ v, v < p + 1 → k ≤ T v → z (k + C v) = ((T v - k : Nat) : Int)) := Lib.hid (fun v hv2 hq2 => by
                      by_cases e : v = p
                      · subst e; exact absurd hq2 hq
                      · exact hv v (by omega) hq2)
                    generalize T p = tp at *
                    clear Z hz hv t z1
                    go_wp2_with fail
                    go_roundw
                    case rel => exact ⟨p + 1, z, hp, by go_num, by rw [HE.out], HZ.out, HZZ.out, HZ4.out, Ht.out⟩
                    case measure => simp [intOf] <;> omega
                · have d5 : decide ((n : Int) < (n : Int)) = false := decide_eq_false (by omega)
                  have d6 : decide (n < n) = false := decide_eq_false (by omega)
                  obtain rfl : n = p := by omega
                  obtain ⟨hSR, hzn⟩ := HSC.out z HZZ.out HV.out
                  have hSRb : SecRow b.length k T (fun j => (z j).toNat) := by rw [HN.out]; exact hSR
                  obtain ⟨pmr, -⟩ := hSRb.ok HL.out (by rw [HN.out]; exact hkn)
                  have S2 := HS.out.out t (fun b h => .inr (.inl h)) (HS.out.oT.out t HS.out.d2) (Z.congr hzn)
                  have KB2 := HKB.out.out t n1
                  have HLO : Hid (∀ i, i < n → 0 ≤ r i ∧ r i < c) := Lib.hid (fun i hi => HL.out.lo i (by rw [HN.out]; exact hi))
                  rw [HN.out] at pmr
                  have hf : ∀ j, j < n → r ((z j).toNat) = (((r ((z j).toNat)).toNat : Nat) : Int) ∧ (r ((z j).toNat)).toNat < c := fun j hj => by
                    have := HLO.out _ (pmr.lt j hj)
                    omega
                  have HBR := Lib.hid (byRank_any (row := fun j => (z j).toNat) (f := fun j => (r ((z j).toNat)).toNat) (m := c) S2.oS S2.oT S2.oR S2.d2.symm S2.d1.symm pmr hf hn (by omega))
                  have HSR := Lib.hid hSRb
                  have HPM := Lib.hid pmr
                  have HS2 := Lib.hid S2
                  have HKB2 := Lib.hid KB2
                  have p1 := S2.c_b
                  have p2 := S2.c_n
                  clear Z hz hv t hSR hzn hSRb pmr S2 KB2 hf z1 z2 z3
                  go_wp2_with (first
                    | (go_at_call 38; refine HBR.out.mono ?_; rintro e w7 ⟨rfl, T2, hP, oT7, t7⟩; have HP := Lib.hid hP; have S3 := HS2.out.out t7 (fun b h => .inl h) oT7 (HS2.out.oS.out t7 HS2.out.d2.symm); have KB3 := HKB2.out.out t7 (ownF_ne HS2.out.oT HKB2.out (by decide)); have HS3 := Lib.hid S3; have HKB3 := Lib.hid KB3; have p3 := S3.c_b; have p4 : w7.cell? ⟨gk, 0, none⟩ = some (.int .i64 k) := (by rw [KB3.cell 0]; rfl); have HRK := Lib.hid (rank_next (c1 := .pointer (some ⟨w.heap.size, 0, none⟩)) (c2 := .pointer (some ⟨gk, 0, none⟩)) (c3 := .pointer (some ⟨gb, 0, none⟩)) (s := secL n k r) S3.oT S3.oR S3.oS S3.d2 S3.d3 (hP.perm HPM.out) hn (fun i hi W tW => second_any (B := w.heap.size) (by rw [(HS3.out.nb.out tW (ownF_ne HS3.out.oS HS3.out.nb (by decide))).cell 0]; rfl) (by rw [(HKB3.out.out tW (ownF_ne HS3.out.oS HKB3.out (by decide))).cell 0]; rfl) (by rw [(HS3.out.rb.out tW (ownF_ne HS3.out.oS HS3.out.rb (by decide))).cell 0]; rfl) (HS3.out.oR.out tW HS3.out.d3) hkn hn hi)); clear hP oT7 t7 S3 KB3)
                    | (go_at_call 39; refine HRK.out.mono ?_; rintro e w8 ⟨rfl, y, hy, oS8, t8⟩; have S4 := HS3.out.out t8 (fun b h => .inr (.inl h)) (HS3.out.oT.out t8 HS3.out.d2) oS8; have KB4 := HKB3.out.out t8 (ownF_ne HS3.out.oS HKB3.out (by decide)); have p5 := S4.c_b; have p6 := S4.rb.frozen 0; obtain ⟨p7, p8, p9, s5, k5⟩ := S4.turn KB4; have HS5 := Lib.hid s5; have HK5 := Lib.hid k5; have hgl := S4.nb.lt; have HLV := Lib.hid (lvl_double HL.out (by rw [HN.out]; exact hkn) HSR.out (by rw [HN.out]; exact HP.out) (by rw [HN.out]; exact hy)); rw [HN.out] at HLV; clear hy oS8 t8 S4 KB4 s5 k5))
                  go_roundw
                  case rel => exact ⟨k + k, _, gs, gr, w8.heap.size, T2, y, _, rfl, rfl, rfl, HLV.out, HS5.out, HK5.out, hgl⟩
                  case measure => rw [kOf_block HK5.out, kOf_block HKB.out]; omega
        · have d1 : decide ((c : Int) < (n : Int)) = false := decide_eq_false (by omega)
          have d2 : decide (c < n) = false := decide_eq_false hc
          have HE := Lib.hid (lvl_end L (by rw [HN.out]; exact hc))
          clear L S KB
          go_wp2_with fail
          go_ret
          exact ⟨gO, T, rfl, HE.out, HS.out.oT, HS.out.be⟩
end Go.Proofs.Ytlcnbepldkbkgaa.Sx
