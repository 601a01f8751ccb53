/-
  Layer 16, plan: what a step makes of an image: contract. Conditions: as each theorem names.
-/
import Derived.Test.YtheofegmbajmkaaPlE
namespace Go.Proofs.Ytheofegmbajmkaa.Pl
open Go.ChangeShapes Go.WideShapes Go.ChangeAt Go.RowKit Go.Proofs.Ytheofegmbajmkaa.Kit

/-- The first k sums, and the rest as it was. -/
def addK (xs zs : List Int) (k : Nat) : List Int := (List.range xs.length).map fun j => if j < k then (xs.getD j 0 + zs.getD j 0) % 256 else xs.getD j 0

theorem addK_length (xs zs : List Int) (k : Nat) : (addK xs zs k).length = xs.length := by simp [addK]
theorem addK_zero (xs zs : List Int) : addK xs zs 0 = xs := by
  apply List.ext_getElem
  · simp [addK]
  · intro i h1 h2
    simp [addK, List.getD, List.getElem?_eq_getElem h2]
theorem addK_get (xs zs : List Int) (k : Nat) (h : k < xs.length) : (addK xs zs k)[k]?.getD 0 = xs.getD k 0 := by simp [addK, h]
theorem addK_next (xs zs : List Int) (k : Nat) (h : k < xs.length) : addK xs zs (k + 1) = (addK xs zs k).set k ((xs.getD k 0 + zs.getD k 0) % 256) := by
  apply List.ext_getElem?
  intro i
  by_cases hi : i < xs.length
  · rw [List.getElem?_set]
    by_cases hik : k = i
    · subst hik
      rw [if_pos rfl, if_pos (by rw [addK_length]; exact h)]
      simp [addK, h]
    · rw [if_neg hik]
      simp [addK, hi, show (i < k + 1) = (i < k) from propext ⟨fun h => by omega, fun h => by omega⟩]
  · rw [List.getElem?_eq_none (by rw [addK_length]; omega), List.getElem?_eq_none (by rw [List.length_set, addK_length]; omega)]
theorem getD_octet {xs : List Int} (h : Octets xs) (j : Nat) : 0 ≤ xs.getD j 0 ∧ xs.getD j 0 ≤ 255 := by
  have := h.at_ j
  simpa [List.getD] using this
theorem addK_all (xs zs : List Int) (ho : Octets xs) : addK xs zs zs.length = addB xs zs := by
  unfold addK addB
  apply List.map_congr_left
  intro j _
  have := getD_octet ho j
  by_cases hj : j < zs.length
  · rw [if_pos hj]
  · rw [if_neg hj, List.getD_eq_getElem?_getD (l := zs), List.getElem?_eq_none (by omega)]
    simp only [Option.getD_none]
    omega
theorem addB_length (xs zs : List Int) : (addB xs zs).length = xs.length := by simp [addB]

set_option maxRecDepth 100000 in
set_option maxHeartbeats 3200000 in
theorem made_in (a : Int) (f k : Nat) (A : Option Addr) (zs : List Int) (c : Nat) (Ao : Option Addr) (old : List Int) (co : Nat) (w : World) (ha : a ≠ 1) (hl : old.length ≤ 1000000) (hco : old.length ≤ co) (hmo : co ≤ maxLen)
    (hoo : Octets old) (hro : Holds w w.heap.size .u8 Ao old) (hoz : Octets zs) (hrz : Holds w w.heap.size .u8 A zs) (hk : 1 ≤ k) (hzk : zs.length ≤ k) (h : f + k ≤ old.length) :
    Calls Try.prog 36 #[.agg #[.int .u8 a, .int .i64 f, .int .i64 k, .slice A zs.length c], .iface 50 (.slice Ao old.length co)] w (GivesH (addB ((old.drop f).take k) zs) w) := by
  have blk := Block.new w 41 #[.int .u8 a, .int .i64 f, .int .i64 k, .slice A zs.length c]
  have hb0 : Below w.heap.size w (w.alloc (.cells #[.int .u8 a, .int .i64 f, .int .i64 k, .slice A zs.length c] 41)) := (Below.refl _ _).alloc (Nat.le_refl _) _
  have hab : (a == 1) = false := by rw [beq_eq_false_iff_ne]; exact ha
  have hro0 := (hro.below hb0).more hb0.size
  have G := Lib.hid (fun W (hW : Holds W W.heap.size .u8 Ao old) => range_yes Ao old co f k W hl hco hmo hW h)
  have hyl : ((old.drop f).take k).length = k := by simp; omega
  have hoy : Octets ((old.drop f).take k) := fun x hx => hoo x (List.mem_of_mem_drop (List.mem_of_mem_take hx))
  have hsz : (w.alloc (.cells #[.int .u8 a, .int .i64 f, .int .i64 k, .slice A zs.length c] 41)).heap.size = w.heap.size + 1 := by simp
  generalize (old.drop f).take k = ys at *
  subst hyl
  have hfin := addK_all ys zs hoy
  have HF := Lib.hid hfin
  have hm : ∀ (W : World) (v : Value), (method 183 50 v "Range").run Try.prog W = .ok (55, v) W := fun W v => by kernel_rfl
  have hne : (((ys.length : Nat) : Int) != ((ys.length : Nat) : Int)) = false := by simp
  have hyb : ys.length ≤ 1000000 := by omega
  clear ha h hfin hoo
  go_enter Try.func36, Try.ntmps36
  go_wp2_with (first
    | (go_at_call 38; (with_reducible refine (refuse_no 5 _).mono ?_); rintro e w1 ⟨rfl, rfl⟩)
    | (go_at_call 55; refine (G.out _ hro0).mono ?_; rintro e w1 ⟨A1, c1, rfl, hr1, hl1, hm1, hb1⟩; have blk1 := blk.below hb1 (by omega); have q2 := blk1.cellOf 2 (u := .int .i64 ys.length) rfl; have q3 := blk1.cellOf 3 (u := .slice A zs.length c) rfl; have own0 := Own.nil w1 w1.heap.size 5 .u8)
    | (go_at_call 38; (with_reducible refine (refuse_no 0 _).mono ?_); rintro e w2 ⟨rfl, rfl⟩)
    | (have _t := own0; at_builtin; refine wpList_append_out (xs := []) (ys := ys) _ rfl _ _ _ rfl elem8 own0 rfl rfl hr1 (by simp; omega) (Nat.le_refl _) ?_; clear _t; intro A5 c5 w5 own5 t5 n5; have hb5 := own0.turned t5 (Nat.le_refl _); have blk5 := blk1.below hb5 blk1.lt; have s3 := blk5.cellOf 3 (u := .slice A zs.length c) rfl))
  simp only [List.length_nil, Nat.zero_add, List.nil_append] at own5 n5
  have hb01 := hb0.trans (hb1.mono hb0.size)
  have hb05 := hb01.trans (hb5.mono hb01.size)
  obtain ⟨g, cap, hv, hBg, hgl, hgc, hcm⟩ := own5.form (by omega)
  injection hv with e1 e2 e3
  subst e1 e3
  clear blk blk1 blk5 q2 q3 s3 t5 n5 e2
  go_loopw [42] (fun s wr => ∃ i : Nat, i ≤ zs.length ∧ s = .int .i64 i ∧ Own wr w1.heap.size 5 .u8 (.slice (some ⟨g, 0, none⟩) ys.length c5) (addK ys zs i) ∧ Below w.heap.size w wr) (fun s _ => zs.length - (intOf s).toNat)
  case atStart => exact ⟨0, Nat.zero_le _, rfl, by rw [addK_zero]; exact own5, hb05⟩
  case round =>
    obtain ⟨i, hi, rfl, own, hb⟩ := hrel
    have hlen := addK_length ys zs i
    by_cases hlt : i < zs.length
    · obtain ⟨bz, oz, rfl, hbz, hcz⟩ := (hrz.below hb) (by omega)
      have cz := hcz i hlt
      have hz := getD_octet hoz i
      have hy := getD_octet hoy i
      have cy := own.cellAt hlen.symm (i := i) (by omega)
      rw [addK_get ys zs i (by omega)] at cy
      have fy := own.frozenAt hlen.symm i
      have hst := (own.stored hlen.symm i ((ys.getD i 0 + zs.getD i 0) % 256)).1
      rw [← addK_next ys zs i (by omega)] at hst
      have hb3 := hb.setCell (p := ⟨g, i, none⟩) (by show w.heap.size ≤ g; have := hb01.size; omega) (.int .u8 ((ys.getD i 0 + zs.getD i 0) % 256))
      have hil : (i : Int) < (ys.length : Int) := by omega
      have hil2 : (i : Int) < (zs.length : Int) := by omega
      clear hcz
      generalize ys.getD i 0 = y at *
      generalize zs.getD i 0 = z at *
      go_wp2_with fail
      go_roundw
      case rel => exact ⟨i + 1, by omega, by go_num, hst, hb3⟩
      case measure => simp [intOf] <;> omega
    · obtain rfl : i = zs.length := by omega
      rw [HF.out] at own
      have hbl := addB_length ys zs
      obtain ⟨A9, c9, hv9, _, _, hr9⟩ := own.opened
      injection hv9 with e1 e2 e3
      subst e1 e3
      go_wp2_with fail
      go_ret
      exact ⟨some ⟨g, 0, none⟩, c5, congrArg (fun n => Ending.returned (.slice (some ⟨g, 0, none⟩) n c5)) hbl.symm, hr9, hb⟩
end Go.Proofs.Ytheofegmbajmkaa.Pl
