/-
  Layer 3, ots: a signature leads to its key's public sum: plain maths; both sides' answers together. Conditions: as each theorem names.
  Layer 3, ots: the document's example: contract. Conditions: as the theorem names.
-/
import Derived.Test.YtdfgdchmeikigaaDoorOG
import Derived.Lib.SlBytesConst
namespace Go.Proofs.YtdfgdchmeikigaaDoor.Ot
open Go.ChangeShapes Go.WideShapes Go.ChangeAt Go.RowKit Go.Proofs.YtdfgdchmeikigaaDoor.Kit Go.Proofs.YtdfgdchmeikigaaDoor.Sha Go.Proofs.YtdfgdchmeikigaaDoor.Mk Go.Proofs.YtdfgdchmeikigaaDoor.Oct

theorem walkL_add (nm : List Int) (i : Int) (f : Nat) (d : List Int) : ∀ n, walkL nm i f n (walkL nm i 0 f d) = walkL nm i 0 (f + n) d
  | 0 => rfl
  | n + 1 => by
    show stepL nm i ((f : Int) + (n : Int)) (walkL nm i f n (walkL nm i 0 f d)) = stepL nm i (((0 : Nat) : Int) + ((f + n : Nat) : Int)) (walkL nm i 0 (f + n) d)
    rw [walkL_add nm i f d n]
    congr 1
    omega
theorem endsL_place {g : Nat → List Int} (h : ∀ i, (g i).length = 32) : ∀ n i, i < n → ((endsL g n).drop (32 * i)).take 32 = g i
  | 0, i, hi => absurd hi (by omega)
  | n + 1, i, hi => by
    rw [endsL_next]
    have hl := endsL_length h n
    by_cases hn : i = n
    · subst hn
      rw [List.drop_append, hl, Nat.sub_self, List.drop_zero, List.drop_of_length_le (by omega), List.nil_append, List.take_of_length_le (by rw [h]; decide)]
    · rw [List.drop_append_of_le_length (by omega), List.take_append_of_le_length (by rw [List.length_drop, hl]; omega)]
      exact endsL_place h n i (by omega)
theorem endsL_congr {g f : Nat → List Int} : ∀ n, (∀ i, i < n → g i = f i) → endsL g n = endsL f n
  | 0, _ => rfl
  | n + 1, h => by rw [endsL_next, endsL_next, endsL_congr n (fun i hi => h i (by omega)), h n (by omega)]

section
variable {nm : List Int} {k : Int} {seed text ds : List Int} {n : Nat}
theorem outL_kind (hk : KindIn k) : val ((outL nm k ds seed n).take 4) = k := by
  unfold outL
  rw [List.append_assoc, List.take_append_of_le_length (by rw [be_length]; exact Nat.le_refl _), List.take_of_length_le (by rw [be_length]; exact Nat.le_refl _), val_be]
  rcases hk with rfl | rfl | rfl | rfl <;> decide
theorem outL_salt : ((outL nm k ds seed n).drop 4).take 32 = saltL nm seed := by
  unfold outL
  rw [List.append_assoc, List.drop_append, be_length, Nat.sub_self, List.drop_zero, List.drop_of_length_le (by rw [be_length]; exact Nat.le_refl _), List.nil_append, List.take_append_of_le_length (by rw [(secL_d32 _ _ _).1]; decide), List.take_of_length_le (by rw [(secL_d32 _ _ _).1]; decide)]
  rfl
theorem outL_place {i : Nat} (hi : i < n) : placeL (outL nm k ds seed n) i = sigEnd nm ds seed i := by
  unfold placeL outL
  have h36 : (be 4 k ++ secL nm 65533 seed).length = 36 := by rw [List.length_append, be_length, (secL_d32 _ _ _).1]
  rw [List.drop_append, h36, show 36 + 32 * i - 36 = 32 * i by omega, List.drop_of_length_le (by rw [h36]; omega), List.nil_append]
  exact endsL_place (fun i => (sigEnd_d32 nm ds seed i).1) n i hi
theorem outL_octets : Octets (outL nm k ds seed n) := by
  intro x hx
  unfold outL at hx
  rcases List.mem_append.1 hx with hx | hx
  · rcases List.mem_append.1 hx with hx | hx
    · exact be_octets _ _ x hx
    · exact (secL_d32 _ _ _).2 x hx
  · exact endsL_octets (sigEnd_d32 nm ds seed) _ x hx

theorem cand_end (hd : ∀ i, i < n → 0 ≤ ds.getD i 0 ∧ ds.getD i 0 ≤ (lastN k : Int)) {i : Nat} (hi : i < n) : cendL nm k ds (outL nm k ds seed n) i = endL nm k seed i := by
  unfold cendL endL
  rw [outL_place hi]
  unfold sigEnd
  have := hd i hi
  rw [walkL_add]
  congr 1
  omega
/-- What a signature leads to is the key's public sum. -/
theorem cand_sign (hk : KindIn k) : candL nm k (dgsL nm k (((signL nm k seed text).drop 4).take 32) text) (signL nm k seed text) = pubL nm k seed := by
  unfold signL
  rw [outL_salt]
  unfold candL pubL
  have hl := dgsL_length hk nm (saltL nm seed) text
  have hb := dgsL_bd hk nm (saltL nm seed) text
  rw [endsL_congr (manyN k) (fun i hi => cand_end (n := manyN k) (fun i hi => by
    apply hb
    rw [List.getD, List.getElem?_eq_getElem (by rw [hl]; exact hi)]
    exact List.getElem_mem _) hi)]
theorem signL_length : (signL nm k seed text).length = 36 + 32 * manyN k := outL_length _ _ _ _ _
theorem signL_kind (hk : KindIn k) : val ((signL nm k seed text).take 4) = k := outL_kind hk
theorem signL_octets : Octets (signL nm k seed text) := outL_octets
end

instance (k : Int) : Decidable (KindIn k) := by unfold KindIn; infer_instance

section
variable (k : Int) (hkb : 0 ≤ k ∧ k < 4294967296) (id : List Int) (hid : id.length = 16) (hio : Octets id) (q : Int) (hq : 0 ≤ q ∧ q < 4294967296) (seed : List Int) (hs : D32 seed)
include hid hio hq hs
theorem public_both : ∃ (V : List Int) (E : Int), D32 V ∧ (KindIn k → V = pubL (nmL id q) k seed ∧ E = 0) ∧ (0 ≤ E ∧ E ≤ 99) ∧
    (∀ W, LaidS W → Calls Tryd.prog 18 #[.int .u32 k, .agg (id.map (Value.int .u8)).toArray, .int .u32 q, .agg (seed.map (Value.int .u8)).toArray] W (SumsN V E W)) ∧
    (∀ W, Calls Tryd.prog 19 #[.int .u32 k, .agg (id.map (Value.int .u8)).toArray, .int .u32 q, .agg (seed.map (Value.int .u8)).toArray] W (SumsN V E W)) := by
  by_cases hk : KindIn k
  · exact ⟨_, 0, sumL_d32 _, fun _ => ⟨rfl, rfl⟩, by omega, fun W hL => public_in k hk id hid hio q hq seed hs W hL, fun W => rpublic_in k hk id hid hio q hq seed hs W⟩
  · exact ⟨_, 21, zeros32_d, fun h => absurd h hk, by omega, fun W _ => public_no k hk id q seed W, fun W => rpublic_no k hk id q seed W⟩

theorem sign_both (text : List Int) (htl : text.length ≤ 40000) : ∃ (V : List Int) (E : Int), V.length ≤ 9000 ∧ (KindIn k → V = signL (nmL id q) k seed text ∧ E = 0) ∧ (¬ KindIn k → V = [] ∧ E = 21) ∧
    (∀ W A c, RwOk W W.heap.size ⟨A, c, text⟩ → LaidS W → Calls Tryd.prog 21 #[.int .u32 k, .agg (id.map (Value.int .u8)).toArray, .int .u32 q, .agg (seed.map (Value.int .u8)).toArray, .slice A text.length c] W (SignN V E W)) ∧
    (∀ W A c, RwOk W W.heap.size ⟨A, c, text⟩ → Calls Tryd.prog 22 #[.int .u32 k, .agg (id.map (Value.int .u8)).toArray, .int .u32 q, .agg (seed.map (Value.int .u8)).toArray, .slice A text.length c] W (SignN V E W)) := by
  by_cases hk : KindIn k
  · exact ⟨_, 0, by rw [signL_length]; have := manyN_bd k; omega, fun _ => ⟨rfl, rfl⟩, fun h => absurd hk h, fun W A c h hL => sign_in k hk id hid hio q hq seed hs A text c W h htl hL, fun W A c h => rsign_in k hk id hid hio q hq seed hs A text c W h htl⟩
  · exact ⟨[], 21, by simp, fun h => absurd h hk, fun _ => ⟨rfl, rfl⟩, fun W A c h _ => sign_no k hk id q seed A text c W, fun W A c h => rsign_no k hk id q seed A text c W⟩
end

theorem cand_both (k : Int) (id : List Int) (hid : id.length = 16) (hio : Octets id) (q : Int) (hq : 0 ≤ q ∧ q < 4294967296) (sig : List Int) (hsm : sig.length ≤ 9000) (text : List Int) (htl : text.length ≤ 40000) :
    ∃ (V : List Int) (E : Int), D32 V ∧ (KindIn k → sig.length = 36 + 32 * manyN k → val (sig.take 4) = k → V = candL (nmL id q) k (dgsL (nmL id q) k ((sig.drop 4).take 32) text) sig ∧ E = 0) ∧ (0 ≤ E ∧ E ≤ 99) ∧
    (∀ W A cs A2 c2, RwOk W W.heap.size ⟨A, cs, sig⟩ → RwOk W W.heap.size ⟨A2, c2, text⟩ → LaidS W → Calls Tryd.prog 23 #[.int .u32 k, .agg (id.map (Value.int .u8)).toArray, .int .u32 q, .slice A sig.length cs, .slice A2 text.length c2] W (SumsN V E W)) ∧
    (∀ W A cs A2 c2, RwOk W W.heap.size ⟨A, cs, sig⟩ → RwOk W W.heap.size ⟨A2, c2, text⟩ → Calls Tryd.prog 24 #[.int .u32 k, .agg (id.map (Value.int .u8)).toArray, .int .u32 q, .slice A sig.length cs, .slice A2 text.length c2] W (SumsN V E W)) := by
  by_cases hk : KindIn k
  · by_cases hl : sig.length = 36 + 32 * manyN k
    · by_cases hv : val (sig.take 4) = k
      · exact ⟨_, 0, sumL_d32 _, fun _ _ _ => ⟨rfl, rfl⟩, by omega, fun W A cs A2 c2 h1 h2 hL => cand_in k hk id q A sig cs A2 text c2 W hsm h1 hl hv hid hio hq h2 htl hL, fun W A cs A2 c2 h1 h2 => rcand_in k hk id q A sig cs A2 text c2 W hsm h1 hl hv hid hio hq h2 htl⟩
      · exact ⟨_, 21, zeros32_d, fun _ _ h => absurd h hv, by omega, fun W A cs A2 c2 h1 h2 _ => cand_kind k hk id q A sig cs A2 text c2 W hsm h1 hl hv, fun W A cs A2 c2 h1 h2 => rcand_kind k hk id q A sig cs A2 text c2 W hsm h1 hl hv⟩
    · exact ⟨_, 3, zeros32_d, fun _ h _ => absurd h hl, by omega, fun W A cs A2 c2 h1 h2 _ => cand_form k hk id q A sig cs A2 text c2 W hl, fun W A cs A2 c2 h1 h2 => rcand_form k hk id q A sig cs A2 text c2 W hsm hl⟩
  · exact ⟨_, 21, zeros32_d, fun h => absurd h hk, by omega, fun W A cs A2 c2 h1 h2 _ => cand_no k hk id q A sig cs A2 text c2 W, fun W A cs A2 c2 h1 h2 => rcand_no k hk id q A sig cs A2 text c2 W⟩

theorem wpList_load_arrG {P : Program} {w : World} {ops : Array Oper} {rest : List Oper} {o : Oper} {a : Act} {Q : Exit → Act → World → Prop} (hw : Region.wanted o (yielded ops a.tmps) = true) (ty : TypeId) (x : Operand) (ho : o.op = .load ty x)
    {g : Nat} {t : TypeId} {k : IntKind} {xs : List Int} (h : Arr w g t k xs) (hx : a.eval x = .pointer (some ⟨g, 0, none⟩)) {d : TypeDesc} (hu : P.underlying ty = some d) (hd : d.isRow = true) (hi : (P.info? ty).map (·.size) = some xs.length)
    (hK : wpList P ops Q rest (a.put o.dst (arrV k xs)) w) : wpList P ops Q (o :: rest) a w :=
  wpList_step fun K hK' => by
    rw [if_pos hw]
    exact wp_load_mid ty x ho g 0 hx (xs.map (Value.int k)) d h.range hu hd (by simpa using hi) (hK' _ _ hK)
theorem dig_same (ys zs : List Int) (hy : D32 ys) (hz : D32 zs) (w : World) : (binOp .eql 26 (arrV .u8 ys) (arrV .u8 zs)).run Tryd.prog w = .ok (.bool (decide (ys = zs))) w := by
  rw [run_eql_arr (P := Tryd.prog) (w := w) (t := 26) (e := 5) (k := .u8) (k' := .u8) ys zs (by rw [hy.1]; exact Tryd.underlying26) (Option.eq_some_of_isSome (by kernel_rfl)) (by kernel_rfl) Tryd.underlying5 (by kernel_rfl) (by rw [hy.1, hz.1])]
theorem dig_guards (ys zs : List Int) (x y : Operand) (w : World) : (eqGuard .eql 26 x y (arrV .u8 ys) (arrV .u8 zs)).run Tryd.prog w = .ok () w := run_eqGuard_agg w .eql 26 x y _ _ (by kernel_rfl)
/-- == on sums that are the same, where a guard may stand. -/
theorem wpList_eql_same {w : World} {ops : Array Oper} {rest : List Oper} {o : Oper} {a : Act} {Q : Exit → Act → World → Prop} (hw : Region.wanted o (yielded ops a.tmps) = true) (x y : Operand) (tt : TypeId) (ho : o.op = .binOp .eql 26 x y tt)
    {ys zs : List Int} {b : Bool} (hy : D32 ys) (hz : D32 zs) (hx : a.eval x = arrV .u8 ys) (hyv : a.eval y = arrV .u8 zs) (hb : decide (ys = zs) = b) (hK : wpList Tryd.prog ops Q rest (a.put o.dst (.bool b)) w) : wpList Tryd.prog ops Q (o :: rest) a w :=
  wpList_step fun K hK' => by
    rw [if_pos hw]
    have h1 := dig_same ys zs hy hz w
    have h2 := dig_guards ys zs x y w
    rw [hb] at h1
    unfold Oper.wp execOp
    simp only [ho, hx, hyv, Sem.run_bind, Sem.run_pure, h2, Result.andThen_ok, h1]
    exact hK' _ _ hK
end Go.Proofs.YtdfgdchmeikigaaDoor.Ot

namespace Go.Proofs.YtdfgdchmeikigaaDoor.Ot
open Go.ChangeShapes Go.WideShapes Go.ChangeAt Go.RowKit Go.Proofs.YtdfgdchmeikigaaDoor.Kit Go.Proofs.YtdfgdchmeikigaaDoor.Sha Go.Proofs.YtdfgdchmeikigaaDoor.Mk Go.Proofs.YtdfgdchmeikigaaDoor.Oct

theorem oct_rep (n : Nat) (z : Int) (hz : 0 ≤ z ∧ z ≤ 255) : Octets (List.replicate n z) := fun x hx => by obtain ⟨_, rfl⟩ := List.mem_replicate.1 hx; exact hz
theorem seed_one : D32 (1 :: List.replicate 31 0) := ⟨rfl, fun x hx => by
  rcases List.mem_cons.1 hx with rfl | hx
  · omega
  · exact oct_rep 31 0 (by omega) x hx⟩

theorem RwOk.marked (w : World) (z : Int) (t : TypeId) (fr : Nat × Nat) (hz : 0 ≤ z ∧ z ≤ 255) : RwOk (w.alloc (.cells #[.int .u8 z] t fr)) (w.alloc (.cells #[.int .u8 z] t fr)).heap.size ⟨some ⟨w.heap.size, 0, none⟩, 1, [z]⟩ := by
  refine ⟨Nat.le_refl _, (by decide : 1 ≤ maxLen), by intro x hx; simp at hx; omega, fun _ => ⟨w.heap.size, 0, rfl, by simp, fun j hj => ?_⟩⟩
  obtain rfl : j = 0 := by simpa using hj
  exact cell_of_row _ w.heap.size 0 #[.int .u8 z] t fr (heap_alloc_new w _)

set_option maxRecDepth 100000 in
set_option maxHeartbeats 6400000 in
theorem awake_any (w : World) (hL : LaidS w) : Calls Tryd.prog 20 #[] w fun e w' => e = .returned (.bool true) ∧ Below w.heap.size w w' := by
  have k1 : KindIn 1 := .inl rfl
  have hid : (List.replicate 16 (0 : Int)).length = 16 := rfl
  have hio : Octets (List.replicate 16 (0 : Int)) := oct_rep 16 0 (by omega)
  have GP : Hid (∀ W, Below w.heap.size w W → Calls Tryd.prog 18 #[.int .u32 1, .agg #[.int .u8 0, .int .u8 0, .int .u8 0, .int .u8 0, .int .u8 0, .int .u8 0, .int .u8 0, .int .u8 0, .int .u8 0, .int .u8 0, .int .u8 0, .int .u8 0, .int .u8 0, .int .u8 0, .int .u8 0, .int .u8 0], .int .u32 7, .agg #[.int .u8 1, .int .u8 0, .int .u8 0, .int .u8 0, .int .u8 0, .int .u8 0, .int .u8 0, .int .u8 0, .int .u8 0, .int .u8 0, .int .u8 0, .int .u8 0, .int .u8 0, .int .u8 0, .int .u8 0, .int .u8 0, .int .u8 0, .int .u8 0, .int .u8 0, .int .u8 0, .int .u8 0, .int .u8 0, .int .u8 0, .int .u8 0, .int .u8 0, .int .u8 0, .int .u8 0, .int .u8 0, .int .u8 0, .int .u8 0, .int .u8 0, .int .u8 0]] W (SumsN (pubL (nmL (List.replicate 16 0) 7) 1 (1 :: List.replicate 31 0)) 0 W)) := Lib.hid (fun W hb => public_in 1 k1 (List.replicate 16 0) hid hio 7 (by decide) (1 :: List.replicate 31 0) seed_one W (hL.below hb))
  have GS : Hid (∀ W A c, RwOk W W.heap.size ⟨A, c, [97]⟩ → Below w.heap.size w W → Calls Tryd.prog 21 #[.int .u32 1, .agg #[.int .u8 0, .int .u8 0, .int .u8 0, .int .u8 0, .int .u8 0, .int .u8 0, .int .u8 0, .int .u8 0, .int .u8 0, .int .u8 0, .int .u8 0, .int .u8 0, .int .u8 0, .int .u8 0, .int .u8 0, .int .u8 0], .int .u32 7, .agg #[.int .u8 1, .int .u8 0, .int .u8 0, .int .u8 0, .int .u8 0, .int .u8 0, .int .u8 0, .int .u8 0, .int .u8 0, .int .u8 0, .int .u8 0, .int .u8 0, .int .u8 0, .int .u8 0, .int .u8 0, .int .u8 0, .int .u8 0, .int .u8 0, .int .u8 0, .int .u8 0, .int .u8 0, .int .u8 0, .int .u8 0, .int .u8 0, .int .u8 0, .int .u8 0, .int .u8 0, .int .u8 0, .int .u8 0, .int .u8 0, .int .u8 0, .int .u8 0], .slice A 1 c] W (SignN (signL (nmL (List.replicate 16 0) 7) 1 (1 :: List.replicate 31 0) [97]) 0 W)) := Lib.hid (fun W A c h hb => sign_in 1 k1 (List.replicate 16 0) hid hio 7 (by decide) (1 :: List.replicate 31 0) seed_one A [97] c W h (by decide) (hL.below hb))
  have hcs := cand_sign (nm := nmL (List.replicate 16 0) 7) (seed := 1 :: List.replicate 31 0) (text := [97]) k1
  have hsl : (signL (nmL (List.replicate 16 0) 7) 1 (1 :: List.replicate 31 0) [97]).length = 36 + 32 * manyN 1 := signL_length
  have hsk := signL_kind (nm := nmL (List.replicate 16 0) 7) (seed := 1 :: List.replicate 31 0) (text := [97]) k1
  have hso : Octets (signL (nmL (List.replicate 16 0) 7) 1 (1 :: List.replicate 31 0) [97]) := signL_octets
  have GC : Hid (∀ W A cs B c, RwOk W W.heap.size ⟨A, cs, signL (nmL (List.replicate 16 0) 7) 1 (1 :: List.replicate 31 0) [97]⟩ → RwOk W W.heap.size ⟨B, c, [97]⟩ → Below w.heap.size w W → Calls Tryd.prog 23 #[.int .u32 1, .agg #[.int .u8 0, .int .u8 0, .int .u8 0, .int .u8 0, .int .u8 0, .int .u8 0, .int .u8 0, .int .u8 0, .int .u8 0, .int .u8 0, .int .u8 0, .int .u8 0, .int .u8 0, .int .u8 0, .int .u8 0, .int .u8 0], .int .u32 7, .slice A (signL (nmL (List.replicate 16 0) 7) 1 (1 :: List.replicate 31 0) [97]).length cs, .slice B 1 c] W (SumsN (candL (nmL (List.replicate 16 0) 7) 1 (dgsL (nmL (List.replicate 16 0) 7) 1 (((signL (nmL (List.replicate 16 0) 7) 1 (1 :: List.replicate 31 0) [97]).drop 4).take 32) [97]) (signL (nmL (List.replicate 16 0) 7) 1 (1 :: List.replicate 31 0) [97])) 0 W)) := Lib.hid (fun W A cs B c h1 h2 hb => cand_in 1 k1 (List.replicate 16 0) 7 A _ cs B [97] c W (by rw [hsl]; decide) h1 hsl hsk hid hio (by decide) h2 (by decide) (hL.below hb))
  rw [hcs] at GC
  have hP : D32 (pubL (nmL (List.replicate 16 0) 7) 1 (1 :: List.replicate 31 0)) := sumL_d32 _
  have GZ : Hid (∀ W, Calls Tryd.prog 17 #[.int .u32 3] W fun e w' => e = .returned (.int .i64 2180) ∧ W = w') := Lib.hid (fun W => size_any 3 W)
  clear hcs hsl hsk
  generalize pubL (nmL (List.replicate 16 0) 7) 1 (1 :: List.replicate 31 0) = P at *
  generalize signL (nmL (List.replicate 16 0) 7) 1 (1 :: List.replicate 31 0) [97] = sg at *
  have hPl := Lib.hid hP.1
  have HP := Lib.hid hP
  clear hP k1 hid hio
  have b0 : Below w.heap.size w w := Below.refl _ _
  have kc : ∀ W : World, (convert 35 35 (.slice (some ⟨W.heap.size, 0, none⟩) 1 1)).run Tryd.prog (W.alloc (.cells #[.int .u8 97] 5)) = .ok (.slice (some ⟨W.heap.size, 0, none⟩) 1 1) (W.alloc (.cells #[.int .u8 97] 5 (1, 2))) := fun W => Lib.run_convert_bytes_const (P := Tryd.prog) W 35 5 #[.int .u8 97] 1 1 Tryd.underlying35 Tryd.underlying5
  go_enter Tryd.func20, Tryd.ntmps20
  go_wp2_with (first
    | (have _t := b0; go_at_call 18; refine (GP.out _ b0).mono ?_; clear _t; rintro e w1 ⟨rfl, b1⟩; have z1 := res_new w1 26; clear b0)
    | (have _t := z1; refine wpList_store_arr rfl _ _ _ rfl (ys := P) z1 rfl rfl (by rw [hPl.out]; rfl) (by rw [hPl.out]; kernel_rfl) ?_; clear _t; intro w2 P2 g2
       have b2 := below_fill b1 b1.size g2
       have T2 := RwOk.marked w2 97 5 (1, 2) (by omega)
       have b2' := b2.trans ((below_last w2 (.cells #[.int .u8 97] 5 (1, 2))).mono b2.size)
       have P2' := P2.alloc (.cells #[.int .u8 97] 5 (1, 2))
       clear z1 g2 b1 P2 b2)
    | (have _t := T2; go_at_call 21; refine (GS.out _ _ _ T2 b2').mono ?_; clear _t; rintro e w3 ⟨v3, rfl, own3, hb3⟩
       have b3 := b2'.trans (hb3.mono b2'.size)
       have P3 : Arr w3 w1.heap.size 26 .u8 P := Block.below P2' hb3 (Block.lt P2')
       obtain ⟨As, cs, rfl, k3, m3, h3⟩ := own3.opened
       have S3 : RwOk w3 w3.heap.size ⟨As, cs, sg⟩ := ⟨k3, m3, hso, h3⟩
       have T3 := RwOk.marked w3 97 5 (1, 2) (by omega)
       have b3' := b3.trans ((below_last w3 (.cells #[.int .u8 97] 5 (1, 2))).mono b3.size)
       have P3' := P3.alloc (.cells #[.int .u8 97] 5 (1, 2))
       have S3' := S3.on (below_last w3 (.cells #[.int .u8 97] 5 (1, 2)))
       clear T2 b2' P2' hb3 own3 h3 b3 P3 S3)
    | (have _t := T3; go_at_call 23; refine (GC.out _ _ _ _ _ S3' T3 b3').mono ?_; clear _t; rintro e w4 ⟨rfl, hb4⟩
       have b4 := b3'.trans (hb4.mono b3'.size)
       have P4 : Arr w4 w1.heap.size 26 .u8 P := Block.below P3' hb4 (Block.lt P3')
       have z4 := res_new w4 26
       clear T3 b3' P3' S3' hb4)
    | (have _t := z4; refine wpList_store_arr rfl _ _ _ rfl (ys := P) z4 rfl rfl (by rw [hPl.out]; rfl) (by rw [hPl.out]; kernel_rfl) ?_; clear _t; intro w5 C5 g5
       have P5 := arr_kept P4 g5
       have b5 := below_fill b4 b4.size g5
       clear z4 g5 P4 b4)
    | (go_at_call 17; refine (GZ.out _).mono ?_; rintro e w6 ⟨rfl, rfl⟩)
    | (have _t := C5; refine wpList_load_arrG (by rfl) _ _ rfl C5 rfl arr32D rfl (by rw [hPl.out]; kernel_rfl) ?_)
    | (have _t := P5; refine wpList_load_arrG (by rfl) _ _ rfl P5 rfl arr32D rfl (by rw [hPl.out]; kernel_rfl) ?_)
    | (have _t := C5; refine wpList_eql_same (by rfl) _ _ _ rfl HP.out HP.out rfl rfl (decide_eq_true rfl) ?_))
  go_ret
  exact ⟨rfl, b5⟩
end Go.Proofs.YtdfgdchmeikigaaDoor.Ot
